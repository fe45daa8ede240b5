/- The machine of layer 21: its state in memory. -/
import Derived.Test.YtnjalpcmjkahkaaRmC
namespace Go.Proofs.Ytnjalpcmjkahkaa
open Go.RowKit
set_option linter.unusedVariables false
set_option linter.unusedSimpArgs false

/-- what a call leaves of a value, if it turns the machine's object and the frames' row. -/
theorem RR.step {G : Nat} {sv sv' : Value} {w w' : World} {v : RV} {x : Th ⊕ List Th} (h : RR (Bp G sv) w v x) (hb : Bar (Bp G sv) w w') (hE : EnF (Bp G sv) w) (hs : ∀ g, sv'.ownBlock = some g → sv.ownBlock = some g ∨ w.heap.size ≤ g) : RR (Bp G sv') w' v x := by
  have h1 : RR (fun k => Bp G sv k ∨ Bp G sv' k) w v x := h.wide fun k hk h => by
    rcases h with h | h | h
    · exact h
    · exact .inl h
    · rcases hs k h with h | h
      · exact .inr h
      · omega
  exact (h1.bar hb hE fun k hk => .inl hk).wide fun k _ h => .inr h
theorem EnR.step {S : Nat → Prop} {w w' : World} {p : Value} {l : List Th} (h : EnR w p l) (hb : Bar S w w') (hE : EnF S w) : EnR w' p l := h.bar hb hE

def FrR (A : Nat → Prop) (W : World) (f : RF) (x : Fr) : Prop := x.st = f.st ∧ x.nd = f.node ∧ (∃ l, EnR W (.pointer x.en) l ∧ RR A W f.env (.inr l)) ∧ RR A W f.val (.inl x.th)
/-- frames, the top one first, as a row of frames, the top one last. -/
def StR (A : Nat → Prop) (W : World) : List RF → List Fr → Prop
  | [], l => l = []
  | f :: s, l => ∃ l' x, l = l' ++ [x] ∧ FrR A W f x ∧ StR A W s l'
theorem StR.len {A : Nat → Prop} {W : World} : ∀ {s : List RF} {l : List Fr}, StR A W s l → l.length = s.length
  | [], _, h => by rw [show _ = [] from h]; rfl
  | f :: s, _, ⟨l', x, h, _, hs⟩ => by rw [h, List.length_append, hs.len]; rfl
theorem FrR.step {G : Nat} {sv sv' : Value} {w w' : World} {f : RF} {x : Fr} (h : FrR (Bp G sv) w f x) (hb : Bar (Bp G sv) w w') (hE : EnF (Bp G sv) w) (hs : ∀ g, sv'.ownBlock = some g → sv.ownBlock = some g ∨ w.heap.size ≤ g) : FrR (Bp G sv') w' f x := by
  obtain ⟨h1, h2, ⟨l, h3, h4⟩, h5⟩ := h
  exact ⟨h1, h2, ⟨l, h3.bar hb hE, h4.step hb hE hs⟩, h5.step hb hE hs⟩
theorem StR.step {G : Nat} {sv sv' : Value} {w w' : World} (hb : Bar (Bp G sv) w w') (hE : EnF (Bp G sv) w) (hs : ∀ g, sv'.ownBlock = some g → sv.ownBlock = some g ∨ w.heap.size ≤ g) : ∀ {s : List RF} {l : List Fr}, StR (Bp G sv) w s l → StR (Bp G sv') w' s l
  | [], _, h => h
  | f :: s, _, ⟨l', x, h, hf, hr⟩ => ⟨l', x, h, hf.step hb hE hs, StR.step hb hE hs hr⟩

theorem own_tyF {B : Nat} {w : World} {v : Value} {l : List Fr} (h : OwnF B w v l) : ∀ g, v.ownBlock = some g → TyAt w g 129 := by
  intro g hg
  rcases h.2 with ⟨h1, _⟩ | ⟨g', cap, cur, h1, _, h2, _⟩
  · rw [h1] at hg; cases hg
  · rw [h1] at hg
    have : g' = g := Option.some.inj hg
    subst this
    exact ⟨cur, (0, 0), h2⟩
theorem enF_of {B G : Nat} {w : World} {sv : Value} {l : List Fr} (h : OwnF B w sv l) (hG : TyAt w G 58) : EnF (Bp G sv) w := by
  intro g hg
  rcases hg with hg | hg
  · subst hg
    exact ⟨fun h2 => TyAt.ne hG h2 (by decide) rfl, fun h2 => TyAt.ne hG h2 (by decide) rfl⟩
  · have := own_tyF h g hg
    exact ⟨fun h2 => TyAt.ne this h2 (by decide) rfl, fun h2 => TyAt.ne this h2 (by decide) rfl⟩

/-- the state of the machine, its object's cells and its row told. -/
structure MRc (B G : Nat) (tv fv sv : Value) (c : Mc) (l : List Fr) (w : World) : Prop where
  mc : McC w G tv fv sv c
  own : OwnF B w sv l
  gB : G < B
  bl : B ≤ w.heap.size
  kS : ∀ k, sv.ownBlock = some k → ¬ c.w0.2 k
def MRv (G : Nat) (sv : Value) (c : Mc) (l : List Fr) (w : World) : RM → Prop
  | .ev stk node env => c.ended = false ∧ c.hv = false ∧ c.nd = node ∧ StR (Bp G sv) w stk l ∧ ∃ e, EnR w (.pointer c.en) e ∧ RR (Bp G sv) w env (.inr e)
  | .gv stk v => c.ended = false ∧ c.hv = true ∧ StR (Bp G sv) w stk l ∧ RR (Bp G sv) w v (.inl c.th)
  | .en k n => c.ended = true ∧ c.k = k ∧ c.n = n
def MR (w0 : Gh) (B G : Nat) (tv fv : Value) (m : RM) (w : World) : Prop := ∃ sv c l, c.w0 = w0 ∧ MRc B G tv fv sv c l w ∧ MRv G sv c l w m
theorem MRc.enF {B G : Nat} {tv fv sv : Value} {c : Mc} {l : List Fr} {w : World} (h : MRc B G tv fv sv c l w) : EnF (Bp G sv) w := enF_of h.own h.mc.ty
theorem MRc.noG {B G : Nat} {tv fv sv : Value} {c : Mc} {l : List Fr} {w : World} (h : MRc B G tv fv sv c l w) : ∀ k, sv.ownBlock = some k → ¬ (Bq G) k := fun k hk e => by
  have h1 := (own_lt h.own k hk).1
  have h2 := h.gB
  have e : k = G := e
  omega
theorem MRc.below {B G : Nat} {tv fv sv : Value} {c : Mc} {l : List Fr} {w w' : World} (h : MRc B G tv fv sv c l w) (hb : Below w.heap.size w w') : MRc B G tv fv sv c l w' :=
  ⟨h.mc.below hb, h.own.below hb, h.gB, by have := h.bl; have := hb.size; omega, h.kS⟩
end Go.Proofs.Ytnjalpcmjkahkaa
