/- The machine of layer 21: its state in memory. -/
import Derived.Test.YtnjalpcmjkahkaaZt11
import Derived.Test.YtnjalpcmjkahkaaZt21
import Derived.Deep.Slices
import Derived.Deep.Fields
import Derived.ChangeSame
set_option maxRecDepth 100000
set_option maxHeartbeats 8000000
namespace Go.Proofs.Ytnjalpcmjkahkaa
open Go.RowKit
set_option linter.unusedVariables false
set_option linter.unusedSimpArgs false
theorem RR.step {G : Nat} {sv sv' : Value} {w w' : World} {v : RV} {x : Th ⊕ List Th} (h : RR (Bp G sv) w v x) (hb : Bar (Bp G sv) w w') (hE : EnF (Bp G sv) w) (hs : ∀ g, sv'.ownBlock = some g → sv.ownBlock = some g ∨ w.heap.size ≤ g) : RR (Bp G sv') w' v x := by
 have h1 : RR (fun k => Bp G sv k ∨ Bp G sv' k) w v x := h.wide fun k hk h => by
  rcases h with h | h | h
  ·exact h
  ·exact .inl h
  ·rcases hs k h with h | h
   ·exact .inr h
   ·omega
 exact (h1.bar hb hE fun k hk => .inl hk).wide fun k _ h => .inr h
theorem EnR.step {S : Nat → Prop} {w w' : World} {p : Value} {l : List Th} (h : EnR w p l) (hb : Bar S w w') (hE : EnF S w) : EnR w' p l := h.bar hb hE
def FrR (A : Nat → Prop) (W : World) (f : RF) (x : Fr) : Prop := x.st = f.st ∧ x.nd = f.node ∧ (∃ l, EnR W (.pointer x.en) l ∧ RR A W f.env (.inr l)) ∧ RR A W f.val (.inl x.th)
def StR (A : Nat → Prop) (W : World) : List RF → List Fr → Prop
 | [], l => l = []
 | f :: s, l => ∃ l' x, l = l' ++ [x] ∧ FrR A W f x ∧ StR A W s l'
theorem StR.len {A : Nat → Prop} {W : World} : ∀ {s : List RF} {l : List Fr}, StR A W s l → l.length = s.length
 | [], _, h => by rw [show _ = [] from h]; rfl
 | f :: s, _, ⟨l', x, h, _, hs⟩ => by rw [h, List.length_append, hs.len]; rfl
theorem FrR.step {G : Nat} {sv sv' : Value} {w w' : World} {f : RF} {x : Fr} (h : FrR (Bp G sv) w f x) (hb : Bar (Bp G sv) w w') (hE : EnF (Bp G sv) w) (hs : ∀ g, sv'.ownBlock = some g → sv.ownBlock = some g ∨ w.heap.size ≤ g) : FrR (Bp G sv') w' f x := by
 obtain ⟨h1, h2, ⟨l, h3, h4⟩, h5⟩ := h
 exact ⟨h1, h2, ⟨l, h3.bar hb hE, h4.step hb hE hs⟩, h5.step hb hE hs⟩
theorem StR.step {G : Nat} {sv sv' : Value} {w w' : World} (hb : Bar (Bp G sv) w w') (hE : EnF (Bp G sv) w) (hs : ∀ g, sv'.ownBlock = some g → sv.ownBlock = some g ∨ w.heap.size ≤ g) : ∀ {s : List RF} {l : List Fr}, StR (Bp G sv) w s l → StR (Bp G sv') w' s l
 | [], _, h => h
 | f :: s, _, ⟨l', x, h, hf, hr⟩ => ⟨l', x, h, hf.step hb hE hs, StR.step hb hE hs hr⟩
theorem own_tyF {B : Nat} {w : World} {v : Value} {l : List Fr} (h : OwnF B w v l) : ∀ g, v.ownBlock = some g → TyAt w g 129 := by
 intro g hg
 rcases h.2 with ⟨h1, _⟩ | ⟨g', cap, cur, h1, _, h2, _⟩
 ·rw [h1] at hg; cases hg
 ·rw [h1] at hg
  have : g' = g := Option.some.inj hg
  subst this
  exact ⟨cur, (0, 0), h2⟩
theorem enF_of {B G : Nat} {w : World} {sv : Value} {l : List Fr} (h : OwnF B w sv l) (hG : TyAt w G 58) : EnF (Bp G sv) w := by
 intro g hg
 rcases hg with hg | hg
 ·subst hg
  exact ⟨fun h2 => TyAt.ne hG h2 (by decide) rfl, fun h2 => TyAt.ne hG h2 (by decide) rfl⟩
 ·have := own_tyF h g hg
  exact ⟨fun h2 => TyAt.ne this h2 (by decide) rfl, fun h2 => TyAt.ne this h2 (by decide) rfl⟩
structure MRc (B G : Nat) (tv fv sv : Value) (c : Mc) (l : List Fr) (w : World) : Prop where
 mc : McC w G tv fv sv c
 own : OwnF B w sv l
 gB : G < B
 bl : B ≤ w.heap.size
 kS : ∀ k, sv.ownBlock = some k → ¬ c.w0.2 k
def MRv (G : Nat) (sv : Value) (c : Mc) (l : List Fr) (w : World) : RM → Prop
 | .ev stk node env => c.ended = false ∧ c.hv = false ∧ c.nd = node ∧ StR (Bp G sv) w stk l ∧ ∃ e, EnR w (.pointer c.en) e ∧ RR (Bp G sv) w env (.inr e)
 | .gv stk v => c.ended = false ∧ c.hv = true ∧ StR (Bp G sv) w stk l ∧ RR (Bp G sv) w v (.inl c.th)
 | .en k n => c.ended = true ∧ c.k = k ∧ c.n = n
def MR (w0 : Gh) (B G : Nat) (tv fv : Value) (m : RM) (w : World) : Prop := ∃ sv c l, c.w0 = w0 ∧ MRc B G tv fv sv c l w ∧ MRv G sv c l w m
theorem MRc.enF {B G : Nat} {tv fv sv : Value} {c : Mc} {l : List Fr} {w : World} (h : MRc B G tv fv sv c l w) : EnF (Bp G sv) w := enF_of h.own h.mc.ty
theorem MRc.noG {B G : Nat} {tv fv sv : Value} {c : Mc} {l : List Fr} {w : World} (h : MRc B G tv fv sv c l w) : ∀ k, sv.ownBlock = some k → ¬ (Bq G) k := fun k hk e => by
 have h1 := (own_lt h.own k hk).1
 have h2 := h.gB
 have e : k = G := e
 omega
theorem MRc.below {B G : Nat} {tv fv sv : Value} {c : Mc} {l : List Fr} {w w' : World} (h : MRc B G tv fv sv c l w) (hb : Below w.heap.size w w') : MRc B G tv fv sv c l w' :=
 ⟨h.mc.below hb, h.own.below hb, h.gB, by have := h.bl; have := hb.size; omega, h.kS⟩
open Go.RowKit
def TArg (w : World) (p : Option Addr) (n : Nat) (ts : List Tg) : Prop :=
 ts.length = n ∧ (n = 0 ∨ ∃ b off, p = some ⟨b, off, none⟩ ∧ TgSl w b off ts ∧ b < w.heap.size)
theorem sl_of_cells (W : World) (b off : Nat) : ∀ (n : Nat), (∀ i, i < n → ∀ j, j < 9 → ∃ x : Int, W.cell? ⟨b, off + i * 9 + j, none⟩ = some (.int .i64 x)) → ∃ ts : List Tg, ts.length = n ∧ TgSl W b off ts := by
 intro n
 induction n with
 | zero => intro _; exact ⟨[], rfl, fun i hi => by simp at hi⟩
 | succ n ih =>
  intro h
  obtain ⟨ts, hl, hs⟩ := ih (fun i hi => h i (by omega))
  obtain ⟨x0, h0⟩ := h n (by omega) 0 (by omega)
  obtain ⟨x1, h1⟩ := h n (by omega) 1 (by omega)
  obtain ⟨x2, h2⟩ := h n (by omega) 2 (by omega)
  obtain ⟨x3, h3⟩ := h n (by omega) 3 (by omega)
  obtain ⟨x4, h4⟩ := h n (by omega) 4 (by omega)
  obtain ⟨x5, h5⟩ := h n (by omega) 5 (by omega)
  obtain ⟨x6, h6⟩ := h n (by omega) 6 (by omega)
  obtain ⟨x7, h7⟩ := h n (by omega) 7 (by omega)
  obtain ⟨x8, h8⟩ := h n (by omega) 8 (by omega)
  refine ⟨ts ++ [⟨x0, x1, x2, x3, x4, x5, x6, x7, x8⟩], by simp [hl], ?_⟩
  intro i hi
  by_cases hin : i < n
  ·have := hs i (by omega)
   rwa [List.getD_eq_getElem?_getD, List.getElem?_append_left (by omega), ← List.getD_eq_getElem?_getD]
  ·obtain rfl : i = n := by simp [hl] at hi; omega
   rw [List.getD_eq_getElem?_getD, List.getElem?_append_right (by omega), hl, Nat.sub_self]
   exact ⟨h0, h1, h2, h3, h4, h5, h6, h7, h8⟩
theorem lend_arg (p : Option Addr) (n c : Nat) (ts : List Tg) (w : World) (h : Hid (TArg w p n ts)) (hl : n * 72 ≤ 140737488351232) :
  Calls Try.prog 7 #[.slice p n c] w (LendPost ts w) := by
 obtain ⟨hn, h0 | ⟨b, off, rfl, hs, hb⟩⟩ := h.out
 ·subst h0
  obtain rfl := List.eq_nil_of_length_eq_zero hn
  exact lend_tail _ [] w (.inl ⟨⟨_, _, rfl⟩, rfl⟩) (by simp)
 ·subst hn
  exact lend_tail _ ts w (.inr ⟨b, off, c, rfl, Lib.hid hs, hb⟩) hl
theorem kept_arg (p : Option Addr) (n c g cap : Nat) (ts : List Tg) (w : World) (h : Hid (TArg w p n ts)) (hl : n * 72 ≤ 140737488351232) (hc : ts.length + 2 ≤ cap) (hg : Hid (TgSl w g 0 (ts ++ [t7, t7]))) (hgs : g < w.heap.size) :
  Calls Try.prog 11 #[.slice (some ⟨g, 0, none⟩) ts.length cap, .slice p n c] w fun e w' => e = .returned (.bool true) ∧ Below w.heap.size w w' := by
 obtain ⟨hn, h0 | ⟨b, off, rfl, hs, hb⟩⟩ := h.out
 ·subst h0
  obtain rfl := List.eq_nil_of_length_eq_zero hn
  exact Kept_any _ g cap [] w (.inl ⟨⟨_, _, rfl⟩, rfl⟩) (by simp) hc hg hgs
 ·subst hn
  exact Kept_any _ g cap ts w (.inr ⟨b, off, c, rfl, Lib.hid hs, hb⟩) hl hc hg hgs
theorem TArg.below {B : Nat} {w w' : World} {p : Option Addr} {n : Nat} {ts : List Tg} (h : TArg w p n ts) (hb : Below B w w') (hB : w.heap.size ≤ B) : TArg w' p n ts := by
 obtain ⟨hn, h0 | ⟨b, off, rfl, hs, hbl⟩⟩ := h
 ·exact ⟨hn, .inl h0⟩
 ·exact ⟨hn, .inr ⟨b, off, rfl, hs.below hb (by omega), by have := hb.size; omega⟩⟩
section
open Go.ChangeShapes Go.WideShapes Go.Deep
variable {H : Type} {enc : TypeId × Value → H} {P : Program} {w : World} {base : Nat} {spare : Nat → Bool} {held : Bool}
theorem addr_add (b off k : Nat) : (⟨b, off, none⟩ : Addr).add k = ⟨b, off + k, none⟩ := by
 unfold Addr.add
 by_cases h : k = 0 <;> simp [h]
theorem slice_len {t e fuel : Nat} {p : Option Addr} {len cap : Nat} {d : DataW H} {pl : List MemPlace} (ht : P.underlying t = some (.slice e))
  (h : DataW.trod enc P w base spare held fuel t [.slice p len cap] = some (d, pl)) : len = 0 ∨ ∃ el sp, d = .slice el sp ∧ el.length = len := by
 rcases open_slice ht h with ⟨hcs, _⟩ | ⟨a, len', cap', m, fu, D, Pl, hcs, _, _, _, _, hx, _⟩
 ·simp at hcs
  exact .inl hcs.2.1
 ·simp only [List.cons.injEq, Value.slice.injEq, and_true] at hcs
  obtain ⟨_, rfl, _⟩ := hcs
  simp only [Prod.mk.injEq] at hx
  exact .inr ⟨_, _, hx.1, by simp⟩
theorem int_rows {t e K fuel : Nat} {fs : Array Field} {p : Option Addr} {len cap : Nat} {x : DataW H × List MemPlace} (ht : P.underlying t = some (.slice e)) (he : P.underlying e = some (.struct fs))
  (hone : oneCellFields P fs = true) (hC : P.cellsOf e = K) (hK : K = fs.size) (h0K : 0 < K) (hint : ∀ (j : Nat) (f : Field), fs[j]? = some f → P.underlying f.type = some (.int .i64))
  (h : DataW.trod enc P w base spare held fuel t [.slice p len cap] = some x) :
  len = 0 ∨ ∃ b off, p = some ⟨b, off, none⟩ ∧ ∀ i, i < len → ∀ j, j < K → ∃ n : Int, w.cell? ⟨b, off + i * K + j, none⟩ = some (.int .i64 n) := by
 rcases open_slice ht h with ⟨hcs, _⟩ | ⟨a, len', cap', m, fu, D, Pl, hcs, _, hlc, _, hm, _, hi⟩
 ·simp at hcs
  exact .inl hcs.2.1
 ·simp only [List.cons.injEq, Value.slice.injEq, and_true] at hcs
  obtain ⟨rfl, rfl, rfl⟩ := hcs
  by_cases h0 : len = 0
  ·exact .inl h0
  have hml : len ≤ m := by rw [hm]; split <;> omega
  have key : ∀ i, i < len → ∀ j, j < K → ∃ n : Int, w.cell? (a.add (i * K + j)) = some (.int .i64 n) := by
   intro i hil j hjK
   obtain ⟨cs', hc, hd⟩ := hi i (by omega)
   rw [hC] at hc
   obtain ⟨_, _, hat⟩ := World.cells?_some hc
   obtain ⟨xs, n', _, _, _, hxl, hf⟩ := DataW.trod_struct he hd
   have hj : j < fs.size := by omega
   obtain ⟨ho, hk⟩ := hone_of hone j fs[j] (by simp [hj])
   have h1 := hf j fs[j] (by simp [hj])
   rw [ho, hk, List.getElem?_eq_getElem (by omega)] at h1
   obtain ⟨n, hn, _, _⟩ := DataW.trod_int (hint j fs[j] (by simp [hj])) h1
   refine ⟨n, ?_⟩
   have hcell := hat j hjK
   rw [add_add] at hcell
   rw [hcell]
   have := congrArg (fun l => l[0]?) hn
   simpa [List.getElem?_take] using this
  obtain ⟨n0, hn0⟩ := key 0 (by omega) 0 h0K
  obtain ⟨b, off, sp⟩ := a
  have hsp : sp = none := by
   have := World.cell?_spot hn0
   simpa [Addr.add] using this
  subst hsp
  refine .inr ⟨b, off, rfl, ?_⟩
  intro i hil j hjK
  obtain ⟨n, hn⟩ := key i hil j hjK
  rw [addr_add] at hn
  exact ⟨n, by rw [show off + i * K + j = off + (i * K + j) from by omega]; exact hn⟩
end
end Go.Proofs.Ytnjalpcmjkahkaa
