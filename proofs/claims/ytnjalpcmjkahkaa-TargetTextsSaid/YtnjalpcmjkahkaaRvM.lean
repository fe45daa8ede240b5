/- The values of layer 21's machine in memory. -/
import Derived.Test.YtnjalpcmjkahkaaRnP
import Derived.Test.YtnjalpcmjkahkaaEnB
namespace Go.Proofs.Ytnjalpcmjkahkaa
open Go.RowKit
set_option linter.unusedVariables false
set_option linter.unusedSimpArgs false

/-- a thing's cells from an offset on. -/
def ThO (W : World) (g o : Nat) (t : Th) : Prop := W.cell? ⟨g, o, none⟩ = some (.int .i64 t.a) ∧ W.cell? ⟨g, o + 1, none⟩ = some (.int .i64 t.b) ∧ W.cell? ⟨g, o + 2, none⟩ = some (.pointer t.c) ∧ W.cell? ⟨g, o + 3, none⟩ = some (.pointer t.d) ∧ W.cell? ⟨g, o + 4, none⟩ = some (.pointer t.e)
theorem ThO.bar {S : Nat → Prop} {W W' : World} {g o : Nat} {t : Th} (h : ThO W g o t) (hb : Bar S W W') (hn : ¬ S g) : ThO W' g o t :=
  ⟨hb.cell h.1 hn, hb.cell h.2.1 hn, hb.cell h.2.2.1 hn, hb.cell h.2.2.2.1 hn, hb.cell h.2.2.2.2 hn⟩
/-- a pointer to a thing, in a block that is none of A. -/
def BxC (A : Nat → Prop) (W : World) (p : Option Addr) (t : Th) : Prop := ∃ g o, p = some ⟨g, o, none⟩ ∧ g < W.heap.size ∧ ¬ A g ∧ ThO W g o t
theorem BxC.bar {A S : Nat → Prop} {W W' : World} {p : Option Addr} {t : Th} (h : BxC A W p t) (hb : Bar S W W') (hS : ∀ k, S k → A k) : BxC A W' p t := by
  obtain ⟨g, o, rfl, hg, hn, hc⟩ := h
  exact ⟨g, o, rfl, by have := hb.size; omega, hn, hc.bar hb fun hs => hn (hS _ hs)⟩
/-- none of a larger set, if what is new in it is none of W's blocks. -/
theorem BxC.wide {A A' : Nat → Prop} {W : World} {p : Option Addr} {t : Th} (h : BxC A W p t) (hA : ∀ k, k < W.heap.size → A' k → A k) : BxC A' W p t := by
  obtain ⟨g, o, rfl, hg, hn, hc⟩ := h
  exact ⟨g, o, rfl, hg, fun h => hn (hA _ hg h), hc⟩

/-- a value's thing, or what is bound, as a list of things. -/
def RR (A : Nat → Prop) (W : World) : RV → Th ⊕ List Th → Prop
  | .num n, x => x = .inl ⟨0, n, none, none, none⟩
  | .tru n, x => x = .inl ⟨1, n, none, none, none⟩
  | .fn node env, x => ∃ c l, x = .inl ⟨2, node, c, none, none⟩ ∧ EnR W (.pointer c) l ∧ RR A W env (.inr l)
  | .bnd node env f, x => ∃ c l d t, x = .inl ⟨3, node, c, d, none⟩ ∧ EnR W (.pointer c) l ∧ RR A W env (.inr l) ∧ BxC A W d t ∧ RR A W f (.inl t)
  | .fwd f who, x => ∃ d t e u, x = .inl ⟨4, 0, none, d, e⟩ ∧ BxC A W d t ∧ RR A W f (.inl t) ∧ BxC A W e u ∧ RR A W who (.inl u)
  | .ret v, x => ∃ d t, x = .inl ⟨5, 0, none, d, none⟩ ∧ BxC A W d t ∧ RR A W v (.inl t)
  | .op n v f, x => ∃ d t e u, x = .inl ⟨6, n, none, d, e⟩ ∧ BxC A W d t ∧ RR A W v (.inl t) ∧ BxC A W e u ∧ RR A W f (.inl u)
  | .nil, x => x = .inr []
  | .cons v r, x => ∃ t l, x = .inr (t :: l) ∧ RR A W v (.inl t) ∧ RR A W r (.inr l)

theorem RR.bar {A S : Nat → Prop} {W W' : World} (hb : Bar S W W') (hE : EnF S W) (hS : ∀ k, S k → A k) : ∀ {v : RV} {x : Th ⊕ List Th}, RR A W v x → RR A W' v x
  | .num _, _, h => h
  | .tru _, _, h => h
  | .fn _ _, _, ⟨c, l, hx, he, hr⟩ => ⟨c, l, hx, he.bar hb hE, RR.bar hb hE hS hr⟩
  | .bnd _ _ _, _, ⟨c, l, d, t, hx, he, hr, hd, hf⟩ => ⟨c, l, d, t, hx, he.bar hb hE, RR.bar hb hE hS hr, hd.bar hb hS, RR.bar hb hE hS hf⟩
  | .fwd _ _, _, ⟨d, t, e, u, hx, hd, hf, he, hg⟩ => ⟨d, t, e, u, hx, hd.bar hb hS, RR.bar hb hE hS hf, he.bar hb hS, RR.bar hb hE hS hg⟩
  | .ret _, _, ⟨d, t, hx, hd, hf⟩ => ⟨d, t, hx, hd.bar hb hS, RR.bar hb hE hS hf⟩
  | .op _ _ _, _, ⟨d, t, e, u, hx, hd, hf, he, hg⟩ => ⟨d, t, e, u, hx, hd.bar hb hS, RR.bar hb hE hS hf, he.bar hb hS, RR.bar hb hE hS hg⟩
  | .nil, _, h => h
  | .cons _ _, _, ⟨t, l, hx, hv, hr⟩ => ⟨t, l, hx, RR.bar hb hE hS hv, RR.bar hb hE hS hr⟩
theorem RR.wide {A A' : Nat → Prop} {W : World} (hA : ∀ k, k < W.heap.size → A' k → A k) : ∀ {v : RV} {x : Th ⊕ List Th}, RR A W v x → RR A' W v x
  | .num _, _, h => h
  | .tru _, _, h => h
  | .fn _ _, _, ⟨c, l, hx, he, hr⟩ => ⟨c, l, hx, he, RR.wide hA hr⟩
  | .bnd _ _ _, _, ⟨c, l, d, t, hx, he, hr, hd, hf⟩ => ⟨c, l, d, t, hx, he, RR.wide hA hr, hd.wide hA, RR.wide hA hf⟩
  | .fwd _ _, _, ⟨d, t, e, u, hx, hd, hf, he, hg⟩ => ⟨d, t, e, u, hx, hd.wide hA, RR.wide hA hf, he.wide hA, RR.wide hA hg⟩
  | .ret _, _, ⟨d, t, hx, hd, hf⟩ => ⟨d, t, hx, hd.wide hA, RR.wide hA hf⟩
  | .op _ _ _, _, ⟨d, t, e, u, hx, hd, hf, he, hg⟩ => ⟨d, t, e, u, hx, hd.wide hA, RR.wide hA hf, he.wide hA, RR.wide hA hg⟩
  | .nil, _, h => h
  | .cons _ _, _, ⟨t, l, hx, hv, hr⟩ => ⟨t, l, hx, RR.wide hA hv, RR.wide hA hr⟩
theorem RR.below {A : Nat → Prop} {W W' : World} {v : RV} {x : Th ⊕ List Th} (h : RR A W v x) (hb : Below W.heap.size W W') : RR A W' v x :=
  h.bar (Bar.of_below (S := fun _ => False) hb) (enF_no W) fun _ h => h.elim

theorem RR.len {A : Nat → Prop} {W : World} : ∀ {e : RV} {l : List Th}, RR A W e (.inr l) → e.list.length = l.length
  | .num _, _, h => by cases h
  | .tru _, _, h => by cases h
  | .fn _ _, _, ⟨_, _, h, _⟩ => by cases h
  | .bnd _ _ _, _, ⟨_, _, _, _, h, _⟩ => by cases h
  | .fwd _ _, _, ⟨_, _, _, _, h, _⟩ => by cases h
  | .ret _, _, ⟨_, _, h, _⟩ => by cases h
  | .op _ _ _, _, ⟨_, _, _, _, h, _⟩ => by cases h
  | .nil, _, h => by cases h; rfl
  | .cons _ _, _, ⟨t, l, h, _, hr⟩ => by cases h; simp only [RV.list, List.length_cons, hr.len]
theorem RR.get {A : Nat → Prop} {W : World} : ∀ {e : RV} {l : List Th} {i : Nat} {v : RV}, RR A W e (.inr l) → e.list[i]? = some v → ∃ t, l[i]? = some t ∧ RR A W v (.inl t)
  | .num _, _, _, _, h, _ => by cases h
  | .tru _, _, _, _, h, _ => by cases h
  | .fn _ _, _, _, _, ⟨_, _, h, _⟩, _ => by cases h
  | .bnd _ _ _, _, _, _, ⟨_, _, _, _, h, _⟩, _ => by cases h
  | .fwd _ _, _, _, _, ⟨_, _, _, _, h, _⟩, _ => by cases h
  | .ret _, _, _, _, ⟨_, _, h, _⟩, _ => by cases h
  | .op _ _ _, _, _, _, ⟨_, _, _, _, h, _⟩, _ => by cases h
  | .nil, _, i, _, _, hv => by cases hv
  | .cons a r, _, i, v, ⟨t, l, h, ha, hr⟩, hv => by
    cases h
    cases i with
    | zero => cases hv; exact ⟨t, rfl, ha⟩
    | succ i => exact RR.get (i := i) hr hv
/-- what is bound at an index, or nothing. -/
theorem RR.at_ {A : Nat → Prop} {W : World} {e : RV} {l : List Th} (h : RR A W e (.inr l)) (f : Int) :
    (e.atI f = none ∧ ansE l f = none) ∨ ∃ v t, e.atI f = some v ∧ ansE l f = some t ∧ RR A W v (.inl t) := by
  have hl := h.len
  unfold RV.atI ansE
  by_cases h0 : 0 ≤ f
  · by_cases h1 : f < l.length
    · right
      obtain ⟨v, hv⟩ : ∃ v, e.list[f.toNat]? = some v := ⟨_, List.getElem?_eq_getElem (by omega)⟩
      obtain ⟨t, ht, hr⟩ := h.get hv
      refine ⟨v, t, by rw [if_pos h0, hv], ?_, hr⟩
      rw [if_pos ⟨h0, h1⟩, List.getD_eq_getElem?_getD, ht]; rfl
    · left
      exact ⟨by rw [if_pos h0, List.getElem?_eq_none (by omega)], by rw [if_neg (by omega)]⟩
  · left; exact ⟨by rw [if_neg h0], by rw [if_neg (by omega)]⟩
end Go.Proofs.Ytnjalpcmjkahkaa
