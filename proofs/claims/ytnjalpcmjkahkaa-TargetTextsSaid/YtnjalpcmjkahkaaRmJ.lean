/- The machine of layer 21: an operation that goes on with another function; what a value is. -/
import Derived.Test.YtnjalpcmjkahkaaRmI
import Derived.Test.YtnjalpcmjkahkaaEnW
namespace Go.Proofs.Ytnjalpcmjkahkaa
open Go.RowKit
set_option linter.unusedVariables false
set_option linter.unusedSimpArgs false

def ThrP (W : World) (t f : Th) (e : Ending) (w' : World) : Prop := ∃ b, e = .returned (.agg #[.int .i64 t.a, .int .i64 t.b, .pointer t.c, .pointer t.d, .pointer (some ⟨b, 0, none⟩)]) ∧ W.heap.size ≤ b ∧ b < w'.heap.size ∧ ThO w' b 0 f ∧ Below W.heap.size W w'
set_option maxRecDepth 100000 in
theorem through_any (W : World) (t f : Th) :
    Calls Try.prog 88 #[.agg #[.int .i64 t.a, .int .i64 t.b, .pointer t.c, .pointer t.d, .pointer t.e], .agg #[.int .i64 f.a, .int .i64 f.b, .pointer f.c, .pointer f.d, .pointer f.e]] W (ThrP W t f) := by
  obtain ⟨a, b, c, d, e⟩ := t
  obtain ⟨fa, fb, fc, fd, fe⟩ := f
  dsimp only
  go_enter Try.func88, Try.ntmps88
  go_wp2_with fail
  exact bodyPost_ret (v := .agg #[.int .i64 a, .int .i64 b, .pointer c, .pointer d, .pointer (some ⟨W.heap.size + 1, 0, none⟩)]) (by simp [results, Try.results88, go_sem, *]) rfl ⟨W.heap.size + 1, rfl, by omega, by simp, by simp [ThO, go_sem], by (repeat' (first | with_reducible exact Below.refl _ _ | with_reducible assumption | with_reducible apply Below.setCell | with_reducible apply Below.alloc | with_reducible apply Below.drew | with_reducible apply below_drewN | with_reducible exact Nat.le_refl _ | (simp; done) | (simp; omega) | omega | exact Nat.le_refl _))⟩

/-- a value that is returned, or an operation, or neither. -/
theorem rr_ret {A : Nat → Prop} {W : World} {v : RV} {t : Th} (h : RR A W v (.inl t)) :
    (∃ u d tu, v = .ret u ∧ t = ⟨5, 0, none, d, none⟩ ∧ BxC A W d tu ∧ RR A W u (.inl tu)) ∨
    (∃ n u g d e tu te, v = .op n u g ∧ t = ⟨6, n, none, d, e⟩ ∧ BxC A W d tu ∧ RR A W u (.inl tu) ∧ BxC A W e te ∧ RR A W g (.inl te)) ∨
    ((t.a ≠ 5 ∧ t.a ≠ 6) ∧ (∀ T stk n e, rBind T stk n e v = .en 5 0) ∧ ∀ T fur stk e, rCase T fur stk e v = .en 5 0) := by
  cases v with
  | num n => cases h; exact .inr (.inr ⟨⟨by show (0 : Int) ≠ 5; decide, by show (0 : Int) ≠ 6; decide⟩, fun _ _ _ _ => rfl, fun _ _ _ _ => rfl⟩)
  | tru n => cases h; exact .inr (.inr ⟨⟨by show (1 : Int) ≠ 5; decide, by show (1 : Int) ≠ 6; decide⟩, fun _ _ _ _ => rfl, fun _ _ _ _ => rfl⟩)
  | fn n e => obtain ⟨c, l, h, _⟩ := h; cases h; exact .inr (.inr ⟨⟨by show (2 : Int) ≠ 5; decide, by show (2 : Int) ≠ 6; decide⟩, fun _ _ _ _ => rfl, fun _ _ _ _ => rfl⟩)
  | bnd n e f => obtain ⟨c, l, d, u, h, _⟩ := h; cases h; exact .inr (.inr ⟨⟨by show (3 : Int) ≠ 5; decide, by show (3 : Int) ≠ 6; decide⟩, fun _ _ _ _ => rfl, fun _ _ _ _ => rfl⟩)
  | fwd f g => obtain ⟨d, u, e, x, h, _⟩ := h; cases h; exact .inr (.inr ⟨⟨by show (4 : Int) ≠ 5; decide, by show (4 : Int) ≠ 6; decide⟩, fun _ _ _ _ => rfl, fun _ _ _ _ => rfl⟩)
  | ret u => obtain ⟨d, x, h, hb, hr⟩ := h; cases h; exact .inl ⟨u, d, x, rfl, rfl, hb, hr⟩
  | op n u f => obtain ⟨d, x, e, y, h, hb, hr, hc, hs⟩ := h; cases h; exact .inr (.inl ⟨n, u, f, d, e, x, y, rfl, rfl, hb, hr, hc, hs⟩)
  | nil => cases h
  | cons u r => obtain ⟨u, l, h, _⟩ := h; cases h
theorem rr_cons {A : Nat → Prop} {W : World} {v e : RV} {t : Th} {l : List Th} (hv : RR A W v (.inl t)) (he : RR A W e (.inr l)) : RR A W (.cons v e) (.inr (t :: l)) := ⟨t, l, rfl, hv, he⟩
/-- a box that is new is one that may be kept. -/
theorem MRc.bx {B G : Nat} {tv fv sv : Value} {c : Mc} {l : List Fr} {w w' : World} (h : MRc B G tv fv sv c l w) {b o : Nat} {t : Th} (hb : w.heap.size ≤ b) (hl : b < w'.heap.size) (ht : ThO w' b o t) : BxC (Bp G sv) w' (some ⟨b, o, none⟩) t :=
  ⟨b, o, rfl, hl, fun hs => by
    rcases hs with hs | hs
    · have := h.mc.lt; omega
    · have := (own_lt h.own _ hs).2; omega, ht⟩
/-- one more that is bound. -/
theorem Wk.withv {B G : Nat} {tv fv sv : Value} {c : Mc} {l : List Fr} {ts : List Tg} {stk : List RF} {f : RF} {x : Fr} {v : RV} {t : Th} {w : World} (h : Wk B G tv fv sv c l ts stk f x v t w) {env u : RV} {p : Option Addr} {tu : Th} (hl : env.list.length ≤ 1000000000) :
    ∀ W, Below w.heap.size w W → (∃ e, EnR W (.pointer p) e ∧ RR (Bp G sv) W env (.inr e)) → RR (Bp G sv) W u (.inl tu) →
    Calls Try.prog 81 #[.agg #[.pointer p], .agg #[.int .i64 tu.a, .int .i64 tu.b, .pointer tu.c, .pointer tu.d, .pointer tu.e]] W fun e w' => ∃ p', e = .returned (.agg #[.pointer p']) ∧ (∃ e, EnR w' (.pointer p') e ∧ RR (Bp G sv) w' (.cons u env) (.inr e)) ∧ Below W.heap.size W w' := fun W hb he hu => by
  obtain ⟨e, hE, hR⟩ := he
  refine (eWith_any W (.pointer p) e tu (Lib.hid hE) (by have := hR.len; omega)).mono ?_
  rintro e1 w1 ⟨p', rfl, h1, h2⟩
  exact ⟨p', rfl, ⟨_, h1, rr_cons (hu.below h2) (hR.below h2)⟩, h2⟩
end Go.Proofs.Ytnjalpcmjkahkaa
