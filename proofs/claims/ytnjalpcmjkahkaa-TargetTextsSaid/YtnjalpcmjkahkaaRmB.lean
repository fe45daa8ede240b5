/- The machine of layer 21: what it tells in the end, how many frames there are, a frame more. -/
import Derived.Test.YtnjalpcmjkahkaaRmA
namespace Go.Proofs.Ytnjalpcmjkahkaa
open Go.RowKit
set_option linter.unusedVariables false
set_option linter.unusedSimpArgs false

def outK (k n : Int) : Int × Int := if k = 0 then (0, n) else if k = 1 then (1, n) else if k = 2 ∨ k = 3 ∨ k = 4 then (2, 0) else (5, 0)
theorem out_kind {A : Nat → Prop} {W : World} {v : RV} {t : Th} (h : RR A W v (.inl t)) : outN v = outK t.a t.b := by
  cases v with
  | num n => cases h; rfl
  | tru n => cases h; rfl
  | fn n e => obtain ⟨c, l, h, _⟩ := h; cases h; rfl
  | bnd n e f => obtain ⟨c, l, d, u, h, _⟩ := h; cases h; rfl
  | fwd f g => obtain ⟨d, u, e, x, h, _⟩ := h; cases h; rfl
  | ret u => obtain ⟨d, u, h, _⟩ := h; cases h; rfl
  | op n u f => obtain ⟨d, u, e, x, h, _⟩ := h; cases h; rfl
  | nil => cases h
  | cons u r => obtain ⟨u, l, h, _⟩ := h; cases h
theorem out_ret {A : Nat → Prop} {W : World} {v : RV} {t : Th} (h : RR A W v (.inl t)) :
    (t.a ≠ 5 ∧ outR v = (5, 0)) ∨ (t.a = 5 ∧ ∃ g o k n, t.d = some ⟨g, o, none⟩ ∧ g < W.heap.size ∧ W.cell? ⟨g, o, none⟩ = some (.int .i64 k) ∧ W.cell? ⟨g, o + 1, none⟩ = some (.int .i64 n) ∧ outR v = outK k n) := by
  cases v with
  | num n => cases h; exact .inl ⟨by show (0 : Int) ≠ 5; decide, rfl⟩
  | tru n => cases h; exact .inl ⟨by show (1 : Int) ≠ 5; decide, rfl⟩
  | fn n e => obtain ⟨c, l, h, _⟩ := h; cases h; exact .inl ⟨by show (2 : Int) ≠ 5; decide, rfl⟩
  | bnd n e f => obtain ⟨c, l, d, u, h, _⟩ := h; cases h; exact .inl ⟨by show (3 : Int) ≠ 5; decide, rfl⟩
  | fwd f g => obtain ⟨d, u, e, x, h, _⟩ := h; cases h; exact .inl ⟨by show (4 : Int) ≠ 5; decide, rfl⟩
  | ret u =>
    obtain ⟨d, x, h, ⟨g, o, hd, hg, _, hc⟩, hu⟩ := h
    cases h
    exact .inr ⟨rfl, g, o, x.a, x.b, hd, hg, hc.1, hc.2.1, out_kind hu⟩
  | op n u f => obtain ⟨d, u, e, x, h, _⟩ := h; cases h; exact .inl ⟨by show (6 : Int) ≠ 5; decide, rfl⟩
  | nil => cases h
  | cons u r => obtain ⟨u, l, h, _⟩ := h; cases h

theorem outcome_any (A : Nat → Prop) (W : World) (v : RV) (t : Th) (h : Hid (RR A W v (.inl t))) :
    Calls Try.prog 72 #[t.val] W fun e w' => e = .returned (.agg #[.int .i64 (outR v).1, .int .i64 (outR v).2]) ∧ Below W.heap.size W w' := by
  rcases out_ret h.out with ⟨h5, ho⟩ | ⟨h5, g, o, k, n, hd, hg, hk, hn, ho⟩
  · rw [ho]
    obtain ⟨a, b, c, d, e⟩ := t
    clear h ho
    simp only at h5
    unfold Th.val
    go_enter Try.func72, Try.ntmps72
    go_wp2_with fail
    all_goals exact bodyPost_ret (v := .agg #[.int .i64 5, .int .i64 0]) (by simp [results, Try.results72, go_sem, *]) rfl ⟨rfl, by (repeat' (first | with_reducible exact Below.refl _ _ | with_reducible assumption | with_reducible apply Below.setCell | with_reducible apply Below.alloc | with_reducible apply Below.drew | with_reducible apply below_drewN | with_reducible exact Nat.le_refl _ | (simp; done) | (simp; omega) | omega | exact Nat.le_refl _))⟩
  · rw [ho]
    obtain ⟨a, b, c, d, e⟩ := t
    clear h ho
    simp only at h5 hd
    subst h5 hd
    obtain ⟨x, hq⟩ : ∃ x, outK k n = x := ⟨_, rfl⟩
    rw [hq]
    have hk6 : k = 0 ∨ k = 1 ∨ k = 2 ∨ k = 3 ∨ k = 4 ∨ (k ≠ 0 ∧ k ≠ 1 ∧ k ≠ 2 ∧ k ≠ 3 ∧ k ≠ 4) := by omega
    rcases hk6 with rfl | rfl | rfl | rfl | rfl | ⟨k0, k1, k2, k3, k4⟩
    all_goals (unfold outK at hq; simp [*] at hq; subst hq)
    all_goals unfold Th.val
    all_goals go_enter Try.func72, Try.ntmps72
    all_goals go_wp2_with fail
    all_goals exact bodyPost_ret (v := .agg #[.int .i64 _, .int .i64 _]) (by simp [results, Try.results72, go_sem, *]) rfl ⟨rfl, by (repeat' (first | with_reducible exact Below.refl _ _ | with_reducible assumption | with_reducible apply Below.setCell | with_reducible apply Below.alloc | with_reducible apply Below.drew | with_reducible apply below_drewN | with_reducible exact Nat.le_refl _ | (simp; done) | (simp; omega) | omega | exact Nat.le_refl _))⟩

theorem frames_any (w : World) (G : Nat) (tv fv : Value) (a : Option Addr) (n c : Nat) (m : Mc) (h : Hid (McC w G tv fv (.slice a n c) m)) :
    Calls Try.prog 68 #[.pointer (some ⟨G, 0, none⟩)] w fun e w' => e = .returned (.int .i64 n) ∧ Below w.heap.size w w' := by
  have hG := h.out.lt
  have hc5 := h.out.c5; have hfz := h.out.fz
  go_enter Try.func68, Try.ntmps68
  go_wp2_with fail
  go_ret
  exact ⟨rfl, by (repeat' (first | with_reducible exact Below.refl _ _ | with_reducible assumption | with_reducible apply Below.setCell | with_reducible apply Below.alloc | with_reducible apply Below.drew | with_reducible apply below_drewN | with_reducible exact Nat.le_refl _ | (simp; done) | (simp; omega) | omega | exact Nat.le_refl _))⟩
end Go.Proofs.Ytnjalpcmjkahkaa
