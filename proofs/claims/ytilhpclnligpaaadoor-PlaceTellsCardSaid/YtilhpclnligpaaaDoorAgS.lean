/- Contracts of agree.may, agree.Same, the reference's outcomeMay; Num. -/
import Derived.Test.YtilhpclnligpaaaDoorHlp
namespace Go.Proofs.YtilhpclnligpaaaDoor
open Go.RowKit
set_option linter.unusedVariables false

def mayO (k n : Int) : Bool := decide ((k = 0 ∧ -1073741824 ≤ n ∧ n ≤ 1073741823) ∨ (k = 1 ∧ 0 ≤ n ∧ n ≤ 1) ∨ (k = 3 ∧ 0 ≤ n ∧ n ≤ 1) ∨ ((k = 2 ∨ k = 4 ∨ k = 5) ∧ n = 0))

set_option maxHeartbeats 400000 in
theorem may_any (k n : Int) (w : World) :
    Calls Tryd.prog 26 #[.agg #[.int .i64 k, .int .i64 n]] w fun e w' => e = .returned (.bool (mayO k n)) ∧ w' = w.alloc (.cells #[.int .i64 k, .int .i64 n] 23) := by
  go_enter Tryd.func26, Tryd.ntmps26
  go_wp2_with fail
  all_goals go_ret
  all_goals exact ⟨ret_b (by unfold mayO; (try simp only [beq_iff_eq, beq_eq_false_iff_ne, bne_iff_ne, ne_eq] at *); (first | rfl | exact decide_eq_decide.2 (by omega) | exact (decide_eq_false (by omega)).symm | exact (decide_eq_true (by omega)).symm | (rw [Bool.eq_iff_iff]; simp; omega))), rfl⟩

set_option maxHeartbeats 400000 in
theorem rmay_any (k n : Int) (w : World) :
    Calls Tryd.prog 20 #[.agg #[.int .i64 k, .int .i64 n]] w fun e w' => e = .returned (.bool (mayO k n)) ∧ w' = w.alloc (.cells #[.int .i64 k, .int .i64 n] 23) := by
  go_enter Tryd.func20, Tryd.ntmps20
  go_wp2_with fail
  all_goals go_ret
  all_goals exact ⟨ret_b (by unfold mayO; (try simp only [beq_iff_eq, beq_eq_false_iff_ne, bne_iff_ne, ne_eq] at *); (first | rfl | exact decide_eq_decide.2 (by omega) | exact (decide_eq_false (by omega)).symm | exact (decide_eq_true (by omega)).symm | (rw [Bool.eq_iff_iff]; simp; omega))), by first | rfl | simp_all⟩

def sameV (k n k' n' : Int) : Bool := mayO k n && mayO k' n' && decide ((k = k' ∧ n = n') ∨ k = 4 ∨ k' = 4)
def sameE (k n k' n' : Int) : Int := if mayO k n && mayO k' n' then 0 else 2200

set_option maxHeartbeats 400000 in
theorem same_any (k n k' n' : Int) (w : World) :
    Calls Tryd.prog 17 #[.agg #[.int .i64 k, .int .i64 n], .agg #[.int .i64 k', .int .i64 n']] w fun e w' => e = .returned (.tuple #[.bool (sameV k n k' n'), .int .i64 (sameE k n k' n')]) ∧ Below w.heap.size w w' := by
  cases h1 : mayO k n
  · have hv : Hid (sameV k n k' n' = false ∧ sameE k n k' n' = 2200) := Lib.hid (by unfold sameV sameE; rw [h1]; simp)
    have h1' := Lib.hid h1; clear h1
    go_enter Tryd.func17, Tryd.ntmps17
    go_wp2_with fail
    refine (may_any _ _ _).mono ?_
    rintro e w' ⟨rfl, rfl⟩
    rw [h1'.out]
    go_wp2_with fail
    go_ret2
    exact ⟨ret_bi hv.out.1.symm hv.out.2.symm, by (repeat' (first | with_reducible exact Below.refl _ _ | with_reducible assumption | with_reducible apply Below.setCell | with_reducible apply Below.alloc | with_reducible apply Below.drew | with_reducible apply below_drewN | exact Nat.le_refl _ | (simp; done) | (simp; omega)))⟩
  · cases h2 : mayO k' n'
    · have hv : Hid (sameV k n k' n' = false ∧ sameE k n k' n' = 2200) := Lib.hid (by unfold sameV sameE; rw [h1, h2]; simp)
      have h1' := Lib.hid h1; clear h1
      have h2' := Lib.hid h2; clear h2
      go_enter Tryd.func17, Tryd.ntmps17
      go_wp2_with fail
      refine (may_any _ _ _).mono ?_
      rintro e w' ⟨rfl, rfl⟩
      rw [h1'.out]
      go_wp2_with fail
      refine (may_any _ _ _).mono ?_
      rintro e w' ⟨rfl, rfl⟩
      rw [h2'.out]
      go_wp2_with fail
      go_ret2
      exact ⟨ret_bi hv.out.1.symm hv.out.2.symm, by (repeat' (first | with_reducible exact Below.refl _ _ | with_reducible assumption | with_reducible apply Below.setCell | with_reducible apply Below.alloc | with_reducible apply Below.drew | with_reducible apply below_drewN | exact Nat.le_refl _ | (simp; done) | (simp; omega)))⟩
    · have hv : Hid (sameV k n k' n' = decide ((k = k' ∧ n = n') ∨ k = 4 ∨ k' = 4) ∧ sameE k n k' n' = 0) := Lib.hid (by unfold sameV sameE; rw [h1, h2]; simp)
      have h1' := Lib.hid h1; clear h1
      have h2' := Lib.hid h2; clear h2
      go_enter Tryd.func17, Tryd.ntmps17
      go_wp2_with fail
      refine (may_any _ _ _).mono ?_
      rintro e w' ⟨rfl, rfl⟩
      rw [h1'.out]
      go_wp2_with fail
      refine (may_any _ _ _).mono ?_
      rintro e w' ⟨rfl, rfl⟩
      rw [h2'.out]
      go_wp2_with fail
      all_goals go_ret2
      all_goals exact ⟨ret_bi (by rw [hv.out.1]; (try simp only [beq_iff_eq, beq_eq_false_iff_ne, bne_iff_ne, ne_eq] at *); (first | rfl | exact decide_eq_decide.2 (by omega) | exact (decide_eq_false (by omega)).symm | exact (decide_eq_true (by omega)).symm | (rw [Bool.eq_iff_iff]; simp; omega))) hv.out.2.symm, by (repeat' (first | with_reducible exact Below.refl _ _ | with_reducible assumption | with_reducible apply Below.setCell | with_reducible apply Below.alloc | with_reducible apply Below.drew | with_reducible apply below_drewN | exact Nat.le_refl _ | (simp; done) | (simp; omega)))⟩
theorem num_any (e : Int) (w : World) (h0 : 0 ≤ e) (h1 : e ≤ 9223372036854775807) :
    Calls Tryd.prog 12 #[.int .i64 e] w fun r w' => r = .returned (.int .i64 e) ∧ w = w' := by
  go_enter Tryd.func12, Tryd.ntmps12
  go_wp2
  go_ret
  exact ⟨rfl, rfl⟩
end Go.Proofs.YtilhpclnligpaaaDoor
