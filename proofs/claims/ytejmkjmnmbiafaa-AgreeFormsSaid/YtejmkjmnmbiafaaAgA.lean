/- Contracts of package agree and of the reference's Fuel, SameOutcome. -/
import Derived.Test.YtejmkjmnmbiafaaChecked
import Derived.WalkKit
import Derived.ProofKit
import Derived.Below
import Derived.Lib.Hide
import Derived.IntWalk
import Derived.Outline
import Derived.BigQuiet
import Derived.Deep.QuietTactic
namespace Go.Proofs.Ytejmkjmnmbiafaa
open Go.RowKit
set_option linter.unusedVariables false

theorem bcell {W w1 : World} (hb : Below W.heap.size W w1) : (∀ b o, b < W.heap.size → w1.cell? ⟨b, o, none⟩ = W.cell? ⟨b, o, none⟩) ∧ (∀ b o, b < W.heap.size → w1.frozen? ⟨b, o, none⟩ = W.frozen? ⟨b, o, none⟩) :=
  ⟨fun b o h => hb.cell (p := ⟨b, o, none⟩) h, fun b o h => hb.frozen (p := ⟨b, o, none⟩) h⟩
theorem ret_i {k : IntKind} {a b : Int} (h : a = b) : Ending.returned (.int k a) = .returned (.int k b) := by rw [h]
theorem ret_b {a b : Bool} (h : a = b) : Ending.returned (.bool a) = .returned (.bool b) := by rw [h]
theorem ret_ii {k : IntKind} {a b c d : Int} (h : a = b) (h' : c = d) : Ending.returned (.tuple #[.int k a, .int k c]) = .returned (.tuple #[.int k b, .int k d]) := by rw [h, h']

def mayO (k n : Int) : Bool := decide ((k = 0 ∧ -1073741824 ≤ n ∧ n ≤ 1073741823) ∨ (k = 1 ∧ 0 ≤ n ∧ n ≤ 1) ∨ (k = 3 ∧ 0 ≤ n ∧ n ≤ 1) ∨ ((k = 2 ∨ k = 4 ∨ k = 5) ∧ n = 0))

set_option maxHeartbeats 400000 in
theorem may_any (k n : Int) (w : World) :
    Calls Try.prog 12 #[.agg #[.int .i64 k, .int .i64 n]] w fun e w' => e = .returned (.bool (mayO k n)) ∧ w' = w.alloc (.cells #[.int .i64 k, .int .i64 n] 23) := by
  go_enter Try.func12, Try.ntmps12
  go_wp2_with fail
  all_goals go_ret
  all_goals exact ⟨ret_b (by unfold mayO; (try simp only [beq_iff_eq, beq_eq_false_iff_ne, bne_iff_ne, ne_eq] at *); (first | rfl | exact decide_eq_decide.2 (by omega) | exact (decide_eq_false (by omega)).symm | exact (decide_eq_true (by omega)).symm | (rw [Bool.eq_iff_iff]; simp; omega))), rfl⟩

set_option maxHeartbeats 400000 in
theorem rmay_any (k n : Int) (w : World) :
    Calls Try.prog 13 #[.agg #[.int .i64 k, .int .i64 n]] w fun e w' => e = .returned (.bool (mayO k n)) ∧ w' = w.alloc (.cells #[.int .i64 k, .int .i64 n] 23) := by
  go_enter Try.func13, Try.ntmps13
  go_wp2_with fail
  all_goals go_ret
  all_goals exact ⟨ret_b (by unfold mayO; (try simp only [beq_iff_eq, beq_eq_false_iff_ne, bne_iff_ne, ne_eq] at *); (first | rfl | exact decide_eq_decide.2 (by omega) | exact (decide_eq_false (by omega)).symm | exact (decide_eq_true (by omega)).symm | (rw [Bool.eq_iff_iff]; simp; omega))), by first | rfl | simp_all⟩

def fuelV (s : Int) : Int := if 0 ≤ s ∧ s ≤ 30 then 1024 * (s + 1) * (s + 1) else 0
def fuelE (s : Int) : Int := if 0 ≤ s ∧ s ≤ 30 then 0 else 2200

theorem fuel_wrap (s : Int) (h0 : 0 ≤ s) (h1 : s ≤ 30) : wrap64 (1024 * (s + 1) * (s + 1)) = 1024 * (s + 1) * (s + 1) := by
  have h : (s + 1) * (s + 1) ≤ 31 * 31 := Int.mul_le_mul (by omega) (by omega) (by omega) (by omega)
  have h' : 0 ≤ (s + 1) * (s + 1) := Int.mul_nonneg (by omega) (by omega)
  rw [Int.mul_assoc]
  exact IntWalk.wrap64_in _ (by omega)

theorem fuel_any (s : Int) (w : World) :
    Calls Try.prog 6 #[.int .i64 s] w fun e w' => e = .returned (.tuple #[.int .i64 (fuelV s), .int .i64 (fuelE s)]) ∧ w = w' := by
  go_enter Try.func6, Try.ntmps6
  by_cases h0 : s < 0
  · go_wp2_with fail
    go_ret2
    exact ⟨ret_ii (by unfold fuelV; rw [if_neg (by omega)]) (by unfold fuelE; rw [if_neg (by omega)]), rfl⟩
  by_cases h1 : 30 < s
  · go_wp2_with fail
    go_ret2
    exact ⟨ret_ii (by unfold fuelV; rw [if_neg (by omega)]) (by unfold fuelE; rw [if_neg (by omega)]), rfl⟩
  · go_wp2_with fail
    go_ret2
    refine ⟨ret_ii ?_ (by unfold fuelE; rw [if_pos (by omega)]), rfl⟩
    unfold fuelV; rw [if_pos (by omega)]
    have hs : s.toNat ≤ 30 := by omega
    exact fuel_wrap s (by omega) (by omega)

theorem rfuel_any (s : Int) (w : World) :
    Calls Try.prog 7 #[.int .i64 s] w fun e w' => e = .returned (.tuple #[.int .i64 (fuelV s), .int .i64 (fuelE s)]) ∧ w = w' := by
  go_enter Try.func7, Try.ntmps7
  by_cases h0 : s < 0
  · go_wp2_with fail
    go_ret2
    exact ⟨ret_ii (by unfold fuelV; rw [if_neg (by omega)]) (by unfold fuelE; rw [if_neg (by omega)]), rfl⟩
  by_cases h1 : 30 < s
  · go_wp2_with fail
    go_ret2
    exact ⟨ret_ii (by unfold fuelV; rw [if_neg (by omega)]) (by unfold fuelE; rw [if_neg (by omega)]), rfl⟩
  · go_wp2_with fail
    go_ret2
    refine ⟨ret_ii ?_ (by unfold fuelE; rw [if_pos (by omega)]), rfl⟩
    unfold fuelV; rw [if_pos (by omega)]
    exact fuel_wrap s (by omega) (by omega)

def sameV (k n k' n' : Int) : Bool := mayO k n && mayO k' n' && decide ((k = k' ∧ n = n') ∨ k = 4 ∨ k' = 4)
def sameE (k n k' n' : Int) : Int := if mayO k n && mayO k' n' then 0 else 2200
theorem ret_bi {k : IntKind} {a b : Bool} {c d : Int} (h : a = b) (h' : c = d) : Ending.returned (.tuple #[.bool a, .int k c]) = .returned (.tuple #[.bool b, .int k d]) := by rw [h, h']

set_option maxHeartbeats 400000 in
theorem same_any (k n k' n' : Int) (w : World) :
    Calls Try.prog 8 #[.agg #[.int .i64 k, .int .i64 n], .agg #[.int .i64 k', .int .i64 n']] w fun e w' => e = .returned (.tuple #[.bool (sameV k n k' n'), .int .i64 (sameE k n k' n')]) ∧ Below w.heap.size w w' := by
  cases h1 : mayO k n
  · have hv : Hid (sameV k n k' n' = false ∧ sameE k n k' n' = 2200) := Lib.hid (by unfold sameV sameE; rw [h1]; simp)
    have h1' := Lib.hid h1; clear h1
    go_enter Try.func8, Try.ntmps8
    go_wp2_with fail
    refine (may_any _ _ _).mono ?_
    rintro e w' ⟨rfl, rfl⟩
    rw [h1'.out]
    go_wp2_with fail
    go_ret2
    exact ⟨ret_bi hv.out.1.symm hv.out.2.symm, by (repeat (first | exact Below.refl _ _ | refine Below.alloc ?_ (by first | exact Nat.le_refl _ | (simp; done) | (simp; omega)) _ | refine Below.drew ?_ | refine Below.drewN ?_ _))⟩
  · cases h2 : mayO k' n'
    · have hv : Hid (sameV k n k' n' = false ∧ sameE k n k' n' = 2200) := Lib.hid (by unfold sameV sameE; rw [h1, h2]; simp)
      have h1' := Lib.hid h1; clear h1
      have h2' := Lib.hid h2; clear h2
      go_enter Try.func8, Try.ntmps8
      go_wp2_with fail
      refine (may_any _ _ _).mono ?_
      rintro e w' ⟨rfl, rfl⟩
      rw [h1'.out]
      go_wp2_with fail
      refine (may_any _ _ _).mono ?_
      rintro e w' ⟨rfl, rfl⟩
      rw [h2'.out]
      go_wp2_with fail
      go_ret2
      exact ⟨ret_bi hv.out.1.symm hv.out.2.symm, by (repeat (first | exact Below.refl _ _ | refine Below.alloc ?_ (by first | exact Nat.le_refl _ | (simp; done) | (simp; omega)) _ | refine Below.drew ?_ | refine Below.drewN ?_ _))⟩
    · have hv : Hid (sameV k n k' n' = decide ((k = k' ∧ n = n') ∨ k = 4 ∨ k' = 4) ∧ sameE k n k' n' = 0) := Lib.hid (by unfold sameV sameE; rw [h1, h2]; simp)
      have h1' := Lib.hid h1; clear h1
      have h2' := Lib.hid h2; clear h2
      go_enter Try.func8, Try.ntmps8
      go_wp2_with fail
      refine (may_any _ _ _).mono ?_
      rintro e w' ⟨rfl, rfl⟩
      rw [h1'.out]
      go_wp2_with fail
      refine (may_any _ _ _).mono ?_
      rintro e w' ⟨rfl, rfl⟩
      rw [h2'.out]
      go_wp2_with fail
      all_goals go_ret2
      all_goals exact ⟨ret_bi (by rw [hv.out.1]; (try simp only [beq_iff_eq, beq_eq_false_iff_ne, bne_iff_ne, ne_eq] at *); (first | rfl | exact decide_eq_decide.2 (by omega) | exact (decide_eq_false (by omega)).symm | exact (decide_eq_true (by omega)).symm | (rw [Bool.eq_iff_iff]; simp; omega))) hv.out.2.symm, by (repeat (first | exact Below.refl _ _ | refine Below.alloc ?_ (by first | exact Nat.le_refl _ | (simp; done) | (simp; omega)) _ | refine Below.drew ?_ | refine Below.drewN ?_ _))⟩
set_option maxHeartbeats 400000 in
theorem rsame_any (k n k' n' : Int) (w : World) :
    Calls Try.prog 9 #[.agg #[.int .i64 k, .int .i64 n], .agg #[.int .i64 k', .int .i64 n']] w fun e w' => e = .returned (.tuple #[.bool (sameV k n k' n'), .int .i64 (sameE k n k' n')]) ∧ Below w.heap.size w w' := by
  cases h1 : mayO k n
  · have hv : Hid (sameV k n k' n' = false ∧ sameE k n k' n' = 2200) := Lib.hid (by unfold sameV sameE; rw [h1]; simp)
    have h1' := Lib.hid h1; clear h1
    go_enter Try.func9, Try.ntmps9
    go_wp2_with fail
    refine (rmay_any _ _ _).mono ?_
    rintro e w' ⟨rfl, rfl⟩
    rw [h1'.out]
    go_wp2_with fail
    go_ret2
    exact ⟨ret_bi hv.out.1.symm hv.out.2.symm, by (repeat (first | exact Below.refl _ _ | refine Below.alloc ?_ (by first | exact Nat.le_refl _ | (simp; done) | (simp; omega)) _ | refine Below.drew ?_ | refine Below.drewN ?_ _))⟩
  · cases h2 : mayO k' n'
    · have hv : Hid (sameV k n k' n' = false ∧ sameE k n k' n' = 2200) := Lib.hid (by unfold sameV sameE; rw [h1, h2]; simp)
      have h1' := Lib.hid h1; clear h1
      have h2' := Lib.hid h2; clear h2
      go_enter Try.func9, Try.ntmps9
      go_wp2_with fail
      refine (rmay_any _ _ _).mono ?_
      rintro e w' ⟨rfl, rfl⟩
      rw [h1'.out]
      go_wp2_with fail
      refine (rmay_any _ _ _).mono ?_
      rintro e w' ⟨rfl, rfl⟩
      rw [h2'.out]
      go_wp2_with fail
      go_ret2
      exact ⟨ret_bi hv.out.1.symm hv.out.2.symm, by (repeat (first | exact Below.refl _ _ | refine Below.alloc ?_ (by first | exact Nat.le_refl _ | (simp; done) | (simp; omega)) _ | refine Below.drew ?_ | refine Below.drewN ?_ _))⟩
    · have hv : Hid (sameV k n k' n' = decide ((k = k' ∧ n = n') ∨ k = 4 ∨ k' = 4) ∧ sameE k n k' n' = 0) := Lib.hid (by unfold sameV sameE; rw [h1, h2]; simp)
      have h1' := Lib.hid h1; clear h1
      have h2' := Lib.hid h2; clear h2
      go_enter Try.func9, Try.ntmps9
      go_wp2_with fail
      refine (rmay_any _ _ _).mono ?_
      rintro e w' ⟨rfl, rfl⟩
      rw [h1'.out]
      go_wp2_with fail
      refine (rmay_any _ _ _).mono ?_
      rintro e w' ⟨rfl, rfl⟩
      rw [h2'.out]
      go_wp2_with fail
      all_goals go_ret2
      all_goals exact ⟨ret_bi (by rw [hv.out.1]; (try simp only [beq_iff_eq, beq_eq_false_iff_ne, bne_iff_ne, ne_eq] at *); (first | rfl | exact decide_eq_decide.2 (by omega) | exact (decide_eq_false (by omega)).symm | exact (decide_eq_true (by omega)).symm | (rw [Bool.eq_iff_iff]; simp; omega))) hv.out.2.symm, by (repeat (first | exact Below.refl _ _ | refine Below.alloc ?_ (by first | exact Nat.le_refl _ | (simp; done) | (simp; omega)) _ | refine Below.drew ?_ | refine Below.drewN ?_ _))⟩
theorem num_any (e : Int) (w : World) (h0 : 0 ≤ e) (h1 : e ≤ 9223372036854775807) :
    Calls Try.prog 10 #[.int .i64 e] w fun r w' => r = .returned (.int .i64 e) ∧ w = w' := by
  go_enter Try.func10, Try.ntmps10
  go_wp2
  go_ret
  exact ⟨rfl, rfl⟩
end Go.Proofs.Ytejmkjmnmbiafaa
