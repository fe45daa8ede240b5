/- Contracts of package source: Width, Valid; and of the reference's Width, Valid. -/
import Derived.Test.YtfajbkpeioejoaaDoorSrcB
import Derived.Lib.Strings
namespace Go.Proofs.YtfajbkpeioejoaaDoor
open Go.RowKit
set_option linter.unusedVariables false
set_option linter.unusedSimpArgs false

theorem bAt_ext (s : ByteArray) (a i : Nat) : bAt (s.extract a s.size) i = bAt s (a + i) := by
  unfold bAt
  have : (s.extract a s.size).data.toList = s.data.toList.drop a := by
    rw [Lib.extract_data, Lib.size_eq]
    exact List.take_of_length_le (by simp)
  rw [this, List.getElem?_drop]

theorem widF_ext (s : ByteArray) (a : Nat) (h : a ≤ s.size) : widF (s.extract a s.size) 0 = widF s a := by
  have h1 : bAt (s.extract a s.size) 0 = bAt s a := by rw [bAt_ext]; rfl
  have h2 : ∀ j, okB (s.extract a s.size) 0 j = okB s a j := by
    intro j; unfold okB; simp only [bAt_ext, Nat.zero_add, Nat.add_zero]
  have h3 : allB (s.extract a s.size) 0 = allB s a := by funext k; unfold allB; simp only [h2]
  have h4 : (s.extract a s.size).size = s.size - a := by simp
  unfold widF
  rw [h1, h3, h4]
  have : decide (((0 : Nat) : Int) + leadF (bAt s a) ≤ ((s.size - a : Nat) : Int)) = decide ((a : Int) + leadF (bAt s a) ≤ (s.size : Int)) := by
    rw [decide_eq_decide]; omega
  rw [this]
theorem widF_bd (s : ByteArray) (a : Nat) : 0 ≤ widF s a ∧ widF s a ≤ 4 ∧ (0 < widF s a → (a : Int) + widF s a ≤ s.size) := by
  unfold widF
  have := leadF_bd (bAt s a)
  by_cases h : (decide ((a : Int) + leadF (bAt s a) ≤ s.size) && allB s a (leadF (bAt s a)).toNat) = true
  · rw [if_pos h]
    simp only [Bool.and_eq_true, decide_eq_true_eq] at h
    omega
  · rw [if_neg h]; omega

def wdV (s : ByteArray) (at_ : Int) : Int := if 0 ≤ at_ ∧ at_ < s.size then widF s at_.toNat else 0
def wdE (s : ByteArray) (at_ : Int) : Int := if 0 < wdV s at_ then 0 else 100
theorem wd_out {s : ByteArray} {at_ : Int} (h : ¬ (0 ≤ at_ ∧ at_ < s.size)) : 0 = wdV s at_ ∧ 100 = wdE s at_ := by
  have : wdV s at_ = 0 := by unfold wdV; rw [if_neg h]
  exact ⟨this.symm, by unfold wdE; rw [this]; rfl⟩
theorem wd_in {s : ByteArray} {n : Nat} (h : n < s.size) : wdV s (n : Int) = widF s n := by
  unfold wdV; rw [if_pos (by omega), Int.toNat_natCast]
end Go.Proofs.YtfajbkpeioejoaaDoor
