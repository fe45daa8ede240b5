/- Contracts of package source: Width, Valid; and of the reference's Width, Valid. -/
import Derived.Test.YtbbhnohecbhjmaaSrcB
import Derived.Lib.Strings
namespace Go.Proofs.Ytbbhnohecbhjmaa
open Go.RowKit
set_option linter.unusedVariables false

theorem bAt_ext (s : ByteArray) (a i : Nat) : bAt (s.extract a s.size) i = bAt s (a + i) := by
  unfold bAt
  have : (s.extract a s.size).data.toList = s.data.toList.drop a := by
    rw [Lib.extract_data, Lib.size_eq]
    exact List.take_of_length_le (by simp)
  rw [this, List.getElem?_drop]

theorem widF_ext (s : ByteArray) (a : Nat) (h : a ≤ s.size) : widF (s.extract a s.size) 0 = widF s a := by
  have h1 : bAt (s.extract a s.size) 0 = bAt s a := by rw [bAt_ext]; rfl
  have h2 : ∀ j, okB (s.extract a s.size) 0 j = okB s a j := by
    intro j; unfold okB; simp only [bAt_ext, Nat.zero_add, Nat.add_zero]
  have h3 : allB (s.extract a s.size) 0 = allB s a := by funext k; unfold allB; simp only [h2]
  have h4 : (s.extract a s.size).size = s.size - a := by simp
  unfold widF
  rw [h1, h3, h4]
  have : decide (((0 : Nat) : Int) + leadF (bAt s a) ≤ ((s.size - a : Nat) : Int)) = decide ((a : Int) + leadF (bAt s a) ≤ (s.size : Int)) := by
    rw [decide_eq_decide]; omega
  rw [this]
theorem widF_bd (s : ByteArray) (a : Nat) : 0 ≤ widF s a ∧ widF s a ≤ 4 ∧ (0 < widF s a → (a : Int) + widF s a ≤ s.size) := by
  unfold widF
  have := leadF_bd (bAt s a)
  by_cases h : (decide ((a : Int) + leadF (bAt s a) ≤ s.size) && allB s a (leadF (bAt s a)).toNat) = true
  · rw [if_pos h]
    simp only [Bool.and_eq_true, decide_eq_true_eq] at h
    omega
  · rw [if_neg h]; omega

def wdV (s : ByteArray) (at_ : Int) : Int := if 0 ≤ at_ ∧ at_ < s.size then widF s at_.toNat else 0
def wdE (s : ByteArray) (at_ : Int) : Int := if 0 < wdV s at_ then 0 else 100
theorem wd_out {s : ByteArray} {at_ : Int} (h : ¬ (0 ≤ at_ ∧ at_ < s.size)) : 0 = wdV s at_ ∧ 100 = wdE s at_ := by
  have : wdV s at_ = 0 := by unfold wdV; rw [if_neg h]
  exact ⟨this.symm, by unfold wdE; rw [this]; rfl⟩
theorem wd_in {s : ByteArray} {n : Nat} (h : n < s.size) : wdV s (n : Int) = widF s n := by
  unfold wdV; rw [if_pos (by omega), Int.toNat_natCast]

theorem width_any (s : ByteArray) (at_ : Int) (w : World) (hs : s.size ≤ 1125899906842624) (ha : -9223372036854775808 ≤ at_) (hb : at_ ≤ 9223372036854775807) :
    Calls Try.prog 10 #[.string s, .int .i64 at_] w fun e w' => e = .returned (.tuple #[.int .i64 (wdV s at_), .int .i64 (wdE s at_)]) ∧ w = w' := by
  by_cases h0 : at_ < 0
  · go_enter Try.func10, Try.ntmps10
    go_wp2
    go_ret2
    exact ⟨ret_ii (wd_out (by omega)).1 (wd_out (by omega)).2, rfl⟩
  · by_cases h1 : (s.size : Int) ≤ at_
    · go_enter Try.func10, Try.ntmps10
      go_wp2
      go_ret2
      exact ⟨ret_ii (wd_out (by omega)).1 (wd_out (by omega)).2, rfl⟩
    · obtain ⟨n, rfl⟩ := Int.eq_ofNat_of_zero_le (by omega : 0 ≤ at_)
      have hn : n < s.size := by omega
      have hw := widF_bd s n
      have he : (s.extract n s.size).size = s.size - n := by simp
      have he' := Lib.hid he; clear he
      go_enter Try.func10, Try.ntmps10
      go_wp2_with fail
      refine (sign_any _ _ (by rw [he'.out]; omega) (by rw [he'.out]; omega)).mono ?_
      rintro e w' ⟨rfl, rfl⟩
      rw [widF_ext s n (by omega)]
      by_cases hz : widF s n = 0
      · have hz' := Lib.hid hz
        have hz3 : (widF s n == 0) = true := by simpa using hz
        clear hz hw
        go_wp2
        go_ret2
        exact ⟨ret_ii (by rw [wd_in hn, hz'.out]) (by unfold wdE; rw [wd_in hn, hz'.out]; rfl), rfl⟩
      · have hz3 : (widF s n == 0) = false := by simpa using hz
        go_wp2
        go_ret2
        exact ⟨ret_ii (by rw [wd_in hn]) (by unfold wdE; rw [wd_in hn, if_pos (by omega)]), rfl⟩
end Go.Proofs.Ytbbhnohecbhjmaa
