/- Later places are in later lines, or further on in the same: plain facts; uint(x) % k. -/
import Derived.Test.YtilhpclnligpaaaDoorPlF
import Derived.Test.YtilhpclnligpaaaDoorAid
namespace Go.Proofs.YtilhpclnligpaaaDoor
open Go.RowKit
set_option linter.unusedVariables false

theorem rises (s : ByteArray) (i : Nat) : ∀ j : Nat, i < j → j ≤ s.size →
    liF (s.data.toList.take i) < liF (s.data.toList.take j) ∨ (liF (s.data.toList.take i) = liF (s.data.toList.take j) ∧ coF (s.data.toList.take i) < coF (s.data.toList.take j)) := by
  intro j
  induction j with
  | zero => intro h; omega
  | succ j ih =>
    intro hij hj
    rw [take_snoc s j (by omega), liF_snoc, coF_snoc]
    have h0 : liF (s.data.toList.take i) < liF (s.data.toList.take j) ∨ (liF (s.data.toList.take i) = liF (s.data.toList.take j) ∧ coF (s.data.toList.take i) ≤ coF (s.data.toList.take j)) := by
      by_cases h : i < j
      · rcases ih h (by omega) with h1 | ⟨h1, h2⟩
        · exact .inl h1
        · exact .inr ⟨h1, by omega⟩
      · obtain rfl : i = j := by omega
        exact .inr ⟨rfl, Nat.le_refl _⟩
    by_cases hb : s[j] = 10
    · rw [if_pos hb, if_pos hb]; left; omega
    · rw [if_neg hb, if_neg hb]
      rcases h0 with h1 | ⟨h1, h2⟩
      · exact .inl h1
      · exact .inr ⟨h1, by omega⟩
theorem umod2 (a K : Int) (h : 0 < K) (hk : K ≤ 9223372036854775807) : ∃ m : Int, 0 ≤ m ∧ m < K ∧ wrap64 ((IntKind.u64.wrap a).tmod K) = m ∧ IntKind.i64.wrap ((IntKind.u64.wrap a).tmod K) = m := by
  have hb := u64_bd a
  rw [Int.tmod_eq_emod_of_nonneg hb.1]
  have h1 := Int.emod_nonneg (IntKind.u64.wrap a) (b := K) (by omega)
  have h2 := Int.emod_lt_of_pos (IntKind.u64.wrap a) (b := K) (by omega)
  exact ⟨(IntKind.u64.wrap a) % K, h1, h2, IntWalk.wrap64_in _ (by omega), IntWalk.i64_in _ (by omega)⟩
/-- what cannot be told. -/
theorem bad1 {s : ByteArray} {code a k n k' n' : Int} (h : code < 0) : tellOk s code a k n k' n' = false := by
  unfold tellOk; rw [decide_eq_false (by omega : ¬ 0 ≤ code)]; simp
theorem bad2 {s : ByteArray} {code a k n k' n' : Int} (h : ¬ ((k = 0 ∧ -1073741824 ≤ n ∧ n ≤ 1073741823) ∨ (k = 1 ∧ 0 ≤ n ∧ n ≤ 1) ∨ (k = 3 ∧ 0 ≤ n ∧ n ≤ 1) ∨ ((k = 2 ∨ k = 4 ∨ k = 5) ∧ n = 0)) ∨ ¬ ((k' = 0 ∧ -1073741824 ≤ n' ∧ n' ≤ 1073741823) ∨ (k' = 1 ∧ 0 ≤ n' ∧ n' ≤ 1) ∨ (k' = 3 ∧ 0 ≤ n' ∧ n' ≤ 1) ∨ ((k' = 2 ∨ k' = 4 ∨ k' = 5) ∧ n' = 0))) : tellOk s code a k n k' n' = false := by
  unfold tellOk
  rcases h with h | h
  · rw [show mayO k n = false from decide_eq_false h]; rfl
  · rw [show mayO k' n' = false from decide_eq_false h]; simp
theorem bad3 {s : ByteArray} {code a k n k' n' : Int} (h : 0 < code) (h' : a < 0 ∨ s.size < a) : tellOk s code a k n k' n' = false := by
  unfold tellOk; rw [decide_eq_false (by omega : ¬ code = 0), show plOk s a = false from decide_eq_false (by omega)]; simp
end Go.Proofs.YtilhpclnligpaaaDoor
