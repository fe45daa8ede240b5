/- The binds of two rows that are not refused: their four forms. -/
import Derived.Test.YtlbopoidjnaokaaDoorRwE
namespace Go.Proofs.YtlbopoidjnaokaaDoor
open Go.RowKit
set_option linter.unusedVariables false
def moreB (a b c d a' b' c' d' : Int) : Bool := decide (a > a') || decide (b > b') || decide (c > c') || decide (d > d')
def refB (a b c d t a' b' c' d' t' : Int) : Bool := (decide (t = t') && (moreB a b c d a' b' c' d' || moreB a' b' c' d' a b c d)) || (moreB a b c d a' b' c' d' && decide (t' < 0)) || (moreB a' b' c' d' a b c d && decide (t < 0))
theorem mxz_zero {x : Int} : mxz x = 0 ↔ x ≤ 0 := by unfold mxz; split <;> omega
theorem mxz_add (x y : Int) : x + mxz (y - x) = max x y := by unfold mxz; split <;> omega
theorem mxz_bd {x y : Int} (h0 : 0 ≤ x ∧ x ≤ 32) (h1 : 0 ≤ y ∧ y ≤ 32) : 0 ≤ mxz (x - y) ∧ mxz (x - y) ≤ 32 := by unfold mxz; split <;> omega
theorem more_no {a b c d a' b' c' d' : Int} (h : moreB a b c d a' b' c' d' = false) : a ≤ a' ∧ b ≤ b' ∧ c ≤ c' ∧ d ≤ d' := by
  unfold moreB at h; simp at h; omega
theorem more_yes {a b c d a' b' c' d' : Int} (h : moreB a b c d a' b' c' d' = true) : ¬ (mxz (a - a') = 0 ∧ mxz (b - b') = 0 ∧ mxz (c - c') = 0 ∧ mxz (d - d') = 0) := by
  simp only [mxz_zero]; unfold moreB at h; simp at h; omega
theorem uni_refused {a b c d t a' b' c' d' t' f : Int} (h : refB a b c d t a' b' c' d' t' = true) : uniR a b c d t a' b' c' d' t' f = none := by
  unfold uniR uniT
  unfold refB at h
  simp only [Bool.or_eq_true, Bool.and_eq_true, decide_eq_true_eq] at h
  by_cases ht : t = t'
  · rw [if_pos ht, if_neg]
    rcases h with (⟨_, h | h⟩ | ⟨h, _⟩) | ⟨h, _⟩
    all_goals (have := more_yes h; intro hh; apply this; omega)
  · rw [if_neg ht, if_pos]
    rcases h with (⟨h, _⟩ | ⟨h, h2⟩) | ⟨h, h2⟩
    · exact absurd h ht
    · exact .inl ⟨h2, more_yes h⟩
    · exact .inr ⟨h2, more_yes h⟩
/-- the four forms of the binds of two rows that are not refused. -/
theorem uni_forms {a b c d t a' b' c' d' t' f : Int} (h : refB a b c d t a' b' c' d' t' = false) :
    (t = t' ∧ a = a' ∧ b = b' ∧ c = c' ∧ d = d' ∧ uniR a b c d t a' b' c' d' t' f = some []) ∨
    (t ≠ t' ∧ a ≤ a' ∧ b ≤ b' ∧ c ≤ c' ∧ d ≤ d' ∧ uniR a b c d t a' b' c' d' t' f = some [⟨t, a' - a, b' - b, c' - c, d' - d, t'⟩]) ∨
    (t ≠ t' ∧ a' ≤ a ∧ b' ≤ b ∧ c' ≤ c ∧ d' ≤ d ∧ uniR a b c d t a' b' c' d' t' f = some [⟨t', a - a', b - b', c - c', d - d', t⟩]) ∨
    (t ≠ t' ∧ uniR a b c d t a' b' c' d' t' f = some [⟨t, mxz (a' - a), mxz (b' - b), mxz (c' - c), mxz (d' - d), f⟩, ⟨t', mxz (a - a'), mxz (b - b'), mxz (c - c'), mxz (d - d'), f⟩]) := by
  have pos : ∀ {x y : Int}, x ≤ y → mxz (y - x) = y - x := fun h => by unfold mxz; rw [if_neg (by omega)]
  have zer : ∀ {x y : Int}, x ≤ y → mxz (x - y) = 0 := fun h => mxz_zero.2 (by omega)
  have nomore : moreB a b c d a' b' c' d' = true ∨ (a ≤ a' ∧ b ≤ b' ∧ c ≤ c' ∧ d ≤ d') := by
    cases hm : moreB a b c d a' b' c' d'
    · exact .inr (more_no hm)
    · exact .inl rfl
  have noless : moreB a' b' c' d' a b c d = true ∨ (a' ≤ a ∧ b' ≤ b ∧ c' ≤ c ∧ d' ≤ d) := by
    cases hm : moreB a' b' c' d' a b c d
    · exact .inr (more_no hm)
    · exact .inl rfl
  unfold refB at h
  simp only [Bool.or_eq_false_iff, Bool.and_eq_false_iff, decide_eq_false_iff_not] at h
  obtain ⟨⟨h1, h2⟩, h3⟩ := h
  by_cases ht : t = t'
  · left
    rcases h1 with h1 | ⟨hm, hl⟩
    · exact absurd ht h1
    · have := more_no hm
      have := more_no hl
      refine ⟨ht, by omega, by omega, by omega, by omega, ?_⟩
      unfold uniR uniT
      rw [if_pos ht, if_pos]
      simp only [mxz_zero]; omega
  right
  have c2 : ¬ ((t' < 0 ∧ ¬ (mxz (a - a') = 0 ∧ mxz (b - b') = 0 ∧ mxz (c - c') = 0 ∧ mxz (d - d') = 0)) ∨ (t < 0 ∧ ¬ (mxz (a' - a) = 0 ∧ mxz (b' - b) = 0 ∧ mxz (c' - c) = 0 ∧ mxz (d' - d) = 0))) := by
    simp only [mxz_zero]
    rcases h2 with h2 | h2 <;> rcases h3 with h3 | h3
    · have := more_no h2; have := more_no h3; omega
    · have := more_no h2; omega
    · have := more_no h3; omega
    · omega
  by_cases c3 : t' < 0 ∨ (0 ≤ t ∧ (mxz (a - a') = 0 ∧ mxz (b - b') = 0 ∧ mxz (c - c') = 0 ∧ mxz (d - d') = 0))
  · left
    have hle : a ≤ a' ∧ b ≤ b' ∧ c ≤ c' ∧ d ≤ d' := by
      simp only [mxz_zero] at c2 c3; omega
    refine ⟨ht, hle.1, hle.2.1, hle.2.2.1, hle.2.2.2, ?_⟩
    unfold uniR uniT
    rw [if_neg ht, if_neg c2, if_pos c3, pos hle.1, pos hle.2.1, pos hle.2.2.1, pos hle.2.2.2]
  right
  by_cases c4 : t < 0 ∨ (mxz (a' - a) = 0 ∧ mxz (b' - b) = 0 ∧ mxz (c' - c) = 0 ∧ mxz (d' - d) = 0)
  · left
    have hle : a' ≤ a ∧ b' ≤ b ∧ c' ≤ c ∧ d' ≤ d := by
      simp only [mxz_zero] at c2 c4; omega
    refine ⟨ht, hle.1, hle.2.1, hle.2.2.1, hle.2.2.2, ?_⟩
    unfold uniR uniT
    rw [if_neg ht, if_neg c2, if_neg c3, if_pos c4, pos hle.1, pos hle.2.1, pos hle.2.2.1, pos hle.2.2.2]
  · right
    refine ⟨ht, ?_⟩
    unfold uniR uniT
    rw [if_neg ht, if_neg c2, if_neg c3, if_neg c4]
end Go.Proofs.YtlbopoidjnaokaaDoor
