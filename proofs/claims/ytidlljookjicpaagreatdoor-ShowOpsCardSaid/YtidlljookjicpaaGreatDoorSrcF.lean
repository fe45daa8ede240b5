/- Texts one behind the other: plain facts on the functions of SrcB to SrcD. -/
import Derived.Test.YtidlljookjicpaaGreatDoorSrcA
namespace Go.Proofs.YtidlljookjicpaaGreatDoor
open Go.RowKit
set_option linter.unusedVariables false
set_option linter.unusedSimpArgs false

theorem app_list (s t : ByteArray) : (s ++ t).data.toList = s.data.toList ++ t.data.toList := by simp
theorem app_size (s t : ByteArray) : (s ++ t).size = s.size + t.size := by simp
theorem bAt_app_l (s t : ByteArray) (i : Nat) (h : i < s.size) : bAt (s ++ t) i = bAt s i := by
  unfold bAt
  rw [app_list, List.getElem?_append_left (by simpa using h)]
theorem bAt_app_r (s t : ByteArray) (i : Nat) : bAt (s ++ t) (s.size + i) = bAt t i := by
  unfold bAt
  rw [app_list, List.getElem?_append_right (by simp)]
  have : s.size + i - s.data.toList.length = i := by simp
  rw [this]
theorem widF_app_r (s t : ByteArray) (i : Nat) : widF (s ++ t) (s.size + i) = widF t i := by
  have h1 : bAt (s ++ t) (s.size + i) = bAt t i := bAt_app_r s t i
  have h2 : ∀ j, okB (s ++ t) (s.size + i) j = okB t i j := by
    intro j; unfold okB; simp only [Nat.add_assoc, bAt_app_r]
  have h3 : allB (s ++ t) (s.size + i) = allB t i := by funext k; unfold allB; simp only [h2]
  unfold widF
  rw [h1, h3, app_size]
  have : decide (((s.size + i : Nat) : Int) + leadF (bAt t i) ≤ ((s.size + t.size : Nat) : Int)) = decide ((i : Int) + leadF (bAt t i) ≤ (t.size : Int)) := by
    rw [decide_eq_decide]; omega
  rw [this]
theorem allB_app_l (s t : ByteArray) (i k : Nat) (h : i + k ≤ s.size) (hk : 1 ≤ k) : allB (s ++ t) i k = allB s i k := by
  unfold allB
  rw [Bool.eq_iff_iff, List.all_eq_true, List.all_eq_true]
  have h2 : ∀ j, j < k → okB (s ++ t) i j = okB s i j := by
    intro j hj; unfold okB
    rw [bAt_app_l s t i (by omega), bAt_app_l s t (i + j) (by omega)]
    by_cases h1 : j = 1
    · subst h1; rw [bAt_app_l s t (i + 1) (by omega)]
    · rw [if_neg h1, if_neg h1]
  constructor
  · intro H x hx
    have := H x hx
    rw [h2 x (by simpa using hx)] at this; exact this
  · intro H x hx
    have := H x hx
    rw [← h2 x (by simpa using hx)] at this; exact this
/-- a sign that lies within the first text is the sign there. -/
theorem widF_app_l (s t : ByteArray) (i : Nat) (hi : i < s.size) (h : (i : Int) + leadF (bAt s i) ≤ s.size) : widF (s ++ t) i = widF s i := by
  unfold widF
  rw [bAt_app_l s t i hi]
  have hl := leadF_bd (bAt s i)
  by_cases hz : leadF (bAt s i) = 0
  · rw [hz]; simp
  · rw [allB_app_l s t i _ (by omega) (by omega), app_size]
    have : decide ((i : Int) + leadF (bAt s i) ≤ ((s.size + t.size : Nat) : Int)) = decide ((i : Int) + leadF (bAt s i) ≤ (s.size : Int)) := by
      rw [decide_eq_decide]; omega
    rw [this]
theorem widF_lead (s : ByteArray) (i : Nat) (h : widF s i ≠ 0) : widF s i = leadF (bAt s i) ∧ (i : Int) + leadF (bAt s i) ≤ s.size := by
  unfold widF at *
  by_cases hc : (decide ((i : Int) + leadF (bAt s i) ≤ s.size) && allB s i (leadF (bAt s i)).toNat) = true
  · rw [if_pos hc] at *
    simp only [Bool.and_eq_true, decide_eq_true_eq] at hc
    exact ⟨rfl, hc.1⟩
  · rw [if_neg hc] at h; exact absurd rfl h
theorem widF_app_pos (s t : ByteArray) (i : Nat) (h : widF s i ≠ 0) : widF (s ++ t) i = widF s i := by
  have h1 := widF_lead s i h
  have h2 := widF_bd s i
  exact widF_app_l s t i (by omega) h1.2
theorem widF_app_far (s t : ByteArray) (i : Nat) (hi : i < s.size) (h : widF s i = 0) (h' : widF (s ++ t) i ≠ 0) : (s.size : Int) < i + widF (s ++ t) i := by
  have h1 := widF_lead _ i h'
  rw [bAt_app_l s t i hi] at h1
  rw [h1.1]
  by_cases hc : (i : Int) + leadF (bAt s i) ≤ s.size
  · rw [widF_app_l s t i hi hc] at h'; exact absurd h h'
  · omega

/-- how a scan goes on: it stands at the end, or at a sign that is none. -/
theorem vaAt_cases (s : ByteArray) : ∀ (m k : Nat), s.size - k ≤ m → k ≤ s.size →
    (vaAt s k = (0, true) ∧ ∀ t, vaAt (s ++ t) k = vaAt (s ++ t) s.size) ∨
    (∃ a : Nat, k ≤ a ∧ a < s.size ∧ widF s a = 0 ∧ vaAt s k = ((a : Int), false) ∧ ∀ t, vaAt (s ++ t) k = vaAt (s ++ t) a) := by
  intro m
  induction m with
  | zero =>
    intro k h1 h2
    have : k = s.size := by omega
    subst this
    exact .inl ⟨vaAt_end (by omega), fun _ => rfl⟩
  | succ m ih =>
    intro k h1 h2
    by_cases hlt : k < s.size
    · by_cases hz : widF s k = 0
      · exact .inr ⟨k, by omega, hlt, hz, vaAt_bad hlt hz, fun _ => rfl⟩
      · have hw := widF_bd s k
        have hst := vaAt_step hlt hz
        have hst' : ∀ t, vaAt (s ++ t) k = vaAt (s ++ t) (k + (widF s k).toNat) := by
          intro t
          have := vaAt_step (s := s ++ t) (k := k) (by rw [app_size]; omega) (by rw [widF_app_pos s t k hz]; exact hz)
          rw [widF_app_pos s t k hz] at this
          exact this
        rcases ih (k + (widF s k).toNat) (by omega) (by omega) with ⟨ha, hb⟩ | ⟨a, h1a, h2a, h3a, h4a, h5a⟩
        · exact .inl ⟨by rw [hst, ha], fun t => by rw [hst' t, hb t]⟩
        · exact .inr ⟨a, by omega, h2a, h3a, by rw [hst, h4a], fun t => by rw [hst' t, h5a t]⟩
    · have : k = s.size := by omega
      subst this
      exact .inl ⟨vaAt_end (by omega), fun _ => rfl⟩

theorem vaAt_shift (s t : ByteArray) : ∀ (m k : Nat), t.size - k ≤ m → k ≤ t.size →
    vaAt (s ++ t) (s.size + k) = (if (vaAt t k).2 then (0, true) else ((s.size : Int) + (vaAt t k).1, false)) := by
  intro m
  induction m with
  | zero =>
    intro k h1 h2
    rw [vaAt_end (by rw [app_size]; omega), vaAt_end (s := t) (by omega)]; rfl
  | succ m ih =>
    intro k h1 h2
    by_cases hlt : k < t.size
    · by_cases hz : widF t k = 0
      · rw [vaAt_bad (s := t) hlt hz, vaAt_bad (by rw [app_size]; omega) (by rw [widF_app_r]; exact hz)]
        simp
      · have hw := widF_bd t k
        rw [vaAt_step (s := t) hlt hz, vaAt_step (by rw [app_size]; omega) (by rw [widF_app_r]; exact hz), widF_app_r, Nat.add_assoc]
        exact ih _ (by omega) (by omega)
    · rw [vaAt_end (by rw [app_size]; omega), vaAt_end (s := t) (by omega)]; rfl

theorem vaV_app (s t : ByteArray) (h : (vaV s).2 = true) : vaV (s ++ t) = (if (vaV t).2 then (0, true) else ((s.size : Int) + (vaV t).1, false)) := by
  rw [vaV_eq] at h
  rw [vaV_eq (s ++ t), vaV_eq t]
  rcases vaAt_cases s _ 0 (Nat.le_refl _) (by omega) with ⟨ha, hb⟩ | ⟨a, _, _, _, h4, _⟩
  · rw [hb t]
    exact vaAt_shift s t _ 0 (Nat.le_refl _) (by omega)
  · rw [h4] at h; cases h

theorem vaV_good (s : ByteArray) (h : (vaV s).2 = true) : vaV s = (0, true) := by
  rw [vaV_eq] at *
  rcases vaAt_cases s _ 0 (Nat.le_refl _) (by omega) with ⟨ha, hb⟩ | ⟨a, _, _, _, h4, _⟩
  · exact ha
  · rw [h4] at h; cases h

theorem vaV_bd (s : ByteArray) (h : (vaV s).2 = false) : 0 ≤ (vaV s).1 ∧ (vaV s).1 < s.size := by
  rw [vaV_eq] at *
  rcases vaAt_cases s _ 0 (Nat.le_refl _) (by omega) with ⟨ha, hb⟩ | ⟨a, _, h2, _, h4, _⟩
  · rw [ha] at h; cases h
  · rw [h4]; exact ⟨by simp, by simp; omega⟩

/-- a text that is none stays none, or was cut short. -/
theorem vaV_app_bad (s t : ByteArray) (h : (vaV s).2 = false) : ∃ a : Nat, a < s.size ∧ vaV s = ((a : Int), false) ∧
    (vaV (s ++ t) = ((a : Int), false) ∨ ((s.size : Int) - a < 4 ∧ ((vaV (s ++ t)).2 = true ∨ (a : Int) ≤ (vaV (s ++ t)).1))) := by
  rw [vaV_eq] at h
  rw [vaV_eq s, vaV_eq (s ++ t)]
  rcases vaAt_cases s _ 0 (Nat.le_refl _) (by omega) with ⟨ha, hb⟩ | ⟨a, _, h2, h3, h4, h5⟩
  · rw [ha] at h; cases h
  · refine ⟨a, h2, h4, ?_⟩
    rw [h5 t]
    by_cases hz : widF (s ++ t) a = 0
    · exact .inl (vaAt_bad (by rw [app_size]; omega) hz)
    · have hw := widF_bd (s ++ t) a
      have hf := widF_app_far s t a h2 h3 hz
      refine .inr ⟨by omega, ?_⟩
      rcases vaAt_cases (s ++ t) _ a (Nat.le_refl _) (by rw [app_size]; omega) with ⟨hx, _⟩ | ⟨c, hc, _, _, hx, _⟩
      · exact .inl (by rw [hx])
      · exact .inr (by rw [hx]; simp; omega)
end Go.Proofs.YtidlljookjicpaaGreatDoor
