/- What a unification finds of a type and what binds make of it: plain. -/
import Derived.Test.YtfkdcconmecaoaaDoorUwP
import Derived.Test.YtfkdcconmecaoaaDoorMmD
namespace Go.Proofs.YtfkdcconmecaoaaDoor
set_option linter.unusedVariables false
set_option linter.unusedSimpArgs false

theorem sub_tree {xs : List Bn} {ts : List Ty} (h : subE xs ts = 0) : bsV xs = true ∧ tyV ts = true ∧ tyV (subT xs ts) = true ∧ treeOf (subT xs ts) = putT (sgB xs) (rhB xs) (treeOf ts) := by
  unfold subE at h
  split at h
  · rename_i hc
    simp only [Bool.and_eq_true] at hc
    obtain ⟨⟨h1, h2⟩, h3⟩ := hc
    have hf := fits_iff.1 h3
    have hok : (putT (sgB xs) (rhB xs) (treeOf ts)).ok = true := putT_ok (fun v U e => (sgB_ok h1 v U e).1) (fun v q e => rhB_ok h1 v q e) (tyV_of h2).1 hf.2
    have e : subT xs ts = fl 0 (putT (sgB xs) (rhB xs) (treeOf ts)) := by unfold subT; rw [h1, h2, h3]; rfl
    rw [e]
    exact ⟨h1, h2, fl_may hok hf.1, treeOf_fl hok⟩
  · cases h
theorem find_cases {xs ys : List Bn} {ts : List Ty} {r : Except Nat US} (h1 : subE xs ts = 0) (h2 : subE ys (subT xs ts) = 0) (h3 : subE ys ts = 0) (he : subT ys (subT xs ts) = subT ys ts) (hr : UnRes 60 ts (subT xs ts) r) :
    r = .error 0 ∨ r = .error 3 ∨ ∃ st, r = .ok st ∧ UInv st ∧ ∀ zs, BnL zs st.made → subE zs ts = 0 → instV (subT zs ts) (subT ys (subT xs ts)) = true ∧ instE (subT zs ts) (subT ys (subT xs ts)) = 0 := by
  obtain ⟨_, v1, v2, t2⟩ := sub_tree h1
  obtain ⟨b3, _, v3, t3⟩ := sub_tree h2
  obtain ⟨_, _, v4, t4⟩ := sub_tree h3
  cases hk : unOk 60 ts (subT xs ts) with
  | false => exact .inl (unRes_no2 hr hk)
  | true =>
    have hq : putT (sgB ys) (rhB ys) (treeOf ts) = putT (sgB ys) (rhB ys) (treeOf (subT xs ts)) := by rw [← t4, ← t3, he]
    obtain ⟨_, _, _, i1, _⟩ := unOk_of hk
    rcases res_gen hr hk _ _ (nonR_of (fun v q e => rhB_ok b3 v q e)) hq with h | ⟨st, h, hg⟩
    · exact .inr (.inl h)
    · refine .inr (.inr ⟨st, h, ?_⟩)
      subst h
      have hu := unRes_ok hr
      refine ⟨hu.inv, fun zs hL hz => ?_⟩
      obtain ⟨v5, t5⟩ := us_may hL hu.inv hz
      have := hg _ i1.tl
      rw [← t5, ← t4, ← he] at this
      unfold instV instE
      rw [v5, v3, this]
      exact ⟨rfl, rfl⟩
end Go.Proofs.YtfkdcconmecaoaaDoor
