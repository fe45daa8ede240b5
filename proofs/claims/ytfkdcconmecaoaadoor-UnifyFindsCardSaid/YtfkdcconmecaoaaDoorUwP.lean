/- What a unification finds is most general: plain. -/
import Derived.Test.YtfkdcconmecaoaaDoorUsP
namespace Go.Proofs.YtfkdcconmecaoaaDoor
set_option linter.unusedVariables false
set_option linter.unusedSimpArgs false

theorem sol_nil (σ : Int → Option TT) (ρ : Int → Option Rw) : Sol σ ρ [] := ⟨fun v T h => (by cases h), fun t q _ h => (by cases h)⟩
theorem may_nonR {q : Rw} (h : q.may = true) : 0 ≤ q.a ∧ 0 ≤ q.b ∧ 0 ≤ q.c ∧ 0 ≤ q.d := by
  have h : 0 ≤ q.a ∧ q.a ≤ 32 ∧ 0 ≤ q.b ∧ q.b ≤ 32 ∧ 0 ≤ q.c ∧ q.c ≤ 32 ∧ 0 ≤ q.d ∧ q.d ≤ 32 ∧ -1 ≤ q.t ∧ q.t < 4096 := of_decide_eq_true h
  omega
theorem nonR_of {ρ : Int → Option Rw} (h : ∀ v q, ρ v = some q → q.may = true) : NonR ρ := fun v q e => may_nonR (h v q e)
/-- two types that some binds make one: only that it is too many may be answered, else what is made is as general. -/
theorem res_gen {f : Int} {ta tb : List Ty} {r : Except Nat US} (h : UnRes f ta tb r) (hk : unOk f ta tb = true) (σ : Int → Option TT) (ρ : Int → Option Rw) (hN : NonR ρ) (he : putT σ ρ (treeOf ta) = putT σ ρ (treeOf tb)) :
    r = .error 3 ∨ ∃ t, r = .ok t ∧ ∀ X : TT, X.tl f = true → instT (underU t X) (putT σ ρ X) = true := by
  unfold UnRes at h
  rw [if_pos hk] at h
  obtain ⟨n, hn⟩ := h
  obtain ⟨hf, v1, v2, i1, i2⟩ := unOk_of hk
  rcases oneU_comp n (empty_inv hf) i1 i2 (sol_nil σ ρ) hN he hn with h | ⟨t, h, ⟨ρ', hS, hN', hfr⟩⟩
  · exact .inl h
  · refine .inr ⟨t, h, fun X hX => ?_⟩
    have e1 : putT σ ρ' (underU t X) = putT σ ρ' X := hS.all X
    have e2 : putT σ ρ' X = putT σ ρ X := putT_fresh hf.1 hfr hX
    rw [← e2, ← e1]
    exact instT_put σ ρ' hN' _
theorem unOk_swap (f : Int) (ta tb : List Ty) : unOk f tb ta = unOk f ta tb := by
  unfold unOk; rw [Bool.and_comm (belU tb f)]
theorem unRes_no2 {f : Int} {ta tb : List Ty} {r : Except Nat US} (h : UnRes f ta tb r) (hk : unOk f ta tb = false) : r = .error 0 := by
  unfold UnRes at h; rw [if_neg (by rw [hk]; intro e; cases e)] at h; exact h
theorem unRes_yes {f : Int} {ta tb : List Ty} {t : US} (h : UnRes f ta tb (.ok t)) : unOk f ta tb = true := by
  cases hk : unOk f ta tb with
  | true => rfl
  | false => cases unRes_no2 h hk
theorem rhU_non {s : US} (hi : UInv s) : NonR (rhU s.made) := nonR_of (rhU_ok hi)
/-- the other way. -/
theorem swap_one {f : Int} {ta tb : List Ty} {s : US} {r : Except Nat US} (h1 : UnRes f ta tb (.ok s)) (h2 : UnRes f tb ta r) : r = .error 3 ∨ ∃ t, r = .ok t ∧ instT (underU t (treeOf ta)) (underU s (treeOf ta)) = true := by
  have hk := unRes_yes h1
  have hu := unRes_ok h1
  obtain ⟨hf, v1, v2, i1, i2⟩ := unOk_of hk
  rcases res_gen h2 (by rw [unOk_swap]; exact hk) _ _ (rhU_non hu.inv) hu.sol.symm with h | ⟨t, h, ht⟩
  · exact .inl h
  · exact .inr ⟨t, h, ht _ i1.tl⟩
theorem swap_two {f : Int} {ta tb : List Ty} {s t : US} (h1 : UnRes f ta tb (.ok s)) (h2 : UnRes f tb ta (.ok t)) : instT (underU s (treeOf ta)) (underU t (treeOf ta)) = true := by
  have hk := unRes_yes h2
  have hu := unRes_ok h2
  obtain ⟨hf, v1, v2, i1, i2⟩ := unOk_of hk
  rcases res_gen h1 (by rw [← unOk_swap]; exact hk) _ _ (rhU_non hu.inv) hu.sol.symm with h | ⟨t, h, ht⟩
  · cases h
  · injection h with h; subst h; exact ht _ i2.tl
theorem us_may {xs : List Bn} {st : US} {ts : List Ty} (h : BnL xs st.made) (hi : UInv st) (he : subE xs ts = 0) : tyV (subT xs ts) = true ∧ treeOf (subT xs ts) = underU st (treeOf ts) := by
  have hok := us_ok h hi he
  have hz : (underU st (treeOf ts)).sz ≤ 256 := by
    unfold subE at he
    split at he
    · rename_i hc
      simp only [Bool.and_eq_true] at hc
      have hf := hc.2
      rw [put_made h hi] at hf
      exact (fits_iff.1 hf).1
    · cases he
  rw [us_sub h hi he]
  exact ⟨fl_may hok hz, treeOf_fl hok⟩
end Go.Proofs.YtfkdcconmecaoaaDoor
