/- What a scheme takes for its own variables; what it takes is an instance: plain facts. -/
import Derived.Test.YtjhmdobmbajcgaaTkA
import Derived.Test.YtjhmdobmbajcgaaMmE
namespace Go.Proofs.Ytjhmdobmbajcgaa
open Go.RowKit
set_option linter.unusedVariables false
set_option linter.unusedSimpArgs false

theorem woI_nodup {l ks : List Int} (h : l.Nodup) : (woI l ks).Nodup := h.filter _
theorem woI_sub {l ks : List Int} : ∀ x ∈ woI l ks, x ∈ l := fun x hx => (List.mem_filter.1 hx).1
theorem dsI_of {l : List Int} (h1 : l.length ≤ 4096) (h2 : ∀ x ∈ l, 0 ≤ x ∧ x < 4096) (h3 : l.Nodup) : dsI l = true := by
  unfold dsI
  simp only [Bool.and_eq_true, decide_eq_true_eq, List.all_eq_true]
  exact ⟨h1, fun x hx => by unfold inV; exact decide_eq_true (h2 x hx), h3⟩
theorem treeOf_var {v : Int} : treeOf [vrT v] = .var v := rfl
theorem tyV_var {v : Int} (h : 0 ≤ v ∧ v < 4096) : tyV [vrT v] = true := by
  have := fl_may (T := .var v) (by unfold TT.ok; rw [decide_eq_true h.1, decide_eq_true h.2]; rfl) (by simp [TT.sz])
  exact this
theorem memA {ks : List Int} {xs : List Tp} {y : Bn} {n : Nat} (h : y ∈ tbA ks xs n) : ∃ i, i < n ∧ y = tb1 (ks.getD i 0) (xs.getD i tp0) := by
  obtain ⟨i, hi, rfl⟩ := List.mem_map.1 h
  exact ⟨i, List.mem_range.1 hi, rfl⟩
theorem memB {ms : List Int} {rs : List Rw} {y : Bn} {n : Nat} (h : y ∈ tbB ms rs n) : ∃ i, i < n ∧ y = tb2 (ms.getD i 0) (rs.getD i rw0) := by
  obtain ⟨i, hi, rfl⟩ := List.mem_map.1 h
  exact ⟨i, List.mem_range.1 hi, rfl⟩
theorem so_own {ts : List Ty} {L1 L2 : List Int} {xs : List Tp} {rs : List Rw} (hv : tyV ts = true) (h1 : dsI L1 = true) (h2 : dsI L2 = true) (hl : L1.length + L2.length ≤ 4096) (b1 : ∀ x ∈ L1, 0 ≤ x ∧ x < 4096) (b2 : ∀ x ∈ L2, 0 ≤ x ∧ x < 4096)
    (hx : xs.length = L1.length) (hx' : ∀ i, i < L1.length → (xs.getD i tp0).ns = [vrT (L1.getD i 0)]) (hr : rs.length = L2.length) (hr' : ∀ i, i < L2.length → rs.getD i rw0 = ⟨0, 0, 0, 0, L2.getD i 0⟩) :
    tkT L1 xs L2 rs ts = ts ∧ tkE L1 xs L2 rs ts = 0 := by
  have hok : tkOk L1 xs L2 rs = true := by
    unfold tkOk; rw [h1, h2, decide_eq_true hx, decide_eq_true hr]; rfl
  have hbs : bsV (tkB L1 xs L2 rs) = true := by
    refine bs_all _ ?_ ?_
    · unfold tkB; rw [List.length_append, tbA_len, tbB_len]; exact hl
    · rw [List.all_eq_true]
      intro y hy
      rcases List.mem_append.1 hy with hy | hy
      · obtain ⟨i, hi, rfl⟩ := memA hy
        have hb := b1 _ (getI_mem hi)
        unfold Bn.ok tb1
        simp only [Bool.false_eq_true, if_false]
        rw [decide_eq_true hb, hx' i hi, tyV_var hb]; rfl
      · obtain ⟨i, hi, rfl⟩ := memB hy
        have hb := b2 _ (getI_mem hi)
        unfold Bn.ok tb2
        simp only [if_true]
        rw [decide_eq_true hb, hr' i hi]
        show (true && (true && decide _)) = true
        rw [decide_eq_true]
        · rfl
        · simp only []; omega
  have hto := tyV_of hv
  have hput : putT (sgB (tkB L1 xs L2 rs)) (rhB (tkB L1 xs L2 rs)) (treeOf ts) = treeOf ts := by
    refine putT_own _ _ _ ?_ ?_
    · intro x U hU
      unfold sgB at hU
      cases hf : fst (tkB L1 xs L2 rs) false x with
      | none => rw [hf] at hU; cases hU
      | some i =>
        rw [hf] at hU
        simp only [Option.map_some, Option.some.injEq] at hU
        obtain ⟨hi, hir, hvx⟩ := fst_some hf
        have hm := getB_mem hi
        generalize (tkB L1 xs L2 rs).getD i bn0 = y at hm hir hvx hU
        rcases List.mem_append.1 hm with hm | hm
        · obtain ⟨j, hj, rfl⟩ := memA hm
          have e : L1.getD j 0 = x := hvx
          rw [← hU]
          show treeOf (xs.getD j tp0).ns = _
          rw [hx' j hj, e]; rfl
        · obtain ⟨j, hj, rfl⟩ := memB hm
          cases hir
    · intro x q hq
      unfold rhB at hq
      cases hf : fst (tkB L1 xs L2 rs) true x with
      | none => rw [hf] at hq; cases hq
      | some i =>
        rw [hf] at hq
        simp only [Option.map_some, Option.some.injEq] at hq
        obtain ⟨hi, hir, hvx⟩ := fst_some hf
        have hm := getB_mem hi
        generalize (tkB L1 xs L2 rs).getD i bn0 = y at hm hir hvx hq
        rcases List.mem_append.1 hm with hm | hm
        · obtain ⟨j, hj, rfl⟩ := memA hm
          cases hir
        · obtain ⟨j, hj, rfl⟩ := memB hm
          have e : L2.getD j 0 = x := hvx
          rw [← hq]
          show rs.getD j rw0 = _
          rw [hr' j hj, e]
  have hfit : (treeOf ts).fits = true := by
    unfold TT.fits; rw [ok_cnt hto.1, decide_eq_true hto.2.2.2.1]; rfl
  have hz : subE (tkB L1 xs L2 rs) ts = 0 := by
    unfold subE; rw [hbs, hv, hput, hfit]; rfl
  refine ⟨?_, ?_⟩
  · unfold tkT subT; rw [hok, hbs, hv, hput, hfit]; exact hto.2.1.symm
  · unfold tkE; rw [hok, decide_eq_true hz]; rfl
theorem so_inst {ts : List Ty} {ks ms : List Int} {xs : List Tp} {rs : List Rw} (hv : tyV ts = true) (hE : tkE ks xs ms rs ts = 0) : instV ts (tkT ks xs ms rs ts) = true ∧ instE ts (tkT ks xs ms rs ts) = 0 := by
  unfold tkE at hE
  cases hok : tkOk ks xs ms rs
  · rw [hok] at hE; simp at hE
  rw [hok, Bool.true_and] at hE
  by_cases hz : subE (tkB ks xs ms rs) ts = 0
  · have hz' := hz
    unfold subE at hz'
    have hto := tyV_of hv
    cases hbs : bsV (tkB ks xs ms rs)
    · rw [hbs] at hz'; simp at hz'
    cases hfit : (putT (sgB (tkB ks xs ms rs)) (rhB (tkB ks xs ms rs)) (treeOf ts)).fits
    · rw [hfit] at hz'; simp at hz'
    have hT : tkT ks xs ms rs ts = fl 0 (putT (sgB (tkB ks xs ms rs)) (rhB (tkB ks xs ms rs)) (treeOf ts)) := by
      unfold tkT subT; rw [hok, hbs, hv, hfit]; rfl
    rw [hT]
    have hpo : (putT (sgB (tkB ks xs ms rs)) (rhB (tkB ks xs ms rs)) (treeOf ts)).ok = true := by
      first
        | exact putT_ok (fun v U h => (sgB_ok hbs v U h).1) (rhB_ok hbs) hto.1 hfit
        | exact putT_ok (fun v U h => (sgB_ok hbs v U h).1) (rhB_ok hbs) hto.1 (by unfold TT.fits at hfit; simp only [Bool.and_eq_true] at hfit; exact hfit.2)
    have hsz : (putT (sgB (tkB ks xs ms rs)) (rhB (tkB ks xs ms rs)) (treeOf ts)).sz ≤ 256 := by
      unfold TT.fits at hfit; simp only [Bool.and_eq_true, decide_eq_true_eq] at hfit; exact hfit.1
    have hinst := instT_put (sgB (tkB ks xs ms rs)) (rhB (tkB ks xs ms rs)) (fun v q h => by
      have := of_decide_eq_true (show mayR q.a q.b q.c q.d q.t = true from rhB_ok hbs v q h); omega) (treeOf ts)
    unfold instV instE
    rw [hv, fl_may hpo hsz, treeOf_fl hpo, hinst]
    exact ⟨rfl, rfl⟩
  · rw [decide_eq_false hz] at hE; simp at hE
end Go.Proofs.Ytjhmdobmbajcgaa
