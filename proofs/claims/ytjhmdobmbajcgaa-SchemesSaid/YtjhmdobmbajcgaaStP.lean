/- What Take makes of a function's scheme: plain facts. -/
import Derived.Test.YtjhmdobmbajcgaaTkC
import Derived.Test.YtjhmdobmbajcgaaArw
namespace Go.Proofs.Ytjhmdobmbajcgaa
set_option linter.unusedVariables false
set_option linter.unusedSimpArgs false

def stT : List Ty := [⟨2, 4, 0, 0, 0, 0, 0, 0, 0⟩, ⟨2, 4, 0, 0, 0, 0, 0, 0, 0⟩, ⟨3, 0, 0, 1, 0, 0, 0, 0, 4⟩]
def stB (x : Tp) (r : Rw) : List Bn := [tb1 4 x, tb2 4 r]
theorem stB_eq (x : Tp) (r : Rw) : tkB [4] [x] [4] [r] = stB x r := rfl
theorem st_ok (x : Tp) (r : Rw) : tkOk [4] [x] [4] [r] = true := rfl
theorem st_tree : treeOf stT = .fn (.var 4) ⟨0, 0, 0, 0, 4⟩ (.var 4) := treeOf_fl (T := .fn (.var 4) ⟨0, 0, 0, 0, 4⟩ (.var 4)) (by kernel_rfl)
theorem sa : tyV stT = true ∧ woI (tvs (treeOf stT) []) [] = [4] ∧ woI (rvs (treeOf stT) []) [] = [4] := ⟨by kernel_rfl, by kernel_rfl, by kernel_rfl⟩
theorem st_bsV (x : Tp) (r : Rw) : bsV (stB x r) = (tyV x.ns && r.may) := by
  unfold bsV stB
  simp [Bn.ok, tb1, tb2, rw0, rwQ]
theorem st_sg (x : Tp) (r : Rw) : sgB (stB x r) 4 = some (treeOf x.ns) ∧ rhB (stB x r) 4 = some r := by
  constructor
  · simp [sgB, fst, stB, tb1, tb2, List.findIdx?_cons]
  · simp [rhB, fst, stB, tb1, tb2, List.findIdx?_cons]
theorem st_put (x : Tp) (r : Rw) : putT (sgB (stB x r)) (rhB (stB x r)) (treeOf stT) = .fn (treeOf x.ns) r (treeOf x.ns) := by
  rw [st_tree]
  unfold putT putR
  rw [(st_sg x r).2]
  unfold putT
  rw [(st_sg x r).1]
  simp
theorem st_fits {x : Tp} {r : Rw} (h : tyV x.ns = true) (hr : r.may = true) : (TT.fn (treeOf x.ns) r (treeOf x.ns)).fits = decide (2 * x.ns.length + 1 ≤ 256) := by
  have h1 := tyV_of h
  unfold TT.fits TT.cnt
  rw [ok_cnt h1.1, may_cnt hr]
  simp only [Bool.and_true, TT.sz, h1.2.2.1]
  apply decide_eq_decide.2
  omega
theorem st_fl {x : Tp} {r : Rw} (h : tyV x.ns = true) : fl 0 (TT.fn (treeOf x.ns) r (treeOf x.ns)) = arwL x.ns r x.ns := by
  have h1 := tyV_of h
  unfold arwL
  rw [fl_fn, ← h1.2.1, ← sh_fl (treeOf x.ns).sz (treeOf x.ns) 0 h1.1, ← h1.2.1, h1.2.2.1, Nat.zero_add]
theorem st_no {x : Tp} {r : Rw} (h : ((tyV x.ns && r.may) && decide (2 * x.ns.length + 1 ≤ 256)) = false) : tkT [4] [x] [4] [r] stT = [] ∧ tkE [4] [x] [4] [r] stT = 1200 := by
  have hne : subE (stB x r) stT ≠ 0 := by
    unfold subE
    rw [st_bsV, sa.1, Bool.and_true, st_put]
    cases h1 : tyV x.ns
    · simp
    · cases h2 : r.may
      · simp
      · rw [st_fits h1 h2]
        rw [h1, h2, Bool.true_and, Bool.true_and] at h
        rw [h]; simp
  unfold tkT tkE
  rw [st_ok, stB_eq, decide_eq_false hne]
  exact ⟨(subE_nil hne).1, rfl⟩
theorem st_yes {x : Tp} {r : Rw} (h1 : tyV x.ns = true) (h2 : r.may = true) (h3 : 2 * x.ns.length + 1 ≤ 256) : tkT [4] [x] [4] [r] stT = arwL x.ns r x.ns ∧ tkE [4] [x] [4] [r] stT = 0 := by
  have hz : subE (stB x r) stT = 0 := by
    unfold subE
    rw [st_bsV, sa.1, st_put, st_fits h1 h2, h1, h2, decide_eq_true h3]; rfl
  unfold tkT tkE
  rw [st_ok, stB_eq, decide_eq_true hz]
  refine ⟨?_, rfl⟩
  unfold subT
  rw [st_bsV, sa.1, st_put, st_fits h1 h2, h1, h2, decide_eq_true h3, ← st_fl h1]; rfl
end Go.Proofs.Ytjhmdobmbajcgaa
