/- target.Names. -/
import Derived.Test.YtnjalpcmjkahkaaTgF
namespace Go.Proofs.Ytnjalpcmjkahkaa
open Go.RowKit
set_option linter.unusedVariables false
set_option linter.unusedSimpArgs false

def mxL (m : Int) (l : List Int) : Int := l.foldl (fun m x => if m < x + 1 then x + 1 else m) m
def mxT (m : Int) (ts : List Tg) : Int := ts.foldl (fun m t => mxL m (namesT t.k t.n t.x t.y t.z t.w)) m
theorem mxL_snoc (m : Int) (l : List Int) (j : Nat) (h : j < l.length) : mxL m (l.take (j + 1)) = (if mxL m (l.take j) < l.getD j 0 + 1 then l.getD j 0 + 1 else mxL m (l.take j)) := by
  unfold mxL
  rw [List.take_succ_eq_append_getElem h, List.foldl_append]
  simp [h]
theorem mxT_snoc (m : Int) (ts : List Tg) (j : Nat) (h : j < ts.length) : mxT m (ts.take (j + 1)) = mxL (mxT m (ts.take j)) (namesT (ts.getD j tg0).k (ts.getD j tg0).n (ts.getD j tg0).x (ts.getD j tg0).y (ts.getD j tg0).z (ts.getD j tg0).w) := by
  unfold mxT
  rw [List.take_succ_eq_append_getElem h, List.foldl_append]
  simp [h]
def namV (ts : List Tg) : Int := if mayV ts then mxT 0 ts else 0
def namE (ts : List Tg) : Int := if mayV ts then 0 else 1900

theorem okNames_at (t : Tg) (h : okT t = true) (x : Int) (hx : x ∈ namesT t.k t.n t.x t.y t.z t.w) : 0 ≤ x ∧ x < 8192 := by
  unfold okT at h
  simp only [Bool.and_eq_true] at h
  have := h.2
  unfold okNames at this
  rw [List.all_eq_true] at this
  exact of_decide_eq_true (this x hx)

end Go.Proofs.Ytnjalpcmjkahkaa
