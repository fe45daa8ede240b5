/- subst.Row. -/
import Derived.Test.YtfkdcconmecaoaaDoorSbE
import Derived.Deep.RegionHeld3
import Derived.Deep.DeepCutAuto
namespace Go.Proofs.YtfkdcconmecaoaaDoor
open Go.RowKit Go.Maps
set_option linter.unusedVariables false
set_option linter.unusedSimpArgs false

def subRE (xs : List Bn) (r : Rw) : Int := if (bsV xs && r.may) && (putR (rhB xs) r).cnt then 0 else 900
def subR (xs : List Bn) (r : Rw) : Rw := if (bsV xs && r.may) && (putR (rhB xs) r).cnt then putR (rhB xs) r else rw0
def SubRPost (xs : List Bn) (r : Rw) (w : World) (e : Ending) (w' : World) : Prop := e = .returned (.tuple #[rwV (subR xs r), .int .i64 (subRE xs r)]) ∧ Below w.heap.size w w'
theorem subR_no {xs : List Bn} {r : Rw} {w w' : World} (h : ((bsV xs && r.may) && (putR (rhB xs) r).cnt) = false) (hb : Below w.heap.size w w') : SubRPost xs r w (.returned (.tuple #[.agg #[.int .i64 0, .int .i64 0, .int .i64 0, .int .i64 0, .int .i64 0], .int .i64 900])) w' := by
  refine ⟨?_, hb⟩
  unfold subR subRE
  rw [h]; rfl
/-- the world in which subst.Row's calls begin. -/
def wbR (w : World) (r : Rw) : World := (w.alloc (.cells #[.int .i64 r.a, .int .i64 r.b, .int .i64 r.c, .int .i64 r.d, .int .i64 r.t] 36)).alloc (.cells #[.int .i64 0, .int .i64 0, .int .i64 0, .int .i64 0, .int .i64 0] 36)
structure InR (w : World) (r : Rw) (W : World) : Prop where
  a0 : W.cell? ⟨w.heap.size, 0, none⟩ = some (.int .i64 r.a)
  a1 : W.cell? ⟨w.heap.size, 1, none⟩ = some (.int .i64 r.b)
  a2 : W.cell? ⟨w.heap.size, 2, none⟩ = some (.int .i64 r.c)
  a3 : W.cell? ⟨w.heap.size, 3, none⟩ = some (.int .i64 r.d)
  a4 : W.cell? ⟨w.heap.size, 4, none⟩ = some (.int .i64 r.t)
  z : W.heap[w.heap.size + 1]? = some (rowO 0 0 0 0 0)
  s : w.heap.size + 1 < W.heap.size
  b : Below w.heap.size w W
theorem inR_of {w W : World} {r : Rw} (hb : Below (wbR w r).heap.size (wbR w r) W) : InR w r W := by
  have hs : (wbR w r).heap.size = w.heap.size + 2 := by simp [wbR]
  refine ⟨?_, ?_, ?_, ?_, ?_, ?_, ?_, ?_⟩
  · rw [hb.cell (p := ⟨w.heap.size, 0, none⟩) (by rw [hs]; simp)]; simp [wbR]
  · rw [hb.cell (p := ⟨w.heap.size, 1, none⟩) (by rw [hs]; simp)]; simp [wbR]
  · rw [hb.cell (p := ⟨w.heap.size, 2, none⟩) (by rw [hs]; simp)]; simp [wbR]
  · rw [hb.cell (p := ⟨w.heap.size, 3, none⟩) (by rw [hs]; simp)]; simp [wbR]
  · rw [hb.cell (p := ⟨w.heap.size, 4, none⟩) (by rw [hs]; simp)]; simp [wbR]
  · rw [hb.block (w.heap.size + 1) (by rw [hs]; omega)]
    have h := alloc_last (w.alloc (.cells #[.int .i64 r.a, .int .i64 r.b, .int .i64 r.c, .int .i64 r.d, .int .i64 r.t] 36)) (.cells #[.int .i64 0, .int .i64 0, .int .i64 0, .int .i64 0, .int .i64 0] 36)
    rw [show (w.alloc (.cells #[.int .i64 r.a, .int .i64 r.b, .int .i64 r.c, .int .i64 r.d, .int .i64 r.t] 36)).heap.size = w.heap.size + 1 by simp] at h
    exact h
  · have := hb.size; rw [hs] at this; omega
  · exact (below_alc2 w _ _).trans (hb.mono (by rw [hs]; omega))
theorem InR.go {w W W' : World} {r : Rw} (h : InR w r W) (hb : Below W.heap.size W W') : InR w r W' := by
  have h1 := h.s
  exact ⟨carry hb (by omega) h.a0, carry hb (by omega) h.a1, carry hb (by omega) h.a2, carry hb (by omega) h.a3, carry hb (by omega) h.a4, row_on hb h.z, by have := hb.size; omega, belT h.b hb⟩
theorem InR.set {w W : World} {r : Rw} {k o : Nat} {v : Value} (h : InR w r W) (hk : w.heap.size + 1 < k) : InR w r (W.setCell ⟨k, o, none⟩ v) := by
  have e : ∀ b q, b < k → (W.setCell ⟨k, o, none⟩ v).cell? ⟨b, q, none⟩ = W.cell? ⟨b, q, none⟩ := fun b q hb => World.cell?_setCell_other _ _ _ _ (by intro e; injection e; omega)
  exact ⟨(e _ _ (by omega)).trans h.a0, (e _ _ (by omega)).trans h.a1, (e _ _ (by omega)).trans h.a2, (e _ _ (by omega)).trans h.a3, (e _ _ (by omega)).trans h.a4, by rw [Deep.blk_setCell_other _ _ _ _ (show w.heap.size + 1 ≠ k by omega)]; exact h.z, by simpa using h.s, h.b.setCell (show w.heap.size ≤ k by omega) _⟩
def RowMid (w : World) (r r' : Rw) (s6 : Value) (W : World) : Prop := ∃ k, s6 = .pointer (some ⟨k, 0, none⟩) ∧ k < W.heap.size ∧ InR w r W ∧
    W.cell? ⟨k, 0, none⟩ = some (.int .i64 r'.a) ∧ W.cell? ⟨k, 1, none⟩ = some (.int .i64 r'.b) ∧ W.cell? ⟨k, 2, none⟩ = some (.int .i64 r'.c) ∧ W.cell? ⟨k, 3, none⟩ = some (.int .i64 r'.d) ∧ W.cell? ⟨k, 4, none⟩ = some (.int .i64 r'.t)
theorem rm_set {w w3 : World} {r r' : Rw} {k : Nat} (hk : w3.heap[k]? = some (rowO 0 0 0 0 0)) (hw : w.heap.size + 1 < k) (hI : InR w r w3) :
    RowMid w r r' (.pointer (some ⟨k, 0, none⟩)) (((((w3.setCell ⟨k, 0, none⟩ (.int .i64 r'.a)).setCell ⟨k, 1, none⟩ (.int .i64 r'.b)).setCell ⟨k, 2, none⟩ (.int .i64 r'.c)).setCell ⟨k, 3, none⟩ (.int .i64 r'.d)).setCell ⟨k, 4, none⟩ (.int .i64 r'.t)) := by
  obtain ⟨q0, q1, q2, q3, q4, _⟩ := row_cells hk
  have hkl := (Array.getElem?_eq_some_iff.1 hk).1
  refine ⟨k, rfl, by simpa using hkl, ((((hI.set hw).set hw).set hw).set hw).set hw, ?_, ?_, ?_, ?_, ?_⟩
  · exact setO (setO (setO (setO (setS q0) (by simp)) (by simp)) (by simp)) (by simp)
  · exact setO (setO (setO (setS (setO q1 (by simp))) (by simp)) (by simp)) (by simp)
  · exact setO (setO (setS (setO (setO q2 (by simp)) (by simp))) (by simp)) (by simp)
  · exact setO (setS (setO (setO (setO q3 (by simp)) (by simp)) (by simp))) (by simp)
  · exact setS (setO (setO (setO (setO q4 (by simp)) (by simp)) (by simp)) (by simp))
theorem rm_new {w w3 : World} {r r' : Rw} (hI : InR w r w3) :
    RowMid w r r' (.pointer (some ⟨w3.heap.size, 0, none⟩)) (w3.alloc (.cells #[.int .i64 r'.a, .int .i64 r'.b, .int .i64 r'.c, .int .i64 r'.d, .int .i64 r'.t] 36)) :=
  ⟨w3.heap.size, rfl, by simp, hI.go (below_alc _ _), by simp, by simp, by simp, by simp, by simp⟩
theorem rS_go {w W W' : World} {x0 x1 x2 x3 x4 : Value} {r : Rw}
    (h : W.cell? ⟨w.heap.size, 0, none⟩ = some x0 ∧ W.cell? ⟨w.heap.size, 1, none⟩ = some x1 ∧ W.cell? ⟨w.heap.size, 2, none⟩ = some x2 ∧ W.cell? ⟨w.heap.size, 3, none⟩ = some x3 ∧ W.cell? ⟨w.heap.size, 4, none⟩ = some x4 ∧ InR w r W) (hb : Below W.heap.size W W') :
    W'.cell? ⟨w.heap.size, 0, none⟩ = some x0 ∧ W'.cell? ⟨w.heap.size, 1, none⟩ = some x1 ∧ W'.cell? ⟨w.heap.size, 2, none⟩ = some x2 ∧ W'.cell? ⟨w.heap.size, 3, none⟩ = some x3 ∧ W'.cell? ⟨w.heap.size, 4, none⟩ = some x4 ∧ InR w r W' := by
  obtain ⟨h0, h1, h2, h3, h4, hI⟩ := h
  have := hI.s
  exact ⟨carry hb (by omega) h0, carry hb (by omega) h1, carry hb (by omega) h2, carry hb (by omega) h3, carry hb (by omega) h4, hI.go hb⟩
theorem rS_bel {w W : World} {x0 x1 x2 x3 x4 : Value} {r : Rw}
    (h : W.cell? ⟨w.heap.size, 0, none⟩ = some x0 ∧ W.cell? ⟨w.heap.size, 1, none⟩ = some x1 ∧ W.cell? ⟨w.heap.size, 2, none⟩ = some x2 ∧ W.cell? ⟨w.heap.size, 3, none⟩ = some x3 ∧ W.cell? ⟨w.heap.size, 4, none⟩ = some x4 ∧ InR w r W) : Below w.heap.size w W := h.2.2.2.2.2.b
theorem rS_set {w W : World} {x0 x1 x2 x3 x4 v : Value} {r : Rw} {k o : Nat} (hk : w.heap.size + 1 < k)
    (h : W.cell? ⟨w.heap.size, 0, none⟩ = some x0 ∧ W.cell? ⟨w.heap.size, 1, none⟩ = some x1 ∧ W.cell? ⟨w.heap.size, 2, none⟩ = some x2 ∧ W.cell? ⟨w.heap.size, 3, none⟩ = some x3 ∧ W.cell? ⟨w.heap.size, 4, none⟩ = some x4 ∧ InR w r W) :
    (W.setCell ⟨k, o, none⟩ v).cell? ⟨w.heap.size, 0, none⟩ = some x0 ∧ (W.setCell ⟨k, o, none⟩ v).cell? ⟨w.heap.size, 1, none⟩ = some x1 ∧ (W.setCell ⟨k, o, none⟩ v).cell? ⟨w.heap.size, 2, none⟩ = some x2 ∧ (W.setCell ⟨k, o, none⟩ v).cell? ⟨w.heap.size, 3, none⟩ = some x3 ∧ (W.setCell ⟨k, o, none⟩ v).cell? ⟨w.heap.size, 4, none⟩ = some x4 ∧ InR w r (W.setCell ⟨k, o, none⟩ v) := by
  obtain ⟨h0, h1, h2, h3, h4, hI⟩ := h
  have e : ∀ b q, b < k → (W.setCell ⟨k, o, none⟩ v).cell? ⟨b, q, none⟩ = W.cell? ⟨b, q, none⟩ := fun b q hb => World.cell?_setCell_other _ _ _ _ (by intro e; injection e; omega)
  exact ⟨(e _ _ (by omega)).trans h0, (e _ _ (by omega)).trans h1, (e _ _ (by omega)).trans h2, (e _ _ (by omega)).trans h3, (e _ _ (by omega)).trans h4, hI.set hk⟩
theorem row_new (w : World) (o : Obj) : (w.alloc o).heap[w.heap.size]? = some o := alloc_last w o
end Go.Proofs.YtfkdcconmecaoaaDoor
