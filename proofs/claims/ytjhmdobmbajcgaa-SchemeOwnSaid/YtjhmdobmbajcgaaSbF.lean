/- subst.Row. -/
import Derived.Test.YtjhmdobmbajcgaaSbE
import Derived.Deep.RegionHeld3
import Derived.Deep.DeepCutAuto
namespace Go.Proofs.Ytjhmdobmbajcgaa
open Go.RowKit Go.Maps
set_option linter.unusedVariables false
set_option linter.unusedSimpArgs false

def subRE (xs : List Bn) (r : Rw) : Int := if (bsV xs && r.may) && (putR (rhB xs) r).cnt then 0 else 900
def subR (xs : List Bn) (r : Rw) : Rw := if (bsV xs && r.may) && (putR (rhB xs) r).cnt then putR (rhB xs) r else rw0
def SubRPost (xs : List Bn) (r : Rw) (w : World) (e : Ending) (w' : World) : Prop := e = .returned (.tuple #[rwV (subR xs r), .int .i64 (subRE xs r)]) ∧ Below w.heap.size w w'
theorem subR_no {xs : List Bn} {r : Rw} {w w' : World} (h : ((bsV xs && r.may) && (putR (rhB xs) r).cnt) = false) (hb : Below w.heap.size w w') : SubRPost xs r w (.returned (.tuple #[.agg #[.int .i64 0, .int .i64 0, .int .i64 0, .int .i64 0, .int .i64 0], .int .i64 900])) w' := by
  refine ⟨?_, hb⟩
  unfold subR subRE
  rw [h]; rfl
/-- the world in which subst.Row's calls begin. -/
def wbR (w : World) (r : Rw) : World := (w.alloc (.cells #[.int .i64 r.a, .int .i64 r.b, .int .i64 r.c, .int .i64 r.d, .int .i64 r.t] 28)).alloc (.cells #[.int .i64 0, .int .i64 0, .int .i64 0, .int .i64 0, .int .i64 0] 28)
structure InR (w : World) (r : Rw) (W : World) : Prop where
  a0 : W.cell? ⟨w.heap.size, 0, none⟩ = some (.int .i64 r.a)
  a1 : W.cell? ⟨w.heap.size, 1, none⟩ = some (.int .i64 r.b)
  a2 : W.cell? ⟨w.heap.size, 2, none⟩ = some (.int .i64 r.c)
  a3 : W.cell? ⟨w.heap.size, 3, none⟩ = some (.int .i64 r.d)
  a4 : W.cell? ⟨w.heap.size, 4, none⟩ = some (.int .i64 r.t)
  z : W.heap[w.heap.size + 1]? = some (rowO 0 0 0 0 0)
  s : w.heap.size + 1 < W.heap.size
  b : Below w.heap.size w W
theorem inR_of {w W : World} {r : Rw} (hb : Below (wbR w r).heap.size (wbR w r) W) : InR w r W := by
  have hs : (wbR w r).heap.size = w.heap.size + 2 := by simp [wbR]
  refine ⟨?_, ?_, ?_, ?_, ?_, ?_, ?_, ?_⟩
  · rw [hb.cell (p := ⟨w.heap.size, 0, none⟩) (by rw [hs]; simp)]; simp [wbR]
  · rw [hb.cell (p := ⟨w.heap.size, 1, none⟩) (by rw [hs]; simp)]; simp [wbR]
  · rw [hb.cell (p := ⟨w.heap.size, 2, none⟩) (by rw [hs]; simp)]; simp [wbR]
  · rw [hb.cell (p := ⟨w.heap.size, 3, none⟩) (by rw [hs]; simp)]; simp [wbR]
  · rw [hb.cell (p := ⟨w.heap.size, 4, none⟩) (by rw [hs]; simp)]; simp [wbR]
  · rw [hb.block (w.heap.size + 1) (by rw [hs]; omega)]
    have h := alloc_last (w.alloc (.cells #[.int .i64 r.a, .int .i64 r.b, .int .i64 r.c, .int .i64 r.d, .int .i64 r.t] 28)) (.cells #[.int .i64 0, .int .i64 0, .int .i64 0, .int .i64 0, .int .i64 0] 28)
    rw [show (w.alloc (.cells #[.int .i64 r.a, .int .i64 r.b, .int .i64 r.c, .int .i64 r.d, .int .i64 r.t] 28)).heap.size = w.heap.size + 1 by simp] at h
    exact h
  · have := hb.size; rw [hs] at this; omega
  · exact (below_alc2 w _ _).trans (hb.mono (by rw [hs]; omega))
theorem InR.go {w W W' : World} {r : Rw} (h : InR w r W) (hb : Below W.heap.size W W') : InR w r W' := by
  have h1 := h.s
  exact ⟨carry hb (by omega) h.a0, carry hb (by omega) h.a1, carry hb (by omega) h.a2, carry hb (by omega) h.a3, carry hb (by omega) h.a4, row_on hb h.z, by have := hb.size; omega, belT h.b hb⟩
theorem InR.set {w W : World} {r : Rw} {k o : Nat} {v : Value} (h : InR w r W) (hk : w.heap.size + 1 < k) : InR w r (W.setCell ⟨k, o, none⟩ v) := by
  have e : ∀ b q, b < k → (W.setCell ⟨k, o, none⟩ v).cell? ⟨b, q, none⟩ = W.cell? ⟨b, q, none⟩ := fun b q hb => World.cell?_setCell_other _ _ _ _ (by intro e; injection e; omega)
  exact ⟨(e _ _ (by omega)).trans h.a0, (e _ _ (by omega)).trans h.a1, (e _ _ (by omega)).trans h.a2, (e _ _ (by omega)).trans h.a3, (e _ _ (by omega)).trans h.a4, by rw [Deep.blk_setCell_other _ _ _ _ (show w.heap.size + 1 ≠ k by omega)]; exact h.z, by simpa using h.s, h.b.setCell (show w.heap.size ≤ k by omega) _⟩
def RowMid (w : World) (r r' : Rw) (s6 : Value) (W : World) : Prop := ∃ k, s6 = .pointer (some ⟨k, 0, none⟩) ∧ k < W.heap.size ∧ InR w r W ∧
    W.cell? ⟨k, 0, none⟩ = some (.int .i64 r'.a) ∧ W.cell? ⟨k, 1, none⟩ = some (.int .i64 r'.b) ∧ W.cell? ⟨k, 2, none⟩ = some (.int .i64 r'.c) ∧ W.cell? ⟨k, 3, none⟩ = some (.int .i64 r'.d) ∧ W.cell? ⟨k, 4, none⟩ = some (.int .i64 r'.t)
theorem rm_set {w w3 : World} {r r' : Rw} {k : Nat} (hk : w3.heap[k]? = some (rowO 0 0 0 0 0)) (hw : w.heap.size + 1 < k) (hI : InR w r w3) :
    RowMid w r r' (.pointer (some ⟨k, 0, none⟩)) (((((w3.setCell ⟨k, 0, none⟩ (.int .i64 r'.a)).setCell ⟨k, 1, none⟩ (.int .i64 r'.b)).setCell ⟨k, 2, none⟩ (.int .i64 r'.c)).setCell ⟨k, 3, none⟩ (.int .i64 r'.d)).setCell ⟨k, 4, none⟩ (.int .i64 r'.t)) := by
  obtain ⟨q0, q1, q2, q3, q4, _⟩ := row_cells hk
  have hkl := (Array.getElem?_eq_some_iff.1 hk).1
  refine ⟨k, rfl, by simpa using hkl, ((((hI.set hw).set hw).set hw).set hw).set hw, ?_, ?_, ?_, ?_, ?_⟩
  · exact setO (setO (setO (setO (setS q0) (by simp)) (by simp)) (by simp)) (by simp)
  · exact setO (setO (setO (setS (setO q1 (by simp))) (by simp)) (by simp)) (by simp)
  · exact setO (setO (setS (setO (setO q2 (by simp)) (by simp))) (by simp)) (by simp)
  · exact setO (setS (setO (setO (setO q3 (by simp)) (by simp)) (by simp))) (by simp)
  · exact setS (setO (setO (setO (setO q4 (by simp)) (by simp)) (by simp)) (by simp))
theorem rm_new {w w3 : World} {r r' : Rw} (hI : InR w r w3) :
    RowMid w r r' (.pointer (some ⟨w3.heap.size, 0, none⟩)) (w3.alloc (.cells #[.int .i64 r'.a, .int .i64 r'.b, .int .i64 r'.c, .int .i64 r'.d, .int .i64 r'.t] 28)) :=
  ⟨w3.heap.size, rfl, by simp, hI.go (below_alc _ _), by simp, by simp, by simp, by simp, by simp⟩
theorem rS_go {w W W' : World} {x0 x1 x2 x3 x4 : Value} {r : Rw}
    (h : W.cell? ⟨w.heap.size, 0, none⟩ = some x0 ∧ W.cell? ⟨w.heap.size, 1, none⟩ = some x1 ∧ W.cell? ⟨w.heap.size, 2, none⟩ = some x2 ∧ W.cell? ⟨w.heap.size, 3, none⟩ = some x3 ∧ W.cell? ⟨w.heap.size, 4, none⟩ = some x4 ∧ InR w r W) (hb : Below W.heap.size W W') :
    W'.cell? ⟨w.heap.size, 0, none⟩ = some x0 ∧ W'.cell? ⟨w.heap.size, 1, none⟩ = some x1 ∧ W'.cell? ⟨w.heap.size, 2, none⟩ = some x2 ∧ W'.cell? ⟨w.heap.size, 3, none⟩ = some x3 ∧ W'.cell? ⟨w.heap.size, 4, none⟩ = some x4 ∧ InR w r W' := by
  obtain ⟨h0, h1, h2, h3, h4, hI⟩ := h
  have := hI.s
  exact ⟨carry hb (by omega) h0, carry hb (by omega) h1, carry hb (by omega) h2, carry hb (by omega) h3, carry hb (by omega) h4, hI.go hb⟩
theorem rS_bel {w W : World} {x0 x1 x2 x3 x4 : Value} {r : Rw}
    (h : W.cell? ⟨w.heap.size, 0, none⟩ = some x0 ∧ W.cell? ⟨w.heap.size, 1, none⟩ = some x1 ∧ W.cell? ⟨w.heap.size, 2, none⟩ = some x2 ∧ W.cell? ⟨w.heap.size, 3, none⟩ = some x3 ∧ W.cell? ⟨w.heap.size, 4, none⟩ = some x4 ∧ InR w r W) : Below w.heap.size w W := h.2.2.2.2.2.b
theorem rS_set {w W : World} {x0 x1 x2 x3 x4 v : Value} {r : Rw} {k o : Nat} (hk : w.heap.size + 1 < k)
    (h : W.cell? ⟨w.heap.size, 0, none⟩ = some x0 ∧ W.cell? ⟨w.heap.size, 1, none⟩ = some x1 ∧ W.cell? ⟨w.heap.size, 2, none⟩ = some x2 ∧ W.cell? ⟨w.heap.size, 3, none⟩ = some x3 ∧ W.cell? ⟨w.heap.size, 4, none⟩ = some x4 ∧ InR w r W) :
    (W.setCell ⟨k, o, none⟩ v).cell? ⟨w.heap.size, 0, none⟩ = some x0 ∧ (W.setCell ⟨k, o, none⟩ v).cell? ⟨w.heap.size, 1, none⟩ = some x1 ∧ (W.setCell ⟨k, o, none⟩ v).cell? ⟨w.heap.size, 2, none⟩ = some x2 ∧ (W.setCell ⟨k, o, none⟩ v).cell? ⟨w.heap.size, 3, none⟩ = some x3 ∧ (W.setCell ⟨k, o, none⟩ v).cell? ⟨w.heap.size, 4, none⟩ = some x4 ∧ InR w r (W.setCell ⟨k, o, none⟩ v) := by
  obtain ⟨h0, h1, h2, h3, h4, hI⟩ := h
  have e : ∀ b q, b < k → (W.setCell ⟨k, o, none⟩ v).cell? ⟨b, q, none⟩ = W.cell? ⟨b, q, none⟩ := fun b q hb => World.cell?_setCell_other _ _ _ _ (by intro e; injection e; omega)
  exact ⟨(e _ _ (by omega)).trans h0, (e _ _ (by omega)).trans h1, (e _ _ (by omega)).trans h2, (e _ _ (by omega)).trans h3, (e _ _ (by omega)).trans h4, hI.set hk⟩
theorem row_new (w : World) (o : Obj) : (w.alloc o).heap[w.heap.size]? = some o := alloc_last w o
set_option maxRecDepth 100000 in
set_option maxHeartbeats 4000000 in
theorem subRow_any (a : Option Addr) (n c : Nat) (xs : List Bn) (r : Rw) (w : World) (h : Hid (BnArg w a n xs)) (hl : n ≤ 140737488351232) :
    Calls Try.prog 16 #[.slice a n c, rwV r] w (SubRPost xs r w) := by
  have kM := Lib.hid fun (W : World) (hb : Below w.heap.size w W) => smay_any a n c xs W (Lib.hid (h.out.below hb)) hl
  have kT := Lib.hid fun (W : World) => rowsMay_any r.a r.b r.c r.d r.t W
  unfold rwV
  cases hbv : bsV xs
  · rw [hbv] at kM
    have hno := Lib.hid fun (w' : World) => subR_no (xs := xs) (r := r) (w := w) (w' := w') (by rw [hbv]; rfl)
    clear hbv kT
    go_enter Try.func16, Try.ntmps16
    go_wp2_with fail
    refine (kM.out _ (below_alc2 w _ _)).mono ?_
    rintro e w1 ⟨rfl, hb1⟩
    have hI := inR_of hb1
    obtain ⟨x0, x1, x2, x3, x4, f0, f1, f2, f3, f4⟩ := row_cells hI.z
    have hB := hI.b
    clear hb1 hI
    go_wp2_with fail
    exact bodyPost_ret (v := .tuple #[.agg #[.int .i64 0, .int .i64 0, .int .i64 0, .int .i64 0, .int .i64 0], .int .i64 900]) (by simp [results, Try.results16, go_sem, x0, x1, x2, x3, x4]) rfl (hno.out _ (by (repeat' (first | with_reducible exact Below.refl _ _ | with_reducible assumption | with_reducible apply Below.setCell | with_reducible apply Below.alloc | with_reducible apply Below.drew | with_reducible apply below_drewN | with_reducible exact Nat.le_refl _ | (simp; done) | (simp; omega) | omega | exact Nat.le_refl _))))
  cases hrm : r.may
  · rw [hbv] at kM
    have hno := Lib.hid fun (w' : World) => subR_no (xs := xs) (r := r) (w := w) (w' := w') (by rw [hbv, hrm]; rfl)
    have hrm' : mayR r.a r.b r.c r.d r.t = false := hrm
    rw [hrm'] at kT
    clear hbv hrm hrm'
    go_enter Try.func16, Try.ntmps16
    go_wp2_with fail
    refine (kM.out _ (below_alc2 w _ _)).mono ?_
    rintro e w1 ⟨rfl, hb1⟩
    have hI := Lib.hid (inR_of hb1)
    obtain ⟨a0, a1, a2, a3, a4, _, _, _⟩ := hI.out
    clear hb1
    go_wp2_with fail
    refine (kT.out _).mono ?_
    rintro e w2 ⟨rfl, hb2⟩
    have hI2 := hI.out.go hb2
    obtain ⟨x0, x1, x2, x3, x4, f0, f1, f2, f3, f4⟩ := row_cells hI2.z
    have hB := hI2.b
    clear hb2 hI hI2 a0 a1 a2 a3 a4
    go_wp2_with fail
    exact bodyPost_ret (v := .tuple #[.agg #[.int .i64 0, .int .i64 0, .int .i64 0, .int .i64 0, .int .i64 0], .int .i64 900]) (by simp [results, Try.results16, go_sem, x0, x1, x2, x3, x4]) rfl (hno.out _ (by (repeat' (first | with_reducible exact Below.refl _ _ | with_reducible assumption | with_reducible apply Below.setCell | with_reducible apply Below.alloc | with_reducible apply Below.drew | with_reducible apply below_drewN | with_reducible exact Nat.le_refl _ | (simp; done) | (simp; omega) | omega | exact Nat.le_refl _))))
  · obtain ⟨rfl, _⟩ := h.out
    have kTa := Lib.hid fun (W : World) (hb : Below w.heap.size w W) => tails_any a c xs W (Lib.hid (h.out.below hb)) hbv
    have kPR := Lib.hid fun (q1 q2 : Nat) (w0 W : World) (hR : FnR 78 q1 q2 (rhB xs) w0) (hb : Below w0.heap.size w0 W) => putRow_any 78 q1 q2 (rhB xs) w0 (Lib.hid fun _ _ => by kernel_rfl) (Lib.hid hR) (rhB_ok hbv) r hrm W (Lib.hid hb)
    have hyes := Lib.hid fun (hf : (putR (rhB xs) r).cnt = true) => (show subR xs r = putR (rhB xs) r ∧ subRE xs r = 0 from ⟨by unfold subR; rw [hbv, hrm, hf]; rfl, by unfold subRE; rw [hbv, hrm, hf]; rfl⟩)
    have hno := Lib.hid fun (w' : World) (hf : (putR (rhB xs) r).cnt = false) => subR_no (xs := xs) (r := r) (w := w) (w' := w') (by rw [hf]; simp)
    have hrm' : mayR r.a r.b r.c r.d r.t = true := hrm
    rw [hrm'] at kT
    rw [hbv] at kM
    generalize putR (rhB xs) r = r' at kPR hyes hno
    have kC := Lib.hid fun (W : World) => cntMay_any r'.a r'.b r'.c r'.d r'.t W
    have hcn : Hid (cntR r'.a r'.b r'.c r'.d = r'.cnt) := Lib.hid rfl
    clear hbv hrm hrm'
    unfold fnV rwV at *
    go_enter Try.func16, Try.ntmps16
    go_wp2_with fail
    refine (kM.out _ (below_alc2 w _ _)).mono ?_
    rintro e w1 ⟨rfl, hb1⟩
    have hI := Lib.hid (inR_of hb1)
    obtain ⟨a0, a1, a2, a3, a4, _, _, _⟩ := hI.out
    clear hb1
    go_wp2_with fail
    refine (kT.out _).mono ?_
    rintro e w2 ⟨rfl, hb2⟩
    have hI2 := Lib.hid (hI.out.go hb2)
    clear hb2 a0 a1 a2 a3 a4 hI
    obtain ⟨a0, a1, a2, a3, a4, az, asz, ab⟩ := hI2.out
    go_upto_region 3 with fail
    go_cut [6] (fun s6 wx => RowMid w r r' s6 wx)
    case first =>
      have hst : Hid (w2.cell? ⟨w.heap.size, 0, none⟩ = some (.int .i64 r.a) ∧ w2.cell? ⟨w.heap.size, 1, none⟩ = some (.int .i64 r.b) ∧ w2.cell? ⟨w.heap.size, 2, none⟩ = some (.int .i64 r.c) ∧ w2.cell? ⟨w.heap.size, 3, none⟩ = some (.int .i64 r.d) ∧ w2.cell? ⟨w.heap.size, 4, none⟩ = some (.int .i64 r.t) ∧ InR w r w2) := Lib.hid ⟨a0, a1, a2, a3, a4, hI2.out⟩
      have hst0 := Lib.hid (rS_go hst.out ((Below.refl w2.heap.size w2).drew))
      clear a0 a1 a2 a3 a4 az hyes hno
      go_region_held3 (fun W => W.cell? ⟨w.heap.size, 0, none⟩ = some (.int .i64 r.a) ∧ W.cell? ⟨w.heap.size, 1, none⟩ = some (.int .i64 r.b) ∧ W.cell? ⟨w.heap.size, 2, none⟩ = some (.int .i64 r.c) ∧ W.cell? ⟨w.heap.size, 3, none⟩ = some (.int .i64 r.d) ∧ W.cell? ⟨w.heap.size, 4, none⟩ = some (.int .i64 r.t) ∧ InR w r W)
        (first | with_reducible exact hS4.out | with_reducible exact hS3.out | with_reducible exact hst0.out | with_reducible exact rS_go hS4.out (below_alc w4 _) | with_reducible exact rS_go hS3.out (below_alc w3 _) | with_reducible exact rS_go hst.out ((below_alc w2 _).drew) | with_reducible exact rS_set (by omega) (rS_set (by omega) (rS_set (by omega) (rS_set (by omega) (rS_set (by omega) hS4.out)))))
        (first | (go_at_call 44; refine (kTa.out _ (rS_bel (by assumption))).mono ?_; rintro e w3 ⟨q1, q2, rfl, hf3, hb3⟩; have hS3 := Lib.hid (rS_go (by assumption) hb3); have hz3 := hS3.out.2.2.2.2.2.s; have hz2 := hst.out.2.2.2.2.2.s; (try (with_reducible (have hk03 := row_on hb3 (alc_d w2 _))))) | (go_at_call 50; refine (kPR.out q1 q2 w3 _ hf3 (by first | with_reducible exact Below.refl _ _ | with_reducible exact below_alc _ _)).mono ?_; rintro e w4 ⟨rfl, hb4⟩; have hS4 := Lib.hid (rS_go (by assumption) hb4); (try (with_reducible (have hk := row_on hb4 hk03))); (try (with_reducible (have hk := row_on hb4 (alloc_last w3 _)))); (try (have hxx := row_cells hk; obtain ⟨x0, x1, x2, x3, x4, y0, y1, y2, y3, y4⟩ := hxx))))
      all_goals (go_wp2_with fail; go_meet)
      all_goals
        first
          | with_reducible exact rm_new hS4.out.2.2.2.2.2
          | exact rm_set hk (by omega) hS4.out.2.2.2.2.2
    case rest =>
      obtain ⟨k, rfl, hkl, hIc, q0, q1, q2, q3, q4⟩ := hcut
      have hI' := Lib.hid hIc
      clear hIc a0 a1 a2 a3 a4 az asz ab hI2 kTa kPR
      go_wp2_with fail
      refine (kC.out _).mono ?_
      rintro e w5 ⟨rfl, hb5⟩
      have hI5 := hI'.out.go hb5
      obtain ⟨x0, x1, x2, x3, x4, f0, f1, f2, f3, f4⟩ := row_cells hI5.z
      have hB := hI5.b
      have q0 := carry hb5 hkl q0; have q1 := carry hb5 hkl q1; have q2 := carry hb5 hkl q2; have q3 := carry hb5 hkl q3; have q4 := carry hb5 hkl q4
      have hs5 := hI5.s
      rw [hcn.out]
      clear hb5 hI5 hI'
      cases hc : r'.cnt
      · have hno' := Lib.hid fun (w' : World) => hno.out w' hc
        clear hc
        go_wp2_with fail
        exact bodyPost_ret (v := .tuple #[.agg #[.int .i64 0, .int .i64 0, .int .i64 0, .int .i64 0, .int .i64 0], .int .i64 900]) (by simp [results, Try.results16, go_sem, x0, x1, x2, x3, x4]) rfl (hno'.out _ (by (repeat' (first | with_reducible exact Below.refl _ _ | with_reducible assumption | with_reducible apply Below.setCell | with_reducible apply Below.alloc | with_reducible apply Below.drew | with_reducible apply below_drewN | with_reducible exact Nat.le_refl _ | (simp; done) | (simp; omega) | omega | exact Nat.le_refl _))))
      · obtain ⟨z1, z2⟩ := hyes.out hc
        have hp : Hid (∀ W, Below w.heap.size w W → SubRPost xs r w (.returned (.tuple #[rwV r', .int .i64 0])) W) := Lib.hid fun W hW => ⟨by rw [z1, z2], hW⟩
        clear hc z1 z2 hyes hno
        unfold rwV at hp
        go_wp2_with fail
        exact bodyPost_ret (v := .tuple #[.agg #[.int .i64 r'.a, .int .i64 r'.b, .int .i64 r'.c, .int .i64 r'.d, .int .i64 r'.t], .int .i64 0]) (by simp [results, Try.results16, go_sem, x0, x1, x2, x3, x4]) rfl (hp.out _ (by (repeat' (first | with_reducible exact Below.refl _ _ | with_reducible assumption | with_reducible apply Below.setCell | with_reducible apply Below.alloc | with_reducible apply Below.drew | with_reducible apply below_drewN | with_reducible exact Nat.le_refl _ | (simp; done) | (simp; omega) | omega | exact Nat.le_refl _))))
end Go.Proofs.Ytjhmdobmbajcgaa
