/- TypForms holds for every two numbers. No condition but that the listed package variables hold what the program's text lays. -/
import Derived.Test.YtdganhamafhfdaaDoorCards
import Derived.Test.YtdganhamafhfdaaDoorTie
import Derived.Test.YtdganhamafhfdaaDoorOpn
import Derived.Test.YtdganhamafhfdaaDoorCrd
import Derived.WalkKit
import Derived.ProofKit
import Derived.Deep.DeepHandedRow
import Derived.Test.YtdganhamafhfdaaDoorEqA
import Derived.Test.YtdganhamafhfdaaDoorTyI
import Derived.Test.YtdganhamafhfdaaDoorAw7
import Derived.Test.YtdganhamafhfdaaDoorAid
namespace Go.Proofs.YtdganhamafhfdaaDoor.typForms
open Go.ChangeShapes Go.WideShapes Go.ChangeAt Go.RowKit
open Go.ChangeMaps (open_string shut_string)
set_option linter.unusedVariables false
set_option linter.unusedSimpArgs false

theorem tabs {W : World} (h : laidMetH Tryd.prog Rows.typFormsRow.laid W) : Hid (TabW W) := by
  have hm : ("internal/strconv.uint64pow10", (Rows.laid_internal_strconv_uint64pow10 : DataW Unit)) ∈ Rows.typFormsRow.laid := .tail _ (.tail _ (.head _))
  rw [show (Rows.laid_internal_strconv_uint64pow10 : DataW Unit) = Lib.tabData .u64 Lib.pow10Tab from by kernel_rfl] at hm
  exact Lib.hid (tabIs_of_mem gPow (t := 211) (e := 166) (n := 20) (by kernel_rfl) Tryd.underlying211 Tryd.underlying166 (by kernel_rfl) (by kernel_rfl) h hm)

def tf0 : List Ty := [⟨2, 3, 0, 0, 0, 0, 0, 0, 0⟩, ⟨1, 0, 0, 0, 0, 0, 0, 0, 0⟩, ⟨3, 0, 0, 1, 0, 0, 0, 0, -1⟩]
theorem tf_may : tyV tf0 = true := by kernel_rfl
theorem blk_set {w : World} {g j : Nat} {arr : Array Value} {T : TypeId} {v : Value} (h : w.heap[g]? = some (.cells arr T (0, 0))) : (w.setCell ⟨g, j, none⟩ v).heap[g]? = some (.cells (arr.setIfInBounds j v) T (0, 0)) := by
  simp [World.setCell, Array.getElem?_modify, h]
theorem tyArg_blk {w : World} {arr : Array Value} {T : TypeId} {g n : Nat} {ts : List Ty} (h : w.heap[g]? = some (.cells arr T (0, 0))) (hn : n = ts.length) (ha : tyL ts <+: arr.toList) : TyArg w (some ⟨g, 0, none⟩) n ts := by
  refine ⟨hn, .inr ⟨g, 0, rfl, tySl_of fun j u hj => ?_, (Array.getElem?_eq_some_iff.1 h).1⟩⟩
  obtain ⟨r, hr⟩ := ha
  have hl : j < (tyL ts).length := (List.getElem?_eq_some_iff.1 hj).1
  rw [Lib.cell_of_heap h, Nat.zero_add, ← Array.getElem?_toList, ← hr, List.getElem?_append_left hl]
  exact hj
theorem ty_to (a : Option Addr) (m c n : Nat) (h : n ≤ c) (W : World) : (Instr.slice 22 (.slice a m c) none (some (.int .i64 n)) none).run Tryd.prog W = .ok (.slice a n c) W := by
  have hs : ∀ W : World, (sizeOf 52).run Tryd.prog W = .ok 9 W := fun _ => by kernel_rfl
  have he : Tryd.prog.elem 22 = 52 := by kernel_rfl
  rw [run_slice_h W 22 a m c (by rw [he]; exact Tryd.underlying22) .i64 (n : Int) (by omega) (by omega), he, hs]
  cases a <;> simp [Result.andThen, sliced, Addr.add]
theorem tx_no {ts : List Ty} (h : tyV ts = false) : txV ts = ⟨#[]⟩ ∧ txE ts = 700 := by unfold txV txE; rw [h]; exact ⟨rfl, rfl⟩
theorem fun_none {us bs : List Ty} {r : Rw} (h : tyV us = false) : funT us r bs = [] ∧ funE us r bs = 700 := by unfold funT funE funOk; rw [h]; exact ⟨rfl, rfl⟩
theorem tf_0 (d : Int) (hd : 1 ≤ d) : tyV [⟨2, -d, 0, 0, 0, 0, 0, 0, 0⟩, ⟨1, 0, 0, 0, 0, 0, 0, 0, 0⟩, ⟨3, 0, 0, 1, 0, 0, 0, 0, -1⟩] = false := by
  refine tyV_node _ 0 (by show 0 < 3; omega) ?_
  show tyOk ⟨2, -d, 0, 0, 0, 0, 0, 0, 0⟩ = false
  unfold tyOk
  simp [tyE_iff, bsT, mayR]
  try omega
theorem tf_1 (d : Int) (hd : 1 ≤ d) : tyV [⟨2, 4095 + d, 0, 0, 0, 0, 0, 0, 0⟩, ⟨1, 0, 0, 0, 0, 0, 0, 0, 0⟩, ⟨3, 0, 0, 1, 0, 0, 0, 0, -1⟩] = false := by
  refine tyV_node _ 0 (by show 0 < 3; omega) ?_
  show tyOk ⟨2, 4095 + d, 0, 0, 0, 0, 0, 0, 0⟩ = false
  unfold tyOk
  simp [tyE_iff, bsT, mayR]
  try omega
theorem tf_2 (d : Int) (hd : 1 ≤ d) : tyV [⟨2, 3, d, 0, 0, 0, 0, 0, 0⟩, ⟨1, 0, 0, 0, 0, 0, 0, 0, 0⟩, ⟨3, 0, 0, 1, 0, 0, 0, 0, -1⟩] = false := by
  refine tyV_node _ 0 (by show 0 < 3; omega) ?_
  show tyOk ⟨2, 3, d, 0, 0, 0, 0, 0, 0⟩ = false
  unfold tyOk
  simp [tyE_iff, bsT, mayR]
  try omega
theorem tf_3 (d : Int) (hd : 1 ≤ d) : tyV [⟨2, 3, 0, 0, 0, 0, 0, 0, 0⟩, ⟨1, d, 0, 0, 0, 0, 0, 0, 0⟩, ⟨3, 0, 0, 1, 0, 0, 0, 0, -1⟩] = false := by
  refine tyV_node _ 1 (by show 1 < 3; omega) ?_
  show tyOk ⟨1, d, 0, 0, 0, 0, 0, 0, 0⟩ = false
  unfold tyOk
  simp [tyE_iff, bsT, mayR]
  try omega
theorem tf_4 (d : Int) (hd : 1 ≤ d) : tyV [⟨2, 3, 0, 0, 0, 0, 0, 0, 0⟩, ⟨3 + d, 0, 0, 0, 0, 0, 0, 0, 0⟩, ⟨3, 0, 0, 1, 0, 0, 0, 0, -1⟩] = false := by
  refine tyV_node _ 1 (by show 1 < 3; omega) ?_
  show tyOk ⟨3 + d, 0, 0, 0, 0, 0, 0, 0, 0⟩ = false
  unfold tyOk
  simp [tyE_iff, bsT, mayR]
  try omega
theorem tf_5 (d : Int) (hd : 1 ≤ d) : tyV [⟨2, 3, 0, 0, 0, 0, 0, 0, 0⟩, ⟨1, 0, 0, 0, 0, 0, 0, 0, d⟩, ⟨3, 0, 0, 1, 0, 0, 0, 0, -1⟩] = false := by
  refine tyV_node _ 1 (by show 1 < 3; omega) ?_
  show tyOk ⟨1, 0, 0, 0, 0, 0, 0, 0, d⟩ = false
  unfold tyOk
  simp [tyE_iff, bsT, mayR]
  try omega
theorem tf_6 (d : Int) (hd : 1 ≤ d) : tyV [⟨2, 3, 0, 0, 0, 0, 0, 0, 0⟩, ⟨1, 0, 0, 0, 0, 0, 0, 0, 0⟩, ⟨3, 0, -d, 1, 0, 0, 0, 0, -1⟩] = false := by
  have e1 : bg (ksT [⟨2, 3, 0, 0, 0, 0, 0, 0, 0⟩, ⟨1, 0, 0, 0, 0, 0, 0, 0, 0⟩, ⟨3, 0, -d, 1, 0, 0, 0, 0, -1⟩]) 1 = 1 := by kernel_rfl
  have e2 : bg (ksT [⟨2, 3, 0, 0, 0, 0, 0, 0, 0⟩, ⟨1, 0, 0, 0, 0, 0, 0, 0, 0⟩, ⟨3, 0, -d, 1, 0, 0, 0, 0, -1⟩]) 2 = -1 := by
    rw [bg_two _ 2 (-d) 1 rfl, if_pos (by omega), show (2 - 1 : Nat) = 1 from rfl, e1, if_neg (by omega), if_neg (by omega)]
  unfold tyV
  rw [show ([⟨2, 3, 0, 0, 0, 0, 0, 0, 0⟩, ⟨1, 0, 0, 0, 0, 0, 0, 0, 0⟩, ⟨3, 0, -d, 1, 0, 0, 0, 0, -1⟩] : List Ty).length - 1 = 2 from rfl, e2]
  simp
theorem tf_7 : tyV [⟨2, 3, 0, 0, 0, 0, 0, 0, 0⟩, ⟨1, 0, 0, 0, 0, 0, 0, 0, 0⟩, ⟨3, 0, 0, 0, 0, 0, 0, 0, -1⟩] = false := by kernel_rfl
theorem tf_8 (d : Int) (hd : 1 ≤ d) : tyV [⟨2, 3, 0, 0, 0, 0, 0, 0, 0⟩, ⟨1, 0, 0, 0, 0, 0, 0, 0, 0⟩, ⟨3, 0, 0, 1, 0, 0, 0, 0, -1 - d⟩] = false := by
  refine tyV_node _ 2 (by show 2 < 3; omega) ?_
  show tyOk ⟨3, 0, 0, 1, 0, 0, 0, 0, -1 - d⟩ = false
  unfold tyOk
  simp [tyE_iff, bsT, mayR]
  try omega
theorem tf_9 (d : Int) (hd : 1 ≤ d) : tyV [⟨2, 3, 0, 0, 0, 0, 0, 0, 0⟩, ⟨1, 0, 0, 0, 0, 0, 0, 0, 0⟩, ⟨3, 0, 0, 1, 0, 0, 0, 0, 4095 + d⟩] = false := by
  refine tyV_node _ 2 (by show 2 < 3; omega) ?_
  show tyOk ⟨3, 0, 0, 1, 0, 0, 0, 0, 4095 + d⟩ = false
  unfold tyOk
  simp [tyE_iff, bsT, mayR]
  try omega
theorem tf_10_0 (d : Int) (hd : 1 ≤ d) : tyV [⟨2, 3, 0, 0, 0, 0, 0, 0, 0⟩, ⟨1, 0, 0, 0, 0, 0, 0, 0, 0⟩, ⟨3, 0, 0, 1, 32 + d, 0, 0, 0, -1⟩] = false := by
  refine tyV_node _ 2 (by show 2 < 3; omega) ?_
  show tyOk ⟨3, 0, 0, 1, 32 + d, 0, 0, 0, -1⟩ = false
  unfold tyOk
  simp [tyE_iff, bsT, mayR]
  try omega
theorem tf_10_1 (d : Int) (hd : 1 ≤ d) : tyV [⟨2, 3, 0, 0, 0, 0, 0, 0, 0⟩, ⟨1, 0, 0, 0, 0, 0, 0, 0, 0⟩, ⟨3, 0, 0, 1, 0, 32 + d, 0, 0, -1⟩] = false := by
  refine tyV_node _ 2 (by show 2 < 3; omega) ?_
  show tyOk ⟨3, 0, 0, 1, 0, 32 + d, 0, 0, -1⟩ = false
  unfold tyOk
  simp [tyE_iff, bsT, mayR]
  try omega
theorem tf_10_2 (d : Int) (hd : 1 ≤ d) : tyV [⟨2, 3, 0, 0, 0, 0, 0, 0, 0⟩, ⟨1, 0, 0, 0, 0, 0, 0, 0, 0⟩, ⟨3, 0, 0, 1, 0, 0, 32 + d, 0, -1⟩] = false := by
  refine tyV_node _ 2 (by show 2 < 3; omega) ?_
  show tyOk ⟨3, 0, 0, 1, 0, 0, 32 + d, 0, -1⟩ = false
  unfold tyOk
  simp [tyE_iff, bsT, mayR]
  try omega
theorem tf_10_3 (d : Int) (hd : 1 ≤ d) : tyV [⟨2, 3, 0, 0, 0, 0, 0, 0, 0⟩, ⟨1, 0, 0, 0, 0, 0, 0, 0, 0⟩, ⟨3, 0, 0, 1, 0, 0, 0, 32 + d, -1⟩] = false := by
  refine tyV_node _ 2 (by show 2 < 3; omega) ?_
  show tyOk ⟨3, 0, 0, 1, 0, 0, 0, 32 + d, -1⟩ = false
  unfold tyOk
  simp [tyE_iff, bsT, mayR]
  try omega
theorem tf_11_0 (d : Int) (hd : 1 ≤ d) : tyV [⟨2, 3, 0, 0, 0, 0, 0, 0, 0⟩, ⟨1, 0, 0, 0, 0, 0, 0, 0, 0⟩, ⟨3, 0, 0, 1, -d, 0, 0, 0, -1⟩] = false := by
  refine tyV_node _ 2 (by show 2 < 3; omega) ?_
  show tyOk ⟨3, 0, 0, 1, -d, 0, 0, 0, -1⟩ = false
  unfold tyOk
  simp [tyE_iff, bsT, mayR]
  try omega
theorem tf_11_1 (d : Int) (hd : 1 ≤ d) : tyV [⟨2, 3, 0, 0, 0, 0, 0, 0, 0⟩, ⟨1, 0, 0, 0, 0, 0, 0, 0, 0⟩, ⟨3, 0, 0, 1, 0, -d, 0, 0, -1⟩] = false := by
  refine tyV_node _ 2 (by show 2 < 3; omega) ?_
  show tyOk ⟨3, 0, 0, 1, 0, -d, 0, 0, -1⟩ = false
  unfold tyOk
  simp [tyE_iff, bsT, mayR]
  try omega
theorem tf_11_2 (d : Int) (hd : 1 ≤ d) : tyV [⟨2, 3, 0, 0, 0, 0, 0, 0, 0⟩, ⟨1, 0, 0, 0, 0, 0, 0, 0, 0⟩, ⟨3, 0, 0, 1, 0, 0, -d, 0, -1⟩] = false := by
  refine tyV_node _ 2 (by show 2 < 3; omega) ?_
  show tyOk ⟨3, 0, 0, 1, 0, 0, -d, 0, -1⟩ = false
  unfold tyOk
  simp [tyE_iff, bsT, mayR]
  try omega
theorem tf_11_3 (d : Int) (hd : 1 ≤ d) : tyV [⟨2, 3, 0, 0, 0, 0, 0, 0, 0⟩, ⟨1, 0, 0, 0, 0, 0, 0, 0, 0⟩, ⟨3, 0, 0, 1, 0, 0, 0, -d, -1⟩] = false := by
  refine tyV_node _ 2 (by show 2 < 3; omega) ?_
  show tyOk ⟨3, 0, 0, 1, 0, 0, 0, -d, -1⟩ = false
  unfold tyOk
  simp [tyE_iff, bsT, mayR]
  try omega
theorem tf_12 : tyV [⟨2, 3, 0, 0, 0, 0, 0, 0, 0⟩, ⟨1, 0, 0, 0, 0, 0, 0, 0, 0⟩] = false := by kernel_rfl
theorem tf_13 (d : Int) (hd : 1 ≤ d) : tyV [⟨2, 3, 0, 0, 0, 0, 0, 0, 0⟩, ⟨1, 0, 0, 0, 0, 0, 0, 0, 0⟩, ⟨3, d, 0, 1, 0, 0, 0, 0, -1⟩] = false := by
  refine tyV_node _ 2 (by show 2 < 3; omega) ?_
  show tyOk ⟨3, d, 0, 1, 0, 0, 0, 0, -1⟩ = false
  unfold tyOk
  simp [tyE_iff, bsT, mayR]
  try omega
set_option maxRecDepth 100000 in
set_option maxHeartbeats 64000000 in
theorem walk (which x : Int) (w : World) (hwb : -9223372036854775808 ≤ which ∧ which ≤ 9223372036854775807) (hxb : -9223372036854775808 ≤ x ∧ x ≤ 9223372036854775807) (hT : Hid (TabW w)) :
    Calls Tryd.prog 5 #[.int .i64 which, .int .i64 x] w fun e w' => e = .returned (.bool true) ∧ Below w.heap.size w w' := by
  obtain ⟨y, hy⟩ : ∃ y, x % 1024 = y := ⟨_, rfl⟩
  have hand : bits .and .i64 x 1023 = y := by rw [and1023, hy]
  have hyb : 0 ≤ y ∧ y < 1024 := by omega
  obtain ⟨d, hd⟩ : ∃ d, 1 + y = d := ⟨_, rfl⟩
  have hd1 : 1 ≤ d := by omega
  have hd2 : d ≤ 1024 := by omega
  obtain ⟨k4, hk4⟩ : ∃ k, d % 4 = k := ⟨_, rfl⟩
  have hand3 : bits .and .i64 d 3 = k4 := by rw [and3, hk4]
  have hk4b : 0 ≤ k4 ∧ k4 < 4 := by omega
  obtain ⟨m, hm0, hm1, hm⟩ := umod_u which 14 (by omega)
  clear hwb hxb
  have hyk := Lib.hid (show x % 1024 = y ∧ d % 4 = k4 from ⟨hy, hk4⟩)
  clear hy hk4
  go_enter Tryd.func5, Tryd.ntmps5
  go_wp2_with fail
  refine (awake7_any _ (Lib.hid (tab_keep hT.out (show Below w.heap.size w _ from by (repeat' (first | with_reducible exact Below.refl _ _ | with_reducible assumption | with_reducible apply Below.setCell | with_reducible apply Below.alloc | with_reducible apply Below.drew | with_reducible apply below_drewN | with_reducible exact Nat.le_refl _ | (simp; done) | (simp; omega) | omega | exact Nat.le_refl _))) (Nat.le_refl _)))).mono ?_
  rintro e w1 ⟨rfl, hb1⟩
  have hB := Lib.hid (belT (show Below w.heap.size w _ from by (repeat' (first | with_reducible exact Below.refl _ _ | with_reducible assumption | with_reducible apply Below.setCell | with_reducible apply Below.alloc | with_reducible apply Below.drew | with_reducible apply below_drewN | with_reducible exact Nat.le_refl _ | (simp; done) | (simp; omega) | omega | exact Nat.le_refl _))) hb1)
  have hB1 := hB
  clear hb1
  go_wp2_with fail
  refine (tyMay_any _ _ _ tf0 _ (Lib.hid (by exact TyArg.alloc _ (tyArg_lit _ _ _ _ _ _ rfl rfl rfl))) (by omega)).mono ?_
  rintro e w2 ⟨rfl, hb⟩
  rw [tf_may]
  have hblk := Lib.hid (show w2.heap[w1.heap.size]? = some (.cells #[.int .i64 (2), .int .i64 (3), .int .i64 (0), .int .i64 (0), .int .i64 (0), .int .i64 (0), .int .i64 (0), .int .i64 (0), .int .i64 (0), .int .i64 (1), .int .i64 (0), .int .i64 (0), .int .i64 (0), .int .i64 (0), .int .i64 (0), .int .i64 (0), .int .i64 (0), .int .i64 (0), .int .i64 (3), .int .i64 (0), .int .i64 (0), .int .i64 (1), .int .i64 (0), .int .i64 (0), .int .i64 (0), .int .i64 (0), .int .i64 (-1)] 52 (0, 0)) from (hb.block _ (by first | (simp; done) | (simp; omega))).trans (by show (((w1.alloc _).alloc _).heap)[w1.heap.size]? = _; rw [Lib.alloc_old _ _ _ (by first | (simp; done) | (simp; omega))]; exact alloc_last _ _))
  have hX := Lib.hid (show BoxAt w2 (w1.heap.size + 1) (.slice (some ⟨w1.heap.size, 0, none⟩) 3 3) from BoxAt.below (by exact box_lit _ _ _ _ (by simp)) hb)
  have hB := Lib.hid (belT (belA _ (belA _ hB.out)) hb)
  have hfx := Lib.hid (show w2.frozen? ⟨w1.heap.size + 1, 0, none⟩ = false from by rw [hb.frozen (p := ⟨w1.heap.size + 1, 0, none⟩) (by first | (simp; done) | (simp; omega))]; simp [go_sem])
  have hfz := Lib.hid (fun (W : World) (o : Nat) (h : ∃ arr, W.heap[w1.heap.size]? = some (.cells arr 52 (0, 0))) => (show W.frozen? ⟨w1.heap.size, o, none⟩ = false from by obtain ⟨arr, h⟩ := h; exact Lib.frozen_of_heap h o))
  clear hb
  have hBl := Lib.hid (show w.heap.size ≤ w1.heap.size from hB1.out.size)
  have hcs : m = 0 ∨ m = 1 ∨ m = 2 ∨ m = 3 ∨ m = 4 ∨ m = 5 ∨ m = 6 ∨ m = 7 ∨ m = 8 ∨ m = 9 ∨ m = 10 ∨ m = 11 ∨ m = 12 ∨ m = 13 := (by omega)
  clear hm0 hm1
  rcases hcs with rfl | rfl | rfl | rfl | rfl | rfl | rfl | rfl | rfl | rfl | rfl | rfl | rfl | rfl
  · have hfb := hfz.out w2 1 ⟨_, hblk.out⟩
    have hcv : w2.cell? ⟨w1.heap.size, 1, none⟩ = some (.int .i64 (3)) := by rw [Lib.cell_of_heap hblk.out]; rfl
    have hbl := hBl.out
    obtain ⟨x0, x1⟩ := hX.out
    go_wp2_with fail
    clear hfb hcv
    refine (tyText_any _ _ _ [⟨2, -d, 0, 0, 0, 0, 0, 0, 0⟩, ⟨1, 0, 0, 0, 0, 0, 0, 0, 0⟩, ⟨3, 0, 0, 1, 0, 0, 0, 0, -1⟩] _ (Lib.hid (by exact (tyArg_blk (blk_set hblk.out) rfl ⟨[], rfl⟩))) (by omega) (Lib.hid (tab_keep hT.out (by exact (Below.setCell hB.out (show w.heap.size ≤ w1.heap.size from hbl) _)) (Nat.le_refl _)))).mono ?_
    rintro e w3 ⟨rfl, hb⟩
    rw [(tx_no (tf_0 d hd1)).1, (tx_no (tf_0 d hd1)).2]
    have hA := Lib.hid (show TyArg w3 (some ⟨w1.heap.size, 0, none⟩) 3 [⟨2, -d, 0, 0, 0, 0, 0, 0, 0⟩, ⟨1, 0, 0, 0, 0, 0, 0, 0, 0⟩, ⟨3, 0, 0, 1, 0, 0, 0, 0, -1⟩] from TyArg.below (by exact (tyArg_blk (blk_set hblk.out) rfl ⟨[], rfl⟩)) hb)
    have hX := Lib.hid (show BoxAt w3 (w1.heap.size + 1) (.slice (some ⟨w1.heap.size, 0, none⟩) 3 3) from BoxAt.below (by exact (show BoxAt (w2.setCell ⟨w1.heap.size, 1, none⟩ (.int .i64 (-d))) (w1.heap.size + 1) (.slice (some ⟨w1.heap.size, 0, none⟩) 3 3) from ⟨by simpa using hX.out.1, setO hX.out.2 (by simp)⟩)) hb)
    have hB := Lib.hid (show Below w.heap.size w w3 from belT (by exact (Below.setCell hB.out (show w.heap.size ≤ w1.heap.size from hbl) _)) hb)
    clear hb x0 x1 hbl
    obtain ⟨x0, x1⟩ := hX.out
    go_wp2_with fail
    clear x0 x1
    refine (vars_any _ _ _ [⟨2, -d, 0, 0, 0, 0, 0, 0, 0⟩, ⟨1, 0, 0, 0, 0, 0, 0, 0, 0⟩, ⟨3, 0, 0, 1, 0, 0, 0, 0, -1⟩] _ hA (by omega)).mono ?_
    rintro e w4 hp
    unfold VarsPost at hp
    rw [(tf_0 d hd1), if_neg (by decide)] at hp
    obtain ⟨rfl, hb⟩ := hp
    have hA := Lib.hid (hA.out.below hb)
    have hX := Lib.hid (hX.out.below hb)
    have hB := Lib.hid (belT hB.out hb)
    clear hb
    obtain ⟨x0, x1⟩ := hX.out
    go_wp2_with fail
    clear x0 x1
    refine (fun_any _ _ _ ⟨0, 0, 0, 0, -1⟩ _ _ _ [⟨2, -d, 0, 0, 0, 0, 0, 0, 0⟩, ⟨1, 0, 0, 0, 0, 0, 0, 0, 0⟩, ⟨3, 0, 0, 1, 0, 0, 0, 0, -1⟩] [⟨0, 0, 0, 0, 0, 0, 0, 0, 0⟩] _ (Lib.hid (by exact TyArg.alloc _ hA.out)) (Lib.hid (by exact tyArg_lit _ _ _ _ _ _ rfl rfl rfl)) (by omega) (by omega)).mono ?_
    rintro e w5 ⟨v, rfl, hv, hb⟩
    rw [(fun_none (tf_0 d hd1)).2]
    obtain ⟨a5, m5, d5, rfl⟩ := ownT_sl hv
    have hA := Lib.hid ((TyArg.below (by exact TyArg.alloc _ hA.out) hb).alloc (.cells #[.slice a5 m5 d5] 24))
    have hX := Lib.hid ((BoxAt.below (by exact BoxAt.alloc _ hX.out) hb).alloc (.cells #[.slice a5 m5 d5] 24))
    have hB := Lib.hid (belA (.cells #[.slice a5 m5 d5] 24) (belT (belA _ hB.out) hb))
    clear hb hv
    obtain ⟨x0, x1⟩ := hX.out
    go_wp2_with fail
    clear x0 x1
    refine (tyMay_any _ _ _ [⟨2, -d, 0, 0, 0, 0, 0, 0, 0⟩, ⟨1, 0, 0, 0, 0, 0, 0, 0, 0⟩, ⟨3, 0, 0, 1, 0, 0, 0, 0, -1⟩] _ hA (by omega)).mono ?_
    rintro e w6 ⟨rfl, hb⟩
    rw [(tf_0 d hd1)]
    have hB := Lib.hid (belT hB.out hb)
    clear hb hA hX
    go_wp2_with ((go_at_call 24; refine (num_any _ _ (by omega) (by omega)).mono ?_; rintro e w' ⟨rfl, rfl⟩))
    go_ret
    exact ⟨rfl, hB.out⟩
  · have hfb := hfz.out w2 1 ⟨_, hblk.out⟩
    have hcv : w2.cell? ⟨w1.heap.size, 1, none⟩ = some (.int .i64 (3)) := by rw [Lib.cell_of_heap hblk.out]; rfl
    have hbl := hBl.out
    obtain ⟨x0, x1⟩ := hX.out
    go_wp2_with fail
    clear hfb hcv
    refine (tyText_any _ _ _ [⟨2, 4095 + d, 0, 0, 0, 0, 0, 0, 0⟩, ⟨1, 0, 0, 0, 0, 0, 0, 0, 0⟩, ⟨3, 0, 0, 1, 0, 0, 0, 0, -1⟩] _ (Lib.hid (by exact (tyArg_blk (blk_set hblk.out) rfl ⟨[], rfl⟩))) (by omega) (Lib.hid (tab_keep hT.out (by exact (Below.setCell hB.out (show w.heap.size ≤ w1.heap.size from hbl) _)) (Nat.le_refl _)))).mono ?_
    rintro e w3 ⟨rfl, hb⟩
    rw [(tx_no (tf_1 d hd1)).1, (tx_no (tf_1 d hd1)).2]
    have hA := Lib.hid (show TyArg w3 (some ⟨w1.heap.size, 0, none⟩) 3 [⟨2, 4095 + d, 0, 0, 0, 0, 0, 0, 0⟩, ⟨1, 0, 0, 0, 0, 0, 0, 0, 0⟩, ⟨3, 0, 0, 1, 0, 0, 0, 0, -1⟩] from TyArg.below (by exact (tyArg_blk (blk_set hblk.out) rfl ⟨[], rfl⟩)) hb)
    have hX := Lib.hid (show BoxAt w3 (w1.heap.size + 1) (.slice (some ⟨w1.heap.size, 0, none⟩) 3 3) from BoxAt.below (by exact (show BoxAt (w2.setCell ⟨w1.heap.size, 1, none⟩ (.int .i64 (4095 + d))) (w1.heap.size + 1) (.slice (some ⟨w1.heap.size, 0, none⟩) 3 3) from ⟨by simpa using hX.out.1, setO hX.out.2 (by simp)⟩)) hb)
    have hB := Lib.hid (show Below w.heap.size w w3 from belT (by exact (Below.setCell hB.out (show w.heap.size ≤ w1.heap.size from hbl) _)) hb)
    clear hb x0 x1 hbl
    obtain ⟨x0, x1⟩ := hX.out
    go_wp2_with fail
    clear x0 x1
    refine (vars_any _ _ _ [⟨2, 4095 + d, 0, 0, 0, 0, 0, 0, 0⟩, ⟨1, 0, 0, 0, 0, 0, 0, 0, 0⟩, ⟨3, 0, 0, 1, 0, 0, 0, 0, -1⟩] _ hA (by omega)).mono ?_
    rintro e w4 hp
    unfold VarsPost at hp
    rw [(tf_1 d hd1), if_neg (by decide)] at hp
    obtain ⟨rfl, hb⟩ := hp
    have hA := Lib.hid (hA.out.below hb)
    have hX := Lib.hid (hX.out.below hb)
    have hB := Lib.hid (belT hB.out hb)
    clear hb
    obtain ⟨x0, x1⟩ := hX.out
    go_wp2_with fail
    clear x0 x1
    refine (fun_any _ _ _ ⟨0, 0, 0, 0, -1⟩ _ _ _ [⟨2, 4095 + d, 0, 0, 0, 0, 0, 0, 0⟩, ⟨1, 0, 0, 0, 0, 0, 0, 0, 0⟩, ⟨3, 0, 0, 1, 0, 0, 0, 0, -1⟩] [⟨0, 0, 0, 0, 0, 0, 0, 0, 0⟩] _ (Lib.hid (by exact TyArg.alloc _ hA.out)) (Lib.hid (by exact tyArg_lit _ _ _ _ _ _ rfl rfl rfl)) (by omega) (by omega)).mono ?_
    rintro e w5 ⟨v, rfl, hv, hb⟩
    rw [(fun_none (tf_1 d hd1)).2]
    obtain ⟨a5, m5, d5, rfl⟩ := ownT_sl hv
    have hA := Lib.hid ((TyArg.below (by exact TyArg.alloc _ hA.out) hb).alloc (.cells #[.slice a5 m5 d5] 24))
    have hX := Lib.hid ((BoxAt.below (by exact BoxAt.alloc _ hX.out) hb).alloc (.cells #[.slice a5 m5 d5] 24))
    have hB := Lib.hid (belA (.cells #[.slice a5 m5 d5] 24) (belT (belA _ hB.out) hb))
    clear hb hv
    obtain ⟨x0, x1⟩ := hX.out
    go_wp2_with fail
    clear x0 x1
    refine (tyMay_any _ _ _ [⟨2, 4095 + d, 0, 0, 0, 0, 0, 0, 0⟩, ⟨1, 0, 0, 0, 0, 0, 0, 0, 0⟩, ⟨3, 0, 0, 1, 0, 0, 0, 0, -1⟩] _ hA (by omega)).mono ?_
    rintro e w6 ⟨rfl, hb⟩
    rw [(tf_1 d hd1)]
    have hB := Lib.hid (belT hB.out hb)
    clear hb hA hX
    go_wp2_with ((go_at_call 24; refine (num_any _ _ (by omega) (by omega)).mono ?_; rintro e w' ⟨rfl, rfl⟩))
    go_ret
    exact ⟨rfl, hB.out⟩
  · have hfb := hfz.out w2 2 ⟨_, hblk.out⟩
    have hcv : w2.cell? ⟨w1.heap.size, 2, none⟩ = some (.int .i64 (0)) := by rw [Lib.cell_of_heap hblk.out]; rfl
    have hbl := hBl.out
    obtain ⟨x0, x1⟩ := hX.out
    go_wp2_with fail
    clear hfb hcv
    refine (tyText_any _ _ _ [⟨2, 3, d, 0, 0, 0, 0, 0, 0⟩, ⟨1, 0, 0, 0, 0, 0, 0, 0, 0⟩, ⟨3, 0, 0, 1, 0, 0, 0, 0, -1⟩] _ (Lib.hid (by exact (tyArg_blk (blk_set hblk.out) rfl ⟨[], rfl⟩))) (by omega) (Lib.hid (tab_keep hT.out (by exact (Below.setCell hB.out (show w.heap.size ≤ w1.heap.size from hbl) _)) (Nat.le_refl _)))).mono ?_
    rintro e w3 ⟨rfl, hb⟩
    rw [(tx_no (tf_2 d hd1)).1, (tx_no (tf_2 d hd1)).2]
    have hA := Lib.hid (show TyArg w3 (some ⟨w1.heap.size, 0, none⟩) 3 [⟨2, 3, d, 0, 0, 0, 0, 0, 0⟩, ⟨1, 0, 0, 0, 0, 0, 0, 0, 0⟩, ⟨3, 0, 0, 1, 0, 0, 0, 0, -1⟩] from TyArg.below (by exact (tyArg_blk (blk_set hblk.out) rfl ⟨[], rfl⟩)) hb)
    have hX := Lib.hid (show BoxAt w3 (w1.heap.size + 1) (.slice (some ⟨w1.heap.size, 0, none⟩) 3 3) from BoxAt.below (by exact (show BoxAt (w2.setCell ⟨w1.heap.size, 2, none⟩ (.int .i64 (d))) (w1.heap.size + 1) (.slice (some ⟨w1.heap.size, 0, none⟩) 3 3) from ⟨by simpa using hX.out.1, setO hX.out.2 (by simp)⟩)) hb)
    have hB := Lib.hid (show Below w.heap.size w w3 from belT (by exact (Below.setCell hB.out (show w.heap.size ≤ w1.heap.size from hbl) _)) hb)
    clear hb x0 x1 hbl
    obtain ⟨x0, x1⟩ := hX.out
    go_wp2_with fail
    clear x0 x1
    refine (vars_any _ _ _ [⟨2, 3, d, 0, 0, 0, 0, 0, 0⟩, ⟨1, 0, 0, 0, 0, 0, 0, 0, 0⟩, ⟨3, 0, 0, 1, 0, 0, 0, 0, -1⟩] _ hA (by omega)).mono ?_
    rintro e w4 hp
    unfold VarsPost at hp
    rw [(tf_2 d hd1), if_neg (by decide)] at hp
    obtain ⟨rfl, hb⟩ := hp
    have hA := Lib.hid (hA.out.below hb)
    have hX := Lib.hid (hX.out.below hb)
    have hB := Lib.hid (belT hB.out hb)
    clear hb
    obtain ⟨x0, x1⟩ := hX.out
    go_wp2_with fail
    clear x0 x1
    refine (fun_any _ _ _ ⟨0, 0, 0, 0, -1⟩ _ _ _ [⟨2, 3, d, 0, 0, 0, 0, 0, 0⟩, ⟨1, 0, 0, 0, 0, 0, 0, 0, 0⟩, ⟨3, 0, 0, 1, 0, 0, 0, 0, -1⟩] [⟨0, 0, 0, 0, 0, 0, 0, 0, 0⟩] _ (Lib.hid (by exact TyArg.alloc _ hA.out)) (Lib.hid (by exact tyArg_lit _ _ _ _ _ _ rfl rfl rfl)) (by omega) (by omega)).mono ?_
    rintro e w5 ⟨v, rfl, hv, hb⟩
    rw [(fun_none (tf_2 d hd1)).2]
    obtain ⟨a5, m5, d5, rfl⟩ := ownT_sl hv
    have hA := Lib.hid ((TyArg.below (by exact TyArg.alloc _ hA.out) hb).alloc (.cells #[.slice a5 m5 d5] 24))
    have hX := Lib.hid ((BoxAt.below (by exact BoxAt.alloc _ hX.out) hb).alloc (.cells #[.slice a5 m5 d5] 24))
    have hB := Lib.hid (belA (.cells #[.slice a5 m5 d5] 24) (belT (belA _ hB.out) hb))
    clear hb hv
    obtain ⟨x0, x1⟩ := hX.out
    go_wp2_with fail
    clear x0 x1
    refine (tyMay_any _ _ _ [⟨2, 3, d, 0, 0, 0, 0, 0, 0⟩, ⟨1, 0, 0, 0, 0, 0, 0, 0, 0⟩, ⟨3, 0, 0, 1, 0, 0, 0, 0, -1⟩] _ hA (by omega)).mono ?_
    rintro e w6 ⟨rfl, hb⟩
    rw [(tf_2 d hd1)]
    have hB := Lib.hid (belT hB.out hb)
    clear hb hA hX
    go_wp2_with ((go_at_call 24; refine (num_any _ _ (by omega) (by omega)).mono ?_; rintro e w' ⟨rfl, rfl⟩))
    go_ret
    exact ⟨rfl, hB.out⟩
  · have hfb := hfz.out w2 10 ⟨_, hblk.out⟩
    have hcv : w2.cell? ⟨w1.heap.size, 10, none⟩ = some (.int .i64 (0)) := by rw [Lib.cell_of_heap hblk.out]; rfl
    have hbl := hBl.out
    obtain ⟨x0, x1⟩ := hX.out
    go_wp2_with fail
    clear hfb hcv
    refine (tyText_any _ _ _ [⟨2, 3, 0, 0, 0, 0, 0, 0, 0⟩, ⟨1, d, 0, 0, 0, 0, 0, 0, 0⟩, ⟨3, 0, 0, 1, 0, 0, 0, 0, -1⟩] _ (Lib.hid (by exact (tyArg_blk (blk_set hblk.out) rfl ⟨[], rfl⟩))) (by omega) (Lib.hid (tab_keep hT.out (by exact (Below.setCell hB.out (show w.heap.size ≤ w1.heap.size from hbl) _)) (Nat.le_refl _)))).mono ?_
    rintro e w3 ⟨rfl, hb⟩
    rw [(tx_no (tf_3 d hd1)).1, (tx_no (tf_3 d hd1)).2]
    have hA := Lib.hid (show TyArg w3 (some ⟨w1.heap.size, 0, none⟩) 3 [⟨2, 3, 0, 0, 0, 0, 0, 0, 0⟩, ⟨1, d, 0, 0, 0, 0, 0, 0, 0⟩, ⟨3, 0, 0, 1, 0, 0, 0, 0, -1⟩] from TyArg.below (by exact (tyArg_blk (blk_set hblk.out) rfl ⟨[], rfl⟩)) hb)
    have hX := Lib.hid (show BoxAt w3 (w1.heap.size + 1) (.slice (some ⟨w1.heap.size, 0, none⟩) 3 3) from BoxAt.below (by exact (show BoxAt (w2.setCell ⟨w1.heap.size, 10, none⟩ (.int .i64 (d))) (w1.heap.size + 1) (.slice (some ⟨w1.heap.size, 0, none⟩) 3 3) from ⟨by simpa using hX.out.1, setO hX.out.2 (by simp)⟩)) hb)
    have hB := Lib.hid (show Below w.heap.size w w3 from belT (by exact (Below.setCell hB.out (show w.heap.size ≤ w1.heap.size from hbl) _)) hb)
    clear hb x0 x1 hbl
    obtain ⟨x0, x1⟩ := hX.out
    go_wp2_with fail
    clear x0 x1
    refine (vars_any _ _ _ [⟨2, 3, 0, 0, 0, 0, 0, 0, 0⟩, ⟨1, d, 0, 0, 0, 0, 0, 0, 0⟩, ⟨3, 0, 0, 1, 0, 0, 0, 0, -1⟩] _ hA (by omega)).mono ?_
    rintro e w4 hp
    unfold VarsPost at hp
    rw [(tf_3 d hd1), if_neg (by decide)] at hp
    obtain ⟨rfl, hb⟩ := hp
    have hA := Lib.hid (hA.out.below hb)
    have hX := Lib.hid (hX.out.below hb)
    have hB := Lib.hid (belT hB.out hb)
    clear hb
    obtain ⟨x0, x1⟩ := hX.out
    go_wp2_with fail
    clear x0 x1
    refine (fun_any _ _ _ ⟨0, 0, 0, 0, -1⟩ _ _ _ [⟨2, 3, 0, 0, 0, 0, 0, 0, 0⟩, ⟨1, d, 0, 0, 0, 0, 0, 0, 0⟩, ⟨3, 0, 0, 1, 0, 0, 0, 0, -1⟩] [⟨0, 0, 0, 0, 0, 0, 0, 0, 0⟩] _ (Lib.hid (by exact TyArg.alloc _ hA.out)) (Lib.hid (by exact tyArg_lit _ _ _ _ _ _ rfl rfl rfl)) (by omega) (by omega)).mono ?_
    rintro e w5 ⟨v, rfl, hv, hb⟩
    rw [(fun_none (tf_3 d hd1)).2]
    obtain ⟨a5, m5, d5, rfl⟩ := ownT_sl hv
    have hA := Lib.hid ((TyArg.below (by exact TyArg.alloc _ hA.out) hb).alloc (.cells #[.slice a5 m5 d5] 24))
    have hX := Lib.hid ((BoxAt.below (by exact BoxAt.alloc _ hX.out) hb).alloc (.cells #[.slice a5 m5 d5] 24))
    have hB := Lib.hid (belA (.cells #[.slice a5 m5 d5] 24) (belT (belA _ hB.out) hb))
    clear hb hv
    obtain ⟨x0, x1⟩ := hX.out
    go_wp2_with fail
    clear x0 x1
    refine (tyMay_any _ _ _ [⟨2, 3, 0, 0, 0, 0, 0, 0, 0⟩, ⟨1, d, 0, 0, 0, 0, 0, 0, 0⟩, ⟨3, 0, 0, 1, 0, 0, 0, 0, -1⟩] _ hA (by omega)).mono ?_
    rintro e w6 ⟨rfl, hb⟩
    rw [(tf_3 d hd1)]
    have hB := Lib.hid (belT hB.out hb)
    clear hb hA hX
    go_wp2_with ((go_at_call 24; refine (num_any _ _ (by omega) (by omega)).mono ?_; rintro e w' ⟨rfl, rfl⟩))
    go_ret
    exact ⟨rfl, hB.out⟩
  · have hfb := hfz.out w2 9 ⟨_, hblk.out⟩
    have hcv : w2.cell? ⟨w1.heap.size, 9, none⟩ = some (.int .i64 (1)) := by rw [Lib.cell_of_heap hblk.out]; rfl
    have hbl := hBl.out
    obtain ⟨x0, x1⟩ := hX.out
    go_wp2_with fail
    clear hfb hcv
    refine (tyText_any _ _ _ [⟨2, 3, 0, 0, 0, 0, 0, 0, 0⟩, ⟨3 + d, 0, 0, 0, 0, 0, 0, 0, 0⟩, ⟨3, 0, 0, 1, 0, 0, 0, 0, -1⟩] _ (Lib.hid (by exact (tyArg_blk (blk_set hblk.out) rfl ⟨[], rfl⟩))) (by omega) (Lib.hid (tab_keep hT.out (by exact (Below.setCell hB.out (show w.heap.size ≤ w1.heap.size from hbl) _)) (Nat.le_refl _)))).mono ?_
    rintro e w3 ⟨rfl, hb⟩
    rw [(tx_no (tf_4 d hd1)).1, (tx_no (tf_4 d hd1)).2]
    have hA := Lib.hid (show TyArg w3 (some ⟨w1.heap.size, 0, none⟩) 3 [⟨2, 3, 0, 0, 0, 0, 0, 0, 0⟩, ⟨3 + d, 0, 0, 0, 0, 0, 0, 0, 0⟩, ⟨3, 0, 0, 1, 0, 0, 0, 0, -1⟩] from TyArg.below (by exact (tyArg_blk (blk_set hblk.out) rfl ⟨[], rfl⟩)) hb)
    have hX := Lib.hid (show BoxAt w3 (w1.heap.size + 1) (.slice (some ⟨w1.heap.size, 0, none⟩) 3 3) from BoxAt.below (by exact (show BoxAt (w2.setCell ⟨w1.heap.size, 9, none⟩ (.int .i64 (3 + d))) (w1.heap.size + 1) (.slice (some ⟨w1.heap.size, 0, none⟩) 3 3) from ⟨by simpa using hX.out.1, setO hX.out.2 (by simp)⟩)) hb)
    have hB := Lib.hid (show Below w.heap.size w w3 from belT (by exact (Below.setCell hB.out (show w.heap.size ≤ w1.heap.size from hbl) _)) hb)
    clear hb x0 x1 hbl
    obtain ⟨x0, x1⟩ := hX.out
    go_wp2_with fail
    clear x0 x1
    refine (vars_any _ _ _ [⟨2, 3, 0, 0, 0, 0, 0, 0, 0⟩, ⟨3 + d, 0, 0, 0, 0, 0, 0, 0, 0⟩, ⟨3, 0, 0, 1, 0, 0, 0, 0, -1⟩] _ hA (by omega)).mono ?_
    rintro e w4 hp
    unfold VarsPost at hp
    rw [(tf_4 d hd1), if_neg (by decide)] at hp
    obtain ⟨rfl, hb⟩ := hp
    have hA := Lib.hid (hA.out.below hb)
    have hX := Lib.hid (hX.out.below hb)
    have hB := Lib.hid (belT hB.out hb)
    clear hb
    obtain ⟨x0, x1⟩ := hX.out
    go_wp2_with fail
    clear x0 x1
    refine (fun_any _ _ _ ⟨0, 0, 0, 0, -1⟩ _ _ _ [⟨2, 3, 0, 0, 0, 0, 0, 0, 0⟩, ⟨3 + d, 0, 0, 0, 0, 0, 0, 0, 0⟩, ⟨3, 0, 0, 1, 0, 0, 0, 0, -1⟩] [⟨0, 0, 0, 0, 0, 0, 0, 0, 0⟩] _ (Lib.hid (by exact TyArg.alloc _ hA.out)) (Lib.hid (by exact tyArg_lit _ _ _ _ _ _ rfl rfl rfl)) (by omega) (by omega)).mono ?_
    rintro e w5 ⟨v, rfl, hv, hb⟩
    rw [(fun_none (tf_4 d hd1)).2]
    obtain ⟨a5, m5, d5, rfl⟩ := ownT_sl hv
    have hA := Lib.hid ((TyArg.below (by exact TyArg.alloc _ hA.out) hb).alloc (.cells #[.slice a5 m5 d5] 24))
    have hX := Lib.hid ((BoxAt.below (by exact BoxAt.alloc _ hX.out) hb).alloc (.cells #[.slice a5 m5 d5] 24))
    have hB := Lib.hid (belA (.cells #[.slice a5 m5 d5] 24) (belT (belA _ hB.out) hb))
    clear hb hv
    obtain ⟨x0, x1⟩ := hX.out
    go_wp2_with fail
    clear x0 x1
    refine (tyMay_any _ _ _ [⟨2, 3, 0, 0, 0, 0, 0, 0, 0⟩, ⟨3 + d, 0, 0, 0, 0, 0, 0, 0, 0⟩, ⟨3, 0, 0, 1, 0, 0, 0, 0, -1⟩] _ hA (by omega)).mono ?_
    rintro e w6 ⟨rfl, hb⟩
    rw [(tf_4 d hd1)]
    have hB := Lib.hid (belT hB.out hb)
    clear hb hA hX
    go_wp2_with ((go_at_call 24; refine (num_any _ _ (by omega) (by omega)).mono ?_; rintro e w' ⟨rfl, rfl⟩))
    go_ret
    exact ⟨rfl, hB.out⟩
  · have hfb := hfz.out w2 17 ⟨_, hblk.out⟩
    have hcv : w2.cell? ⟨w1.heap.size, 17, none⟩ = some (.int .i64 (0)) := by rw [Lib.cell_of_heap hblk.out]; rfl
    have hbl := hBl.out
    obtain ⟨x0, x1⟩ := hX.out
    go_wp2_with fail
    clear hfb hcv
    refine (tyText_any _ _ _ [⟨2, 3, 0, 0, 0, 0, 0, 0, 0⟩, ⟨1, 0, 0, 0, 0, 0, 0, 0, d⟩, ⟨3, 0, 0, 1, 0, 0, 0, 0, -1⟩] _ (Lib.hid (by exact (tyArg_blk (blk_set hblk.out) rfl ⟨[], rfl⟩))) (by omega) (Lib.hid (tab_keep hT.out (by exact (Below.setCell hB.out (show w.heap.size ≤ w1.heap.size from hbl) _)) (Nat.le_refl _)))).mono ?_
    rintro e w3 ⟨rfl, hb⟩
    rw [(tx_no (tf_5 d hd1)).1, (tx_no (tf_5 d hd1)).2]
    have hA := Lib.hid (show TyArg w3 (some ⟨w1.heap.size, 0, none⟩) 3 [⟨2, 3, 0, 0, 0, 0, 0, 0, 0⟩, ⟨1, 0, 0, 0, 0, 0, 0, 0, d⟩, ⟨3, 0, 0, 1, 0, 0, 0, 0, -1⟩] from TyArg.below (by exact (tyArg_blk (blk_set hblk.out) rfl ⟨[], rfl⟩)) hb)
    have hX := Lib.hid (show BoxAt w3 (w1.heap.size + 1) (.slice (some ⟨w1.heap.size, 0, none⟩) 3 3) from BoxAt.below (by exact (show BoxAt (w2.setCell ⟨w1.heap.size, 17, none⟩ (.int .i64 (d))) (w1.heap.size + 1) (.slice (some ⟨w1.heap.size, 0, none⟩) 3 3) from ⟨by simpa using hX.out.1, setO hX.out.2 (by simp)⟩)) hb)
    have hB := Lib.hid (show Below w.heap.size w w3 from belT (by exact (Below.setCell hB.out (show w.heap.size ≤ w1.heap.size from hbl) _)) hb)
    clear hb x0 x1 hbl
    obtain ⟨x0, x1⟩ := hX.out
    go_wp2_with fail
    clear x0 x1
    refine (vars_any _ _ _ [⟨2, 3, 0, 0, 0, 0, 0, 0, 0⟩, ⟨1, 0, 0, 0, 0, 0, 0, 0, d⟩, ⟨3, 0, 0, 1, 0, 0, 0, 0, -1⟩] _ hA (by omega)).mono ?_
    rintro e w4 hp
    unfold VarsPost at hp
    rw [(tf_5 d hd1), if_neg (by decide)] at hp
    obtain ⟨rfl, hb⟩ := hp
    have hA := Lib.hid (hA.out.below hb)
    have hX := Lib.hid (hX.out.below hb)
    have hB := Lib.hid (belT hB.out hb)
    clear hb
    obtain ⟨x0, x1⟩ := hX.out
    go_wp2_with fail
    clear x0 x1
    refine (fun_any _ _ _ ⟨0, 0, 0, 0, -1⟩ _ _ _ [⟨2, 3, 0, 0, 0, 0, 0, 0, 0⟩, ⟨1, 0, 0, 0, 0, 0, 0, 0, d⟩, ⟨3, 0, 0, 1, 0, 0, 0, 0, -1⟩] [⟨0, 0, 0, 0, 0, 0, 0, 0, 0⟩] _ (Lib.hid (by exact TyArg.alloc _ hA.out)) (Lib.hid (by exact tyArg_lit _ _ _ _ _ _ rfl rfl rfl)) (by omega) (by omega)).mono ?_
    rintro e w5 ⟨v, rfl, hv, hb⟩
    rw [(fun_none (tf_5 d hd1)).2]
    obtain ⟨a5, m5, d5, rfl⟩ := ownT_sl hv
    have hA := Lib.hid ((TyArg.below (by exact TyArg.alloc _ hA.out) hb).alloc (.cells #[.slice a5 m5 d5] 24))
    have hX := Lib.hid ((BoxAt.below (by exact BoxAt.alloc _ hX.out) hb).alloc (.cells #[.slice a5 m5 d5] 24))
    have hB := Lib.hid (belA (.cells #[.slice a5 m5 d5] 24) (belT (belA _ hB.out) hb))
    clear hb hv
    obtain ⟨x0, x1⟩ := hX.out
    go_wp2_with fail
    clear x0 x1
    refine (tyMay_any _ _ _ [⟨2, 3, 0, 0, 0, 0, 0, 0, 0⟩, ⟨1, 0, 0, 0, 0, 0, 0, 0, d⟩, ⟨3, 0, 0, 1, 0, 0, 0, 0, -1⟩] _ hA (by omega)).mono ?_
    rintro e w6 ⟨rfl, hb⟩
    rw [(tf_5 d hd1)]
    have hB := Lib.hid (belT hB.out hb)
    clear hb hA hX
    go_wp2_with ((go_at_call 24; refine (num_any _ _ (by omega) (by omega)).mono ?_; rintro e w' ⟨rfl, rfl⟩))
    go_ret
    exact ⟨rfl, hB.out⟩
  · have hfb := hfz.out w2 20 ⟨_, hblk.out⟩
    have hcv : w2.cell? ⟨w1.heap.size, 20, none⟩ = some (.int .i64 (0)) := by rw [Lib.cell_of_heap hblk.out]; rfl
    have hbl := hBl.out
    obtain ⟨x0, x1⟩ := hX.out
    go_wp2_with fail
    clear hfb hcv
    refine (tyText_any _ _ _ [⟨2, 3, 0, 0, 0, 0, 0, 0, 0⟩, ⟨1, 0, 0, 0, 0, 0, 0, 0, 0⟩, ⟨3, 0, -d, 1, 0, 0, 0, 0, -1⟩] _ (Lib.hid (by exact (tyArg_blk (blk_set hblk.out) rfl ⟨[], rfl⟩))) (by omega) (Lib.hid (tab_keep hT.out (by exact (Below.setCell hB.out (show w.heap.size ≤ w1.heap.size from hbl) _)) (Nat.le_refl _)))).mono ?_
    rintro e w3 ⟨rfl, hb⟩
    rw [(tx_no (tf_6 d hd1)).1, (tx_no (tf_6 d hd1)).2]
    have hA := Lib.hid (show TyArg w3 (some ⟨w1.heap.size, 0, none⟩) 3 [⟨2, 3, 0, 0, 0, 0, 0, 0, 0⟩, ⟨1, 0, 0, 0, 0, 0, 0, 0, 0⟩, ⟨3, 0, -d, 1, 0, 0, 0, 0, -1⟩] from TyArg.below (by exact (tyArg_blk (blk_set hblk.out) rfl ⟨[], rfl⟩)) hb)
    have hX := Lib.hid (show BoxAt w3 (w1.heap.size + 1) (.slice (some ⟨w1.heap.size, 0, none⟩) 3 3) from BoxAt.below (by exact (show BoxAt (w2.setCell ⟨w1.heap.size, 20, none⟩ (.int .i64 (-d))) (w1.heap.size + 1) (.slice (some ⟨w1.heap.size, 0, none⟩) 3 3) from ⟨by simpa using hX.out.1, setO hX.out.2 (by simp)⟩)) hb)
    have hB := Lib.hid (show Below w.heap.size w w3 from belT (by exact (Below.setCell hB.out (show w.heap.size ≤ w1.heap.size from hbl) _)) hb)
    clear hb x0 x1 hbl
    obtain ⟨x0, x1⟩ := hX.out
    go_wp2_with fail
    clear x0 x1
    refine (vars_any _ _ _ [⟨2, 3, 0, 0, 0, 0, 0, 0, 0⟩, ⟨1, 0, 0, 0, 0, 0, 0, 0, 0⟩, ⟨3, 0, -d, 1, 0, 0, 0, 0, -1⟩] _ hA (by omega)).mono ?_
    rintro e w4 hp
    unfold VarsPost at hp
    rw [(tf_6 d hd1), if_neg (by decide)] at hp
    obtain ⟨rfl, hb⟩ := hp
    have hA := Lib.hid (hA.out.below hb)
    have hX := Lib.hid (hX.out.below hb)
    have hB := Lib.hid (belT hB.out hb)
    clear hb
    obtain ⟨x0, x1⟩ := hX.out
    go_wp2_with fail
    clear x0 x1
    refine (fun_any _ _ _ ⟨0, 0, 0, 0, -1⟩ _ _ _ [⟨2, 3, 0, 0, 0, 0, 0, 0, 0⟩, ⟨1, 0, 0, 0, 0, 0, 0, 0, 0⟩, ⟨3, 0, -d, 1, 0, 0, 0, 0, -1⟩] [⟨0, 0, 0, 0, 0, 0, 0, 0, 0⟩] _ (Lib.hid (by exact TyArg.alloc _ hA.out)) (Lib.hid (by exact tyArg_lit _ _ _ _ _ _ rfl rfl rfl)) (by omega) (by omega)).mono ?_
    rintro e w5 ⟨v, rfl, hv, hb⟩
    rw [(fun_none (tf_6 d hd1)).2]
    obtain ⟨a5, m5, d5, rfl⟩ := ownT_sl hv
    have hA := Lib.hid ((TyArg.below (by exact TyArg.alloc _ hA.out) hb).alloc (.cells #[.slice a5 m5 d5] 24))
    have hX := Lib.hid ((BoxAt.below (by exact BoxAt.alloc _ hX.out) hb).alloc (.cells #[.slice a5 m5 d5] 24))
    have hB := Lib.hid (belA (.cells #[.slice a5 m5 d5] 24) (belT (belA _ hB.out) hb))
    clear hb hv
    obtain ⟨x0, x1⟩ := hX.out
    go_wp2_with fail
    clear x0 x1
    refine (tyMay_any _ _ _ [⟨2, 3, 0, 0, 0, 0, 0, 0, 0⟩, ⟨1, 0, 0, 0, 0, 0, 0, 0, 0⟩, ⟨3, 0, -d, 1, 0, 0, 0, 0, -1⟩] _ hA (by omega)).mono ?_
    rintro e w6 ⟨rfl, hb⟩
    rw [(tf_6 d hd1)]
    have hB := Lib.hid (belT hB.out hb)
    clear hb hA hX
    go_wp2_with ((go_at_call 24; refine (num_any _ _ (by omega) (by omega)).mono ?_; rintro e w' ⟨rfl, rfl⟩))
    go_ret
    exact ⟨rfl, hB.out⟩
  · have hfb := hfz.out w2 21 ⟨_, hblk.out⟩
    have hcv : w2.cell? ⟨w1.heap.size, 21, none⟩ = some (.int .i64 (1)) := by rw [Lib.cell_of_heap hblk.out]; rfl
    have hbl := hBl.out
    obtain ⟨x0, x1⟩ := hX.out
    go_wp2_with fail
    clear hfb hcv
    refine (tyText_any _ _ _ [⟨2, 3, 0, 0, 0, 0, 0, 0, 0⟩, ⟨1, 0, 0, 0, 0, 0, 0, 0, 0⟩, ⟨3, 0, 0, 0, 0, 0, 0, 0, -1⟩] _ (Lib.hid (by exact (tyArg_blk (blk_set hblk.out) rfl ⟨[], rfl⟩))) (by omega) (Lib.hid (tab_keep hT.out (by exact (Below.setCell hB.out (show w.heap.size ≤ w1.heap.size from hbl) _)) (Nat.le_refl _)))).mono ?_
    rintro e w3 ⟨rfl, hb⟩
    rw [(tx_no tf_7).1, (tx_no tf_7).2]
    have hA := Lib.hid (show TyArg w3 (some ⟨w1.heap.size, 0, none⟩) 3 [⟨2, 3, 0, 0, 0, 0, 0, 0, 0⟩, ⟨1, 0, 0, 0, 0, 0, 0, 0, 0⟩, ⟨3, 0, 0, 0, 0, 0, 0, 0, -1⟩] from TyArg.below (by exact (tyArg_blk (blk_set hblk.out) rfl ⟨[], rfl⟩)) hb)
    have hX := Lib.hid (show BoxAt w3 (w1.heap.size + 1) (.slice (some ⟨w1.heap.size, 0, none⟩) 3 3) from BoxAt.below (by exact (show BoxAt (w2.setCell ⟨w1.heap.size, 21, none⟩ (.int .i64 (0))) (w1.heap.size + 1) (.slice (some ⟨w1.heap.size, 0, none⟩) 3 3) from ⟨by simpa using hX.out.1, setO hX.out.2 (by simp)⟩)) hb)
    have hB := Lib.hid (show Below w.heap.size w w3 from belT (by exact (Below.setCell hB.out (show w.heap.size ≤ w1.heap.size from hbl) _)) hb)
    clear hb x0 x1 hbl
    obtain ⟨x0, x1⟩ := hX.out
    go_wp2_with fail
    clear x0 x1
    refine (vars_any _ _ _ [⟨2, 3, 0, 0, 0, 0, 0, 0, 0⟩, ⟨1, 0, 0, 0, 0, 0, 0, 0, 0⟩, ⟨3, 0, 0, 0, 0, 0, 0, 0, -1⟩] _ hA (by omega)).mono ?_
    rintro e w4 hp
    unfold VarsPost at hp
    rw [tf_7, if_neg (by decide)] at hp
    obtain ⟨rfl, hb⟩ := hp
    have hA := Lib.hid (hA.out.below hb)
    have hX := Lib.hid (hX.out.below hb)
    have hB := Lib.hid (belT hB.out hb)
    clear hb
    obtain ⟨x0, x1⟩ := hX.out
    go_wp2_with fail
    clear x0 x1
    refine (fun_any _ _ _ ⟨0, 0, 0, 0, -1⟩ _ _ _ [⟨2, 3, 0, 0, 0, 0, 0, 0, 0⟩, ⟨1, 0, 0, 0, 0, 0, 0, 0, 0⟩, ⟨3, 0, 0, 0, 0, 0, 0, 0, -1⟩] [⟨0, 0, 0, 0, 0, 0, 0, 0, 0⟩] _ (Lib.hid (by exact TyArg.alloc _ hA.out)) (Lib.hid (by exact tyArg_lit _ _ _ _ _ _ rfl rfl rfl)) (by omega) (by omega)).mono ?_
    rintro e w5 ⟨v, rfl, hv, hb⟩
    rw [(fun_none tf_7).2]
    obtain ⟨a5, m5, d5, rfl⟩ := ownT_sl hv
    have hA := Lib.hid ((TyArg.below (by exact TyArg.alloc _ hA.out) hb).alloc (.cells #[.slice a5 m5 d5] 24))
    have hX := Lib.hid ((BoxAt.below (by exact BoxAt.alloc _ hX.out) hb).alloc (.cells #[.slice a5 m5 d5] 24))
    have hB := Lib.hid (belA (.cells #[.slice a5 m5 d5] 24) (belT (belA _ hB.out) hb))
    clear hb hv
    obtain ⟨x0, x1⟩ := hX.out
    go_wp2_with fail
    clear x0 x1
    refine (tyMay_any _ _ _ [⟨2, 3, 0, 0, 0, 0, 0, 0, 0⟩, ⟨1, 0, 0, 0, 0, 0, 0, 0, 0⟩, ⟨3, 0, 0, 0, 0, 0, 0, 0, -1⟩] _ hA (by omega)).mono ?_
    rintro e w6 ⟨rfl, hb⟩
    rw [tf_7]
    have hB := Lib.hid (belT hB.out hb)
    clear hb hA hX
    go_wp2_with ((go_at_call 24; refine (num_any _ _ (by omega) (by omega)).mono ?_; rintro e w' ⟨rfl, rfl⟩))
    go_ret
    exact ⟨rfl, hB.out⟩
  · have hfb := hfz.out w2 26 ⟨_, hblk.out⟩
    have hcv : w2.cell? ⟨w1.heap.size, 26, none⟩ = some (.int .i64 (-1)) := by rw [Lib.cell_of_heap hblk.out]; rfl
    have hbl := hBl.out
    obtain ⟨x0, x1⟩ := hX.out
    go_wp2_with fail
    clear hfb hcv
    refine (tyText_any _ _ _ [⟨2, 3, 0, 0, 0, 0, 0, 0, 0⟩, ⟨1, 0, 0, 0, 0, 0, 0, 0, 0⟩, ⟨3, 0, 0, 1, 0, 0, 0, 0, -1 - d⟩] _ (Lib.hid (by exact (tyArg_blk (blk_set hblk.out) rfl ⟨[], rfl⟩))) (by omega) (Lib.hid (tab_keep hT.out (by exact (Below.setCell hB.out (show w.heap.size ≤ w1.heap.size from hbl) _)) (Nat.le_refl _)))).mono ?_
    rintro e w3 ⟨rfl, hb⟩
    rw [(tx_no (tf_8 d hd1)).1, (tx_no (tf_8 d hd1)).2]
    have hA := Lib.hid (show TyArg w3 (some ⟨w1.heap.size, 0, none⟩) 3 [⟨2, 3, 0, 0, 0, 0, 0, 0, 0⟩, ⟨1, 0, 0, 0, 0, 0, 0, 0, 0⟩, ⟨3, 0, 0, 1, 0, 0, 0, 0, -1 - d⟩] from TyArg.below (by exact (tyArg_blk (blk_set hblk.out) rfl ⟨[], rfl⟩)) hb)
    have hX := Lib.hid (show BoxAt w3 (w1.heap.size + 1) (.slice (some ⟨w1.heap.size, 0, none⟩) 3 3) from BoxAt.below (by exact (show BoxAt (w2.setCell ⟨w1.heap.size, 26, none⟩ (.int .i64 (-1 - d))) (w1.heap.size + 1) (.slice (some ⟨w1.heap.size, 0, none⟩) 3 3) from ⟨by simpa using hX.out.1, setO hX.out.2 (by simp)⟩)) hb)
    have hB := Lib.hid (show Below w.heap.size w w3 from belT (by exact (Below.setCell hB.out (show w.heap.size ≤ w1.heap.size from hbl) _)) hb)
    clear hb x0 x1 hbl
    obtain ⟨x0, x1⟩ := hX.out
    go_wp2_with fail
    clear x0 x1
    refine (vars_any _ _ _ [⟨2, 3, 0, 0, 0, 0, 0, 0, 0⟩, ⟨1, 0, 0, 0, 0, 0, 0, 0, 0⟩, ⟨3, 0, 0, 1, 0, 0, 0, 0, -1 - d⟩] _ hA (by omega)).mono ?_
    rintro e w4 hp
    unfold VarsPost at hp
    rw [(tf_8 d hd1), if_neg (by decide)] at hp
    obtain ⟨rfl, hb⟩ := hp
    have hA := Lib.hid (hA.out.below hb)
    have hX := Lib.hid (hX.out.below hb)
    have hB := Lib.hid (belT hB.out hb)
    clear hb
    obtain ⟨x0, x1⟩ := hX.out
    go_wp2_with fail
    clear x0 x1
    refine (fun_any _ _ _ ⟨0, 0, 0, 0, -1⟩ _ _ _ [⟨2, 3, 0, 0, 0, 0, 0, 0, 0⟩, ⟨1, 0, 0, 0, 0, 0, 0, 0, 0⟩, ⟨3, 0, 0, 1, 0, 0, 0, 0, -1 - d⟩] [⟨0, 0, 0, 0, 0, 0, 0, 0, 0⟩] _ (Lib.hid (by exact TyArg.alloc _ hA.out)) (Lib.hid (by exact tyArg_lit _ _ _ _ _ _ rfl rfl rfl)) (by omega) (by omega)).mono ?_
    rintro e w5 ⟨v, rfl, hv, hb⟩
    rw [(fun_none (tf_8 d hd1)).2]
    obtain ⟨a5, m5, d5, rfl⟩ := ownT_sl hv
    have hA := Lib.hid ((TyArg.below (by exact TyArg.alloc _ hA.out) hb).alloc (.cells #[.slice a5 m5 d5] 24))
    have hX := Lib.hid ((BoxAt.below (by exact BoxAt.alloc _ hX.out) hb).alloc (.cells #[.slice a5 m5 d5] 24))
    have hB := Lib.hid (belA (.cells #[.slice a5 m5 d5] 24) (belT (belA _ hB.out) hb))
    clear hb hv
    obtain ⟨x0, x1⟩ := hX.out
    go_wp2_with fail
    clear x0 x1
    refine (tyMay_any _ _ _ [⟨2, 3, 0, 0, 0, 0, 0, 0, 0⟩, ⟨1, 0, 0, 0, 0, 0, 0, 0, 0⟩, ⟨3, 0, 0, 1, 0, 0, 0, 0, -1 - d⟩] _ hA (by omega)).mono ?_
    rintro e w6 ⟨rfl, hb⟩
    rw [(tf_8 d hd1)]
    have hB := Lib.hid (belT hB.out hb)
    clear hb hA hX
    go_wp2_with ((go_at_call 24; refine (num_any _ _ (by omega) (by omega)).mono ?_; rintro e w' ⟨rfl, rfl⟩))
    go_ret
    exact ⟨rfl, hB.out⟩
  · have hfb := hfz.out w2 26 ⟨_, hblk.out⟩
    have hcv : w2.cell? ⟨w1.heap.size, 26, none⟩ = some (.int .i64 (-1)) := by rw [Lib.cell_of_heap hblk.out]; rfl
    have hbl := hBl.out
    obtain ⟨x0, x1⟩ := hX.out
    go_wp2_with fail
    clear hfb hcv
    refine (tyText_any _ _ _ [⟨2, 3, 0, 0, 0, 0, 0, 0, 0⟩, ⟨1, 0, 0, 0, 0, 0, 0, 0, 0⟩, ⟨3, 0, 0, 1, 0, 0, 0, 0, 4095 + d⟩] _ (Lib.hid (by exact (tyArg_blk (blk_set hblk.out) rfl ⟨[], rfl⟩))) (by omega) (Lib.hid (tab_keep hT.out (by exact (Below.setCell hB.out (show w.heap.size ≤ w1.heap.size from hbl) _)) (Nat.le_refl _)))).mono ?_
    rintro e w3 ⟨rfl, hb⟩
    rw [(tx_no (tf_9 d hd1)).1, (tx_no (tf_9 d hd1)).2]
    have hA := Lib.hid (show TyArg w3 (some ⟨w1.heap.size, 0, none⟩) 3 [⟨2, 3, 0, 0, 0, 0, 0, 0, 0⟩, ⟨1, 0, 0, 0, 0, 0, 0, 0, 0⟩, ⟨3, 0, 0, 1, 0, 0, 0, 0, 4095 + d⟩] from TyArg.below (by exact (tyArg_blk (blk_set hblk.out) rfl ⟨[], rfl⟩)) hb)
    have hX := Lib.hid (show BoxAt w3 (w1.heap.size + 1) (.slice (some ⟨w1.heap.size, 0, none⟩) 3 3) from BoxAt.below (by exact (show BoxAt (w2.setCell ⟨w1.heap.size, 26, none⟩ (.int .i64 (4095 + d))) (w1.heap.size + 1) (.slice (some ⟨w1.heap.size, 0, none⟩) 3 3) from ⟨by simpa using hX.out.1, setO hX.out.2 (by simp)⟩)) hb)
    have hB := Lib.hid (show Below w.heap.size w w3 from belT (by exact (Below.setCell hB.out (show w.heap.size ≤ w1.heap.size from hbl) _)) hb)
    clear hb x0 x1 hbl
    obtain ⟨x0, x1⟩ := hX.out
    go_wp2_with fail
    clear x0 x1
    refine (vars_any _ _ _ [⟨2, 3, 0, 0, 0, 0, 0, 0, 0⟩, ⟨1, 0, 0, 0, 0, 0, 0, 0, 0⟩, ⟨3, 0, 0, 1, 0, 0, 0, 0, 4095 + d⟩] _ hA (by omega)).mono ?_
    rintro e w4 hp
    unfold VarsPost at hp
    rw [(tf_9 d hd1), if_neg (by decide)] at hp
    obtain ⟨rfl, hb⟩ := hp
    have hA := Lib.hid (hA.out.below hb)
    have hX := Lib.hid (hX.out.below hb)
    have hB := Lib.hid (belT hB.out hb)
    clear hb
    obtain ⟨x0, x1⟩ := hX.out
    go_wp2_with fail
    clear x0 x1
    refine (fun_any _ _ _ ⟨0, 0, 0, 0, -1⟩ _ _ _ [⟨2, 3, 0, 0, 0, 0, 0, 0, 0⟩, ⟨1, 0, 0, 0, 0, 0, 0, 0, 0⟩, ⟨3, 0, 0, 1, 0, 0, 0, 0, 4095 + d⟩] [⟨0, 0, 0, 0, 0, 0, 0, 0, 0⟩] _ (Lib.hid (by exact TyArg.alloc _ hA.out)) (Lib.hid (by exact tyArg_lit _ _ _ _ _ _ rfl rfl rfl)) (by omega) (by omega)).mono ?_
    rintro e w5 ⟨v, rfl, hv, hb⟩
    rw [(fun_none (tf_9 d hd1)).2]
    obtain ⟨a5, m5, d5, rfl⟩ := ownT_sl hv
    have hA := Lib.hid ((TyArg.below (by exact TyArg.alloc _ hA.out) hb).alloc (.cells #[.slice a5 m5 d5] 24))
    have hX := Lib.hid ((BoxAt.below (by exact BoxAt.alloc _ hX.out) hb).alloc (.cells #[.slice a5 m5 d5] 24))
    have hB := Lib.hid (belA (.cells #[.slice a5 m5 d5] 24) (belT (belA _ hB.out) hb))
    clear hb hv
    obtain ⟨x0, x1⟩ := hX.out
    go_wp2_with fail
    clear x0 x1
    refine (tyMay_any _ _ _ [⟨2, 3, 0, 0, 0, 0, 0, 0, 0⟩, ⟨1, 0, 0, 0, 0, 0, 0, 0, 0⟩, ⟨3, 0, 0, 1, 0, 0, 0, 0, 4095 + d⟩] _ hA (by omega)).mono ?_
    rintro e w6 ⟨rfl, hb⟩
    rw [(tf_9 d hd1)]
    have hB := Lib.hid (belT hB.out hb)
    clear hb hA hX
    go_wp2_with ((go_at_call 24; refine (num_any _ _ (by omega) (by omega)).mono ?_; rintro e w' ⟨rfl, rfl⟩))
    go_ret
    exact ⟨rfl, hB.out⟩
  · have hks : k4 = 0 ∨ k4 = 1 ∨ k4 = 2 ∨ k4 = 3 := by omega
    clear hk4b
    rcases hks with rfl | rfl | rfl | rfl
    · have hfb := hfz.out w2 22 ⟨_, hblk.out⟩
      have hcv : w2.cell? ⟨w1.heap.size, 22, none⟩ = some (.int .i64 (0)) := by rw [Lib.cell_of_heap hblk.out]; rfl
      have hbl := hBl.out
      obtain ⟨x0, x1⟩ := hX.out
      go_wp2_with fail
      clear hfb hcv
      refine (tyText_any _ _ _ [⟨2, 3, 0, 0, 0, 0, 0, 0, 0⟩, ⟨1, 0, 0, 0, 0, 0, 0, 0, 0⟩, ⟨3, 0, 0, 1, 32 + d, 0, 0, 0, -1⟩] _ (Lib.hid (by exact (tyArg_blk (blk_set hblk.out) rfl ⟨[], rfl⟩))) (by omega) (Lib.hid (tab_keep hT.out (by exact (Below.setCell hB.out (show w.heap.size ≤ w1.heap.size from hbl) _)) (Nat.le_refl _)))).mono ?_
      rintro e w3 ⟨rfl, hb⟩
      rw [(tx_no (tf_10_0 d hd1)).1, (tx_no (tf_10_0 d hd1)).2]
      have hA := Lib.hid (show TyArg w3 (some ⟨w1.heap.size, 0, none⟩) 3 [⟨2, 3, 0, 0, 0, 0, 0, 0, 0⟩, ⟨1, 0, 0, 0, 0, 0, 0, 0, 0⟩, ⟨3, 0, 0, 1, 32 + d, 0, 0, 0, -1⟩] from TyArg.below (by exact (tyArg_blk (blk_set hblk.out) rfl ⟨[], rfl⟩)) hb)
      have hX := Lib.hid (show BoxAt w3 (w1.heap.size + 1) (.slice (some ⟨w1.heap.size, 0, none⟩) 3 3) from BoxAt.below (by exact (show BoxAt (w2.setCell ⟨w1.heap.size, 22, none⟩ (.int .i64 (32 + d))) (w1.heap.size + 1) (.slice (some ⟨w1.heap.size, 0, none⟩) 3 3) from ⟨by simpa using hX.out.1, setO hX.out.2 (by simp)⟩)) hb)
      have hB := Lib.hid (show Below w.heap.size w w3 from belT (by exact (Below.setCell hB.out (show w.heap.size ≤ w1.heap.size from hbl) _)) hb)
      clear hb x0 x1 hbl
      obtain ⟨x0, x1⟩ := hX.out
      go_wp2_with fail
      clear x0 x1
      refine (vars_any _ _ _ [⟨2, 3, 0, 0, 0, 0, 0, 0, 0⟩, ⟨1, 0, 0, 0, 0, 0, 0, 0, 0⟩, ⟨3, 0, 0, 1, 32 + d, 0, 0, 0, -1⟩] _ hA (by omega)).mono ?_
      rintro e w4 hp
      unfold VarsPost at hp
      rw [(tf_10_0 d hd1), if_neg (by decide)] at hp
      obtain ⟨rfl, hb⟩ := hp
      have hA := Lib.hid (hA.out.below hb)
      have hX := Lib.hid (hX.out.below hb)
      have hB := Lib.hid (belT hB.out hb)
      clear hb
      obtain ⟨x0, x1⟩ := hX.out
      go_wp2_with fail
      clear x0 x1
      refine (fun_any _ _ _ ⟨0, 0, 0, 0, -1⟩ _ _ _ [⟨2, 3, 0, 0, 0, 0, 0, 0, 0⟩, ⟨1, 0, 0, 0, 0, 0, 0, 0, 0⟩, ⟨3, 0, 0, 1, 32 + d, 0, 0, 0, -1⟩] [⟨0, 0, 0, 0, 0, 0, 0, 0, 0⟩] _ (Lib.hid (by exact TyArg.alloc _ hA.out)) (Lib.hid (by exact tyArg_lit _ _ _ _ _ _ rfl rfl rfl)) (by omega) (by omega)).mono ?_
      rintro e w5 ⟨v, rfl, hv, hb⟩
      rw [(fun_none (tf_10_0 d hd1)).2]
      obtain ⟨a5, m5, d5, rfl⟩ := ownT_sl hv
      have hA := Lib.hid ((TyArg.below (by exact TyArg.alloc _ hA.out) hb).alloc (.cells #[.slice a5 m5 d5] 24))
      have hX := Lib.hid ((BoxAt.below (by exact BoxAt.alloc _ hX.out) hb).alloc (.cells #[.slice a5 m5 d5] 24))
      have hB := Lib.hid (belA (.cells #[.slice a5 m5 d5] 24) (belT (belA _ hB.out) hb))
      clear hb hv
      obtain ⟨x0, x1⟩ := hX.out
      go_wp2_with fail
      clear x0 x1
      refine (tyMay_any _ _ _ [⟨2, 3, 0, 0, 0, 0, 0, 0, 0⟩, ⟨1, 0, 0, 0, 0, 0, 0, 0, 0⟩, ⟨3, 0, 0, 1, 32 + d, 0, 0, 0, -1⟩] _ hA (by omega)).mono ?_
      rintro e w6 ⟨rfl, hb⟩
      rw [(tf_10_0 d hd1)]
      have hB := Lib.hid (belT hB.out hb)
      clear hb hA hX
      go_wp2_with ((go_at_call 24; refine (num_any _ _ (by omega) (by omega)).mono ?_; rintro e w' ⟨rfl, rfl⟩))
      go_ret
      exact ⟨rfl, hB.out⟩
    · have hfb := hfz.out w2 23 ⟨_, hblk.out⟩
      have hcv : w2.cell? ⟨w1.heap.size, 23, none⟩ = some (.int .i64 (0)) := by rw [Lib.cell_of_heap hblk.out]; rfl
      have hbl := hBl.out
      obtain ⟨x0, x1⟩ := hX.out
      go_wp2_with fail
      clear hfb hcv
      refine (tyText_any _ _ _ [⟨2, 3, 0, 0, 0, 0, 0, 0, 0⟩, ⟨1, 0, 0, 0, 0, 0, 0, 0, 0⟩, ⟨3, 0, 0, 1, 0, 32 + d, 0, 0, -1⟩] _ (Lib.hid (by exact (tyArg_blk (blk_set hblk.out) rfl ⟨[], rfl⟩))) (by omega) (Lib.hid (tab_keep hT.out (by exact (Below.setCell hB.out (show w.heap.size ≤ w1.heap.size from hbl) _)) (Nat.le_refl _)))).mono ?_
      rintro e w3 ⟨rfl, hb⟩
      rw [(tx_no (tf_10_1 d hd1)).1, (tx_no (tf_10_1 d hd1)).2]
      have hA := Lib.hid (show TyArg w3 (some ⟨w1.heap.size, 0, none⟩) 3 [⟨2, 3, 0, 0, 0, 0, 0, 0, 0⟩, ⟨1, 0, 0, 0, 0, 0, 0, 0, 0⟩, ⟨3, 0, 0, 1, 0, 32 + d, 0, 0, -1⟩] from TyArg.below (by exact (tyArg_blk (blk_set hblk.out) rfl ⟨[], rfl⟩)) hb)
      have hX := Lib.hid (show BoxAt w3 (w1.heap.size + 1) (.slice (some ⟨w1.heap.size, 0, none⟩) 3 3) from BoxAt.below (by exact (show BoxAt (w2.setCell ⟨w1.heap.size, 23, none⟩ (.int .i64 (32 + d))) (w1.heap.size + 1) (.slice (some ⟨w1.heap.size, 0, none⟩) 3 3) from ⟨by simpa using hX.out.1, setO hX.out.2 (by simp)⟩)) hb)
      have hB := Lib.hid (show Below w.heap.size w w3 from belT (by exact (Below.setCell hB.out (show w.heap.size ≤ w1.heap.size from hbl) _)) hb)
      clear hb x0 x1 hbl
      obtain ⟨x0, x1⟩ := hX.out
      go_wp2_with fail
      clear x0 x1
      refine (vars_any _ _ _ [⟨2, 3, 0, 0, 0, 0, 0, 0, 0⟩, ⟨1, 0, 0, 0, 0, 0, 0, 0, 0⟩, ⟨3, 0, 0, 1, 0, 32 + d, 0, 0, -1⟩] _ hA (by omega)).mono ?_
      rintro e w4 hp
      unfold VarsPost at hp
      rw [(tf_10_1 d hd1), if_neg (by decide)] at hp
      obtain ⟨rfl, hb⟩ := hp
      have hA := Lib.hid (hA.out.below hb)
      have hX := Lib.hid (hX.out.below hb)
      have hB := Lib.hid (belT hB.out hb)
      clear hb
      obtain ⟨x0, x1⟩ := hX.out
      go_wp2_with fail
      clear x0 x1
      refine (fun_any _ _ _ ⟨0, 0, 0, 0, -1⟩ _ _ _ [⟨2, 3, 0, 0, 0, 0, 0, 0, 0⟩, ⟨1, 0, 0, 0, 0, 0, 0, 0, 0⟩, ⟨3, 0, 0, 1, 0, 32 + d, 0, 0, -1⟩] [⟨0, 0, 0, 0, 0, 0, 0, 0, 0⟩] _ (Lib.hid (by exact TyArg.alloc _ hA.out)) (Lib.hid (by exact tyArg_lit _ _ _ _ _ _ rfl rfl rfl)) (by omega) (by omega)).mono ?_
      rintro e w5 ⟨v, rfl, hv, hb⟩
      rw [(fun_none (tf_10_1 d hd1)).2]
      obtain ⟨a5, m5, d5, rfl⟩ := ownT_sl hv
      have hA := Lib.hid ((TyArg.below (by exact TyArg.alloc _ hA.out) hb).alloc (.cells #[.slice a5 m5 d5] 24))
      have hX := Lib.hid ((BoxAt.below (by exact BoxAt.alloc _ hX.out) hb).alloc (.cells #[.slice a5 m5 d5] 24))
      have hB := Lib.hid (belA (.cells #[.slice a5 m5 d5] 24) (belT (belA _ hB.out) hb))
      clear hb hv
      obtain ⟨x0, x1⟩ := hX.out
      go_wp2_with fail
      clear x0 x1
      refine (tyMay_any _ _ _ [⟨2, 3, 0, 0, 0, 0, 0, 0, 0⟩, ⟨1, 0, 0, 0, 0, 0, 0, 0, 0⟩, ⟨3, 0, 0, 1, 0, 32 + d, 0, 0, -1⟩] _ hA (by omega)).mono ?_
      rintro e w6 ⟨rfl, hb⟩
      rw [(tf_10_1 d hd1)]
      have hB := Lib.hid (belT hB.out hb)
      clear hb hA hX
      go_wp2_with ((go_at_call 24; refine (num_any _ _ (by omega) (by omega)).mono ?_; rintro e w' ⟨rfl, rfl⟩))
      go_ret
      exact ⟨rfl, hB.out⟩
    · have hfb := hfz.out w2 24 ⟨_, hblk.out⟩
      have hcv : w2.cell? ⟨w1.heap.size, 24, none⟩ = some (.int .i64 (0)) := by rw [Lib.cell_of_heap hblk.out]; rfl
      have hbl := hBl.out
      obtain ⟨x0, x1⟩ := hX.out
      go_wp2_with fail
      clear hfb hcv
      refine (tyText_any _ _ _ [⟨2, 3, 0, 0, 0, 0, 0, 0, 0⟩, ⟨1, 0, 0, 0, 0, 0, 0, 0, 0⟩, ⟨3, 0, 0, 1, 0, 0, 32 + d, 0, -1⟩] _ (Lib.hid (by exact (tyArg_blk (blk_set hblk.out) rfl ⟨[], rfl⟩))) (by omega) (Lib.hid (tab_keep hT.out (by exact (Below.setCell hB.out (show w.heap.size ≤ w1.heap.size from hbl) _)) (Nat.le_refl _)))).mono ?_
      rintro e w3 ⟨rfl, hb⟩
      rw [(tx_no (tf_10_2 d hd1)).1, (tx_no (tf_10_2 d hd1)).2]
      have hA := Lib.hid (show TyArg w3 (some ⟨w1.heap.size, 0, none⟩) 3 [⟨2, 3, 0, 0, 0, 0, 0, 0, 0⟩, ⟨1, 0, 0, 0, 0, 0, 0, 0, 0⟩, ⟨3, 0, 0, 1, 0, 0, 32 + d, 0, -1⟩] from TyArg.below (by exact (tyArg_blk (blk_set hblk.out) rfl ⟨[], rfl⟩)) hb)
      have hX := Lib.hid (show BoxAt w3 (w1.heap.size + 1) (.slice (some ⟨w1.heap.size, 0, none⟩) 3 3) from BoxAt.below (by exact (show BoxAt (w2.setCell ⟨w1.heap.size, 24, none⟩ (.int .i64 (32 + d))) (w1.heap.size + 1) (.slice (some ⟨w1.heap.size, 0, none⟩) 3 3) from ⟨by simpa using hX.out.1, setO hX.out.2 (by simp)⟩)) hb)
      have hB := Lib.hid (show Below w.heap.size w w3 from belT (by exact (Below.setCell hB.out (show w.heap.size ≤ w1.heap.size from hbl) _)) hb)
      clear hb x0 x1 hbl
      obtain ⟨x0, x1⟩ := hX.out
      go_wp2_with fail
      clear x0 x1
      refine (vars_any _ _ _ [⟨2, 3, 0, 0, 0, 0, 0, 0, 0⟩, ⟨1, 0, 0, 0, 0, 0, 0, 0, 0⟩, ⟨3, 0, 0, 1, 0, 0, 32 + d, 0, -1⟩] _ hA (by omega)).mono ?_
      rintro e w4 hp
      unfold VarsPost at hp
      rw [(tf_10_2 d hd1), if_neg (by decide)] at hp
      obtain ⟨rfl, hb⟩ := hp
      have hA := Lib.hid (hA.out.below hb)
      have hX := Lib.hid (hX.out.below hb)
      have hB := Lib.hid (belT hB.out hb)
      clear hb
      obtain ⟨x0, x1⟩ := hX.out
      go_wp2_with fail
      clear x0 x1
      refine (fun_any _ _ _ ⟨0, 0, 0, 0, -1⟩ _ _ _ [⟨2, 3, 0, 0, 0, 0, 0, 0, 0⟩, ⟨1, 0, 0, 0, 0, 0, 0, 0, 0⟩, ⟨3, 0, 0, 1, 0, 0, 32 + d, 0, -1⟩] [⟨0, 0, 0, 0, 0, 0, 0, 0, 0⟩] _ (Lib.hid (by exact TyArg.alloc _ hA.out)) (Lib.hid (by exact tyArg_lit _ _ _ _ _ _ rfl rfl rfl)) (by omega) (by omega)).mono ?_
      rintro e w5 ⟨v, rfl, hv, hb⟩
      rw [(fun_none (tf_10_2 d hd1)).2]
      obtain ⟨a5, m5, d5, rfl⟩ := ownT_sl hv
      have hA := Lib.hid ((TyArg.below (by exact TyArg.alloc _ hA.out) hb).alloc (.cells #[.slice a5 m5 d5] 24))
      have hX := Lib.hid ((BoxAt.below (by exact BoxAt.alloc _ hX.out) hb).alloc (.cells #[.slice a5 m5 d5] 24))
      have hB := Lib.hid (belA (.cells #[.slice a5 m5 d5] 24) (belT (belA _ hB.out) hb))
      clear hb hv
      obtain ⟨x0, x1⟩ := hX.out
      go_wp2_with fail
      clear x0 x1
      refine (tyMay_any _ _ _ [⟨2, 3, 0, 0, 0, 0, 0, 0, 0⟩, ⟨1, 0, 0, 0, 0, 0, 0, 0, 0⟩, ⟨3, 0, 0, 1, 0, 0, 32 + d, 0, -1⟩] _ hA (by omega)).mono ?_
      rintro e w6 ⟨rfl, hb⟩
      rw [(tf_10_2 d hd1)]
      have hB := Lib.hid (belT hB.out hb)
      clear hb hA hX
      go_wp2_with ((go_at_call 24; refine (num_any _ _ (by omega) (by omega)).mono ?_; rintro e w' ⟨rfl, rfl⟩))
      go_ret
      exact ⟨rfl, hB.out⟩
    · have hfb := hfz.out w2 25 ⟨_, hblk.out⟩
      have hcv : w2.cell? ⟨w1.heap.size, 25, none⟩ = some (.int .i64 (0)) := by rw [Lib.cell_of_heap hblk.out]; rfl
      have hbl := hBl.out
      obtain ⟨x0, x1⟩ := hX.out
      go_wp2_with fail
      clear hfb hcv
      refine (tyText_any _ _ _ [⟨2, 3, 0, 0, 0, 0, 0, 0, 0⟩, ⟨1, 0, 0, 0, 0, 0, 0, 0, 0⟩, ⟨3, 0, 0, 1, 0, 0, 0, 32 + d, -1⟩] _ (Lib.hid (by exact (tyArg_blk (blk_set hblk.out) rfl ⟨[], rfl⟩))) (by omega) (Lib.hid (tab_keep hT.out (by exact (Below.setCell hB.out (show w.heap.size ≤ w1.heap.size from hbl) _)) (Nat.le_refl _)))).mono ?_
      rintro e w3 ⟨rfl, hb⟩
      rw [(tx_no (tf_10_3 d hd1)).1, (tx_no (tf_10_3 d hd1)).2]
      have hA := Lib.hid (show TyArg w3 (some ⟨w1.heap.size, 0, none⟩) 3 [⟨2, 3, 0, 0, 0, 0, 0, 0, 0⟩, ⟨1, 0, 0, 0, 0, 0, 0, 0, 0⟩, ⟨3, 0, 0, 1, 0, 0, 0, 32 + d, -1⟩] from TyArg.below (by exact (tyArg_blk (blk_set hblk.out) rfl ⟨[], rfl⟩)) hb)
      have hX := Lib.hid (show BoxAt w3 (w1.heap.size + 1) (.slice (some ⟨w1.heap.size, 0, none⟩) 3 3) from BoxAt.below (by exact (show BoxAt (w2.setCell ⟨w1.heap.size, 25, none⟩ (.int .i64 (32 + d))) (w1.heap.size + 1) (.slice (some ⟨w1.heap.size, 0, none⟩) 3 3) from ⟨by simpa using hX.out.1, setO hX.out.2 (by simp)⟩)) hb)
      have hB := Lib.hid (show Below w.heap.size w w3 from belT (by exact (Below.setCell hB.out (show w.heap.size ≤ w1.heap.size from hbl) _)) hb)
      clear hb x0 x1 hbl
      obtain ⟨x0, x1⟩ := hX.out
      go_wp2_with fail
      clear x0 x1
      refine (vars_any _ _ _ [⟨2, 3, 0, 0, 0, 0, 0, 0, 0⟩, ⟨1, 0, 0, 0, 0, 0, 0, 0, 0⟩, ⟨3, 0, 0, 1, 0, 0, 0, 32 + d, -1⟩] _ hA (by omega)).mono ?_
      rintro e w4 hp
      unfold VarsPost at hp
      rw [(tf_10_3 d hd1), if_neg (by decide)] at hp
      obtain ⟨rfl, hb⟩ := hp
      have hA := Lib.hid (hA.out.below hb)
      have hX := Lib.hid (hX.out.below hb)
      have hB := Lib.hid (belT hB.out hb)
      clear hb
      obtain ⟨x0, x1⟩ := hX.out
      go_wp2_with fail
      clear x0 x1
      refine (fun_any _ _ _ ⟨0, 0, 0, 0, -1⟩ _ _ _ [⟨2, 3, 0, 0, 0, 0, 0, 0, 0⟩, ⟨1, 0, 0, 0, 0, 0, 0, 0, 0⟩, ⟨3, 0, 0, 1, 0, 0, 0, 32 + d, -1⟩] [⟨0, 0, 0, 0, 0, 0, 0, 0, 0⟩] _ (Lib.hid (by exact TyArg.alloc _ hA.out)) (Lib.hid (by exact tyArg_lit _ _ _ _ _ _ rfl rfl rfl)) (by omega) (by omega)).mono ?_
      rintro e w5 ⟨v, rfl, hv, hb⟩
      rw [(fun_none (tf_10_3 d hd1)).2]
      obtain ⟨a5, m5, d5, rfl⟩ := ownT_sl hv
      have hA := Lib.hid ((TyArg.below (by exact TyArg.alloc _ hA.out) hb).alloc (.cells #[.slice a5 m5 d5] 24))
      have hX := Lib.hid ((BoxAt.below (by exact BoxAt.alloc _ hX.out) hb).alloc (.cells #[.slice a5 m5 d5] 24))
      have hB := Lib.hid (belA (.cells #[.slice a5 m5 d5] 24) (belT (belA _ hB.out) hb))
      clear hb hv
      obtain ⟨x0, x1⟩ := hX.out
      go_wp2_with fail
      clear x0 x1
      refine (tyMay_any _ _ _ [⟨2, 3, 0, 0, 0, 0, 0, 0, 0⟩, ⟨1, 0, 0, 0, 0, 0, 0, 0, 0⟩, ⟨3, 0, 0, 1, 0, 0, 0, 32 + d, -1⟩] _ hA (by omega)).mono ?_
      rintro e w6 ⟨rfl, hb⟩
      rw [(tf_10_3 d hd1)]
      have hB := Lib.hid (belT hB.out hb)
      clear hb hA hX
      go_wp2_with ((go_at_call 24; refine (num_any _ _ (by omega) (by omega)).mono ?_; rintro e w' ⟨rfl, rfl⟩))
      go_ret
      exact ⟨rfl, hB.out⟩
  · have hks : k4 = 0 ∨ k4 = 1 ∨ k4 = 2 ∨ k4 = 3 := by omega
    clear hk4b
    rcases hks with rfl | rfl | rfl | rfl
    · have hfb := hfz.out w2 22 ⟨_, hblk.out⟩
      have hcv : w2.cell? ⟨w1.heap.size, 22, none⟩ = some (.int .i64 (0)) := by rw [Lib.cell_of_heap hblk.out]; rfl
      have hbl := hBl.out
      obtain ⟨x0, x1⟩ := hX.out
      go_wp2_with fail
      clear hfb hcv
      refine (tyText_any _ _ _ [⟨2, 3, 0, 0, 0, 0, 0, 0, 0⟩, ⟨1, 0, 0, 0, 0, 0, 0, 0, 0⟩, ⟨3, 0, 0, 1, -d, 0, 0, 0, -1⟩] _ (Lib.hid (by exact (tyArg_blk (blk_set hblk.out) rfl ⟨[], rfl⟩))) (by omega) (Lib.hid (tab_keep hT.out (by exact (Below.setCell hB.out (show w.heap.size ≤ w1.heap.size from hbl) _)) (Nat.le_refl _)))).mono ?_
      rintro e w3 ⟨rfl, hb⟩
      rw [(tx_no (tf_11_0 d hd1)).1, (tx_no (tf_11_0 d hd1)).2]
      have hA := Lib.hid (show TyArg w3 (some ⟨w1.heap.size, 0, none⟩) 3 [⟨2, 3, 0, 0, 0, 0, 0, 0, 0⟩, ⟨1, 0, 0, 0, 0, 0, 0, 0, 0⟩, ⟨3, 0, 0, 1, -d, 0, 0, 0, -1⟩] from TyArg.below (by exact (tyArg_blk (blk_set hblk.out) rfl ⟨[], rfl⟩)) hb)
      have hX := Lib.hid (show BoxAt w3 (w1.heap.size + 1) (.slice (some ⟨w1.heap.size, 0, none⟩) 3 3) from BoxAt.below (by exact (show BoxAt (w2.setCell ⟨w1.heap.size, 22, none⟩ (.int .i64 (-d))) (w1.heap.size + 1) (.slice (some ⟨w1.heap.size, 0, none⟩) 3 3) from ⟨by simpa using hX.out.1, setO hX.out.2 (by simp)⟩)) hb)
      have hB := Lib.hid (show Below w.heap.size w w3 from belT (by exact (Below.setCell hB.out (show w.heap.size ≤ w1.heap.size from hbl) _)) hb)
      clear hb x0 x1 hbl
      obtain ⟨x0, x1⟩ := hX.out
      go_wp2_with fail
      clear x0 x1
      refine (vars_any _ _ _ [⟨2, 3, 0, 0, 0, 0, 0, 0, 0⟩, ⟨1, 0, 0, 0, 0, 0, 0, 0, 0⟩, ⟨3, 0, 0, 1, -d, 0, 0, 0, -1⟩] _ hA (by omega)).mono ?_
      rintro e w4 hp
      unfold VarsPost at hp
      rw [(tf_11_0 d hd1), if_neg (by decide)] at hp
      obtain ⟨rfl, hb⟩ := hp
      have hA := Lib.hid (hA.out.below hb)
      have hX := Lib.hid (hX.out.below hb)
      have hB := Lib.hid (belT hB.out hb)
      clear hb
      obtain ⟨x0, x1⟩ := hX.out
      go_wp2_with fail
      clear x0 x1
      refine (fun_any _ _ _ ⟨0, 0, 0, 0, -1⟩ _ _ _ [⟨2, 3, 0, 0, 0, 0, 0, 0, 0⟩, ⟨1, 0, 0, 0, 0, 0, 0, 0, 0⟩, ⟨3, 0, 0, 1, -d, 0, 0, 0, -1⟩] [⟨0, 0, 0, 0, 0, 0, 0, 0, 0⟩] _ (Lib.hid (by exact TyArg.alloc _ hA.out)) (Lib.hid (by exact tyArg_lit _ _ _ _ _ _ rfl rfl rfl)) (by omega) (by omega)).mono ?_
      rintro e w5 ⟨v, rfl, hv, hb⟩
      rw [(fun_none (tf_11_0 d hd1)).2]
      obtain ⟨a5, m5, d5, rfl⟩ := ownT_sl hv
      have hA := Lib.hid ((TyArg.below (by exact TyArg.alloc _ hA.out) hb).alloc (.cells #[.slice a5 m5 d5] 24))
      have hX := Lib.hid ((BoxAt.below (by exact BoxAt.alloc _ hX.out) hb).alloc (.cells #[.slice a5 m5 d5] 24))
      have hB := Lib.hid (belA (.cells #[.slice a5 m5 d5] 24) (belT (belA _ hB.out) hb))
      clear hb hv
      obtain ⟨x0, x1⟩ := hX.out
      go_wp2_with fail
      clear x0 x1
      refine (tyMay_any _ _ _ [⟨2, 3, 0, 0, 0, 0, 0, 0, 0⟩, ⟨1, 0, 0, 0, 0, 0, 0, 0, 0⟩, ⟨3, 0, 0, 1, -d, 0, 0, 0, -1⟩] _ hA (by omega)).mono ?_
      rintro e w6 ⟨rfl, hb⟩
      rw [(tf_11_0 d hd1)]
      have hB := Lib.hid (belT hB.out hb)
      clear hb hA hX
      go_wp2_with ((go_at_call 24; refine (num_any _ _ (by omega) (by omega)).mono ?_; rintro e w' ⟨rfl, rfl⟩))
      go_ret
      exact ⟨rfl, hB.out⟩
    · have hfb := hfz.out w2 23 ⟨_, hblk.out⟩
      have hcv : w2.cell? ⟨w1.heap.size, 23, none⟩ = some (.int .i64 (0)) := by rw [Lib.cell_of_heap hblk.out]; rfl
      have hbl := hBl.out
      obtain ⟨x0, x1⟩ := hX.out
      go_wp2_with fail
      clear hfb hcv
      refine (tyText_any _ _ _ [⟨2, 3, 0, 0, 0, 0, 0, 0, 0⟩, ⟨1, 0, 0, 0, 0, 0, 0, 0, 0⟩, ⟨3, 0, 0, 1, 0, -d, 0, 0, -1⟩] _ (Lib.hid (by exact (tyArg_blk (blk_set hblk.out) rfl ⟨[], rfl⟩))) (by omega) (Lib.hid (tab_keep hT.out (by exact (Below.setCell hB.out (show w.heap.size ≤ w1.heap.size from hbl) _)) (Nat.le_refl _)))).mono ?_
      rintro e w3 ⟨rfl, hb⟩
      rw [(tx_no (tf_11_1 d hd1)).1, (tx_no (tf_11_1 d hd1)).2]
      have hA := Lib.hid (show TyArg w3 (some ⟨w1.heap.size, 0, none⟩) 3 [⟨2, 3, 0, 0, 0, 0, 0, 0, 0⟩, ⟨1, 0, 0, 0, 0, 0, 0, 0, 0⟩, ⟨3, 0, 0, 1, 0, -d, 0, 0, -1⟩] from TyArg.below (by exact (tyArg_blk (blk_set hblk.out) rfl ⟨[], rfl⟩)) hb)
      have hX := Lib.hid (show BoxAt w3 (w1.heap.size + 1) (.slice (some ⟨w1.heap.size, 0, none⟩) 3 3) from BoxAt.below (by exact (show BoxAt (w2.setCell ⟨w1.heap.size, 23, none⟩ (.int .i64 (-d))) (w1.heap.size + 1) (.slice (some ⟨w1.heap.size, 0, none⟩) 3 3) from ⟨by simpa using hX.out.1, setO hX.out.2 (by simp)⟩)) hb)
      have hB := Lib.hid (show Below w.heap.size w w3 from belT (by exact (Below.setCell hB.out (show w.heap.size ≤ w1.heap.size from hbl) _)) hb)
      clear hb x0 x1 hbl
      obtain ⟨x0, x1⟩ := hX.out
      go_wp2_with fail
      clear x0 x1
      refine (vars_any _ _ _ [⟨2, 3, 0, 0, 0, 0, 0, 0, 0⟩, ⟨1, 0, 0, 0, 0, 0, 0, 0, 0⟩, ⟨3, 0, 0, 1, 0, -d, 0, 0, -1⟩] _ hA (by omega)).mono ?_
      rintro e w4 hp
      unfold VarsPost at hp
      rw [(tf_11_1 d hd1), if_neg (by decide)] at hp
      obtain ⟨rfl, hb⟩ := hp
      have hA := Lib.hid (hA.out.below hb)
      have hX := Lib.hid (hX.out.below hb)
      have hB := Lib.hid (belT hB.out hb)
      clear hb
      obtain ⟨x0, x1⟩ := hX.out
      go_wp2_with fail
      clear x0 x1
      refine (fun_any _ _ _ ⟨0, 0, 0, 0, -1⟩ _ _ _ [⟨2, 3, 0, 0, 0, 0, 0, 0, 0⟩, ⟨1, 0, 0, 0, 0, 0, 0, 0, 0⟩, ⟨3, 0, 0, 1, 0, -d, 0, 0, -1⟩] [⟨0, 0, 0, 0, 0, 0, 0, 0, 0⟩] _ (Lib.hid (by exact TyArg.alloc _ hA.out)) (Lib.hid (by exact tyArg_lit _ _ _ _ _ _ rfl rfl rfl)) (by omega) (by omega)).mono ?_
      rintro e w5 ⟨v, rfl, hv, hb⟩
      rw [(fun_none (tf_11_1 d hd1)).2]
      obtain ⟨a5, m5, d5, rfl⟩ := ownT_sl hv
      have hA := Lib.hid ((TyArg.below (by exact TyArg.alloc _ hA.out) hb).alloc (.cells #[.slice a5 m5 d5] 24))
      have hX := Lib.hid ((BoxAt.below (by exact BoxAt.alloc _ hX.out) hb).alloc (.cells #[.slice a5 m5 d5] 24))
      have hB := Lib.hid (belA (.cells #[.slice a5 m5 d5] 24) (belT (belA _ hB.out) hb))
      clear hb hv
      obtain ⟨x0, x1⟩ := hX.out
      go_wp2_with fail
      clear x0 x1
      refine (tyMay_any _ _ _ [⟨2, 3, 0, 0, 0, 0, 0, 0, 0⟩, ⟨1, 0, 0, 0, 0, 0, 0, 0, 0⟩, ⟨3, 0, 0, 1, 0, -d, 0, 0, -1⟩] _ hA (by omega)).mono ?_
      rintro e w6 ⟨rfl, hb⟩
      rw [(tf_11_1 d hd1)]
      have hB := Lib.hid (belT hB.out hb)
      clear hb hA hX
      go_wp2_with ((go_at_call 24; refine (num_any _ _ (by omega) (by omega)).mono ?_; rintro e w' ⟨rfl, rfl⟩))
      go_ret
      exact ⟨rfl, hB.out⟩
    · have hfb := hfz.out w2 24 ⟨_, hblk.out⟩
      have hcv : w2.cell? ⟨w1.heap.size, 24, none⟩ = some (.int .i64 (0)) := by rw [Lib.cell_of_heap hblk.out]; rfl
      have hbl := hBl.out
      obtain ⟨x0, x1⟩ := hX.out
      go_wp2_with fail
      clear hfb hcv
      refine (tyText_any _ _ _ [⟨2, 3, 0, 0, 0, 0, 0, 0, 0⟩, ⟨1, 0, 0, 0, 0, 0, 0, 0, 0⟩, ⟨3, 0, 0, 1, 0, 0, -d, 0, -1⟩] _ (Lib.hid (by exact (tyArg_blk (blk_set hblk.out) rfl ⟨[], rfl⟩))) (by omega) (Lib.hid (tab_keep hT.out (by exact (Below.setCell hB.out (show w.heap.size ≤ w1.heap.size from hbl) _)) (Nat.le_refl _)))).mono ?_
      rintro e w3 ⟨rfl, hb⟩
      rw [(tx_no (tf_11_2 d hd1)).1, (tx_no (tf_11_2 d hd1)).2]
      have hA := Lib.hid (show TyArg w3 (some ⟨w1.heap.size, 0, none⟩) 3 [⟨2, 3, 0, 0, 0, 0, 0, 0, 0⟩, ⟨1, 0, 0, 0, 0, 0, 0, 0, 0⟩, ⟨3, 0, 0, 1, 0, 0, -d, 0, -1⟩] from TyArg.below (by exact (tyArg_blk (blk_set hblk.out) rfl ⟨[], rfl⟩)) hb)
      have hX := Lib.hid (show BoxAt w3 (w1.heap.size + 1) (.slice (some ⟨w1.heap.size, 0, none⟩) 3 3) from BoxAt.below (by exact (show BoxAt (w2.setCell ⟨w1.heap.size, 24, none⟩ (.int .i64 (-d))) (w1.heap.size + 1) (.slice (some ⟨w1.heap.size, 0, none⟩) 3 3) from ⟨by simpa using hX.out.1, setO hX.out.2 (by simp)⟩)) hb)
      have hB := Lib.hid (show Below w.heap.size w w3 from belT (by exact (Below.setCell hB.out (show w.heap.size ≤ w1.heap.size from hbl) _)) hb)
      clear hb x0 x1 hbl
      obtain ⟨x0, x1⟩ := hX.out
      go_wp2_with fail
      clear x0 x1
      refine (vars_any _ _ _ [⟨2, 3, 0, 0, 0, 0, 0, 0, 0⟩, ⟨1, 0, 0, 0, 0, 0, 0, 0, 0⟩, ⟨3, 0, 0, 1, 0, 0, -d, 0, -1⟩] _ hA (by omega)).mono ?_
      rintro e w4 hp
      unfold VarsPost at hp
      rw [(tf_11_2 d hd1), if_neg (by decide)] at hp
      obtain ⟨rfl, hb⟩ := hp
      have hA := Lib.hid (hA.out.below hb)
      have hX := Lib.hid (hX.out.below hb)
      have hB := Lib.hid (belT hB.out hb)
      clear hb
      obtain ⟨x0, x1⟩ := hX.out
      go_wp2_with fail
      clear x0 x1
      refine (fun_any _ _ _ ⟨0, 0, 0, 0, -1⟩ _ _ _ [⟨2, 3, 0, 0, 0, 0, 0, 0, 0⟩, ⟨1, 0, 0, 0, 0, 0, 0, 0, 0⟩, ⟨3, 0, 0, 1, 0, 0, -d, 0, -1⟩] [⟨0, 0, 0, 0, 0, 0, 0, 0, 0⟩] _ (Lib.hid (by exact TyArg.alloc _ hA.out)) (Lib.hid (by exact tyArg_lit _ _ _ _ _ _ rfl rfl rfl)) (by omega) (by omega)).mono ?_
      rintro e w5 ⟨v, rfl, hv, hb⟩
      rw [(fun_none (tf_11_2 d hd1)).2]
      obtain ⟨a5, m5, d5, rfl⟩ := ownT_sl hv
      have hA := Lib.hid ((TyArg.below (by exact TyArg.alloc _ hA.out) hb).alloc (.cells #[.slice a5 m5 d5] 24))
      have hX := Lib.hid ((BoxAt.below (by exact BoxAt.alloc _ hX.out) hb).alloc (.cells #[.slice a5 m5 d5] 24))
      have hB := Lib.hid (belA (.cells #[.slice a5 m5 d5] 24) (belT (belA _ hB.out) hb))
      clear hb hv
      obtain ⟨x0, x1⟩ := hX.out
      go_wp2_with fail
      clear x0 x1
      refine (tyMay_any _ _ _ [⟨2, 3, 0, 0, 0, 0, 0, 0, 0⟩, ⟨1, 0, 0, 0, 0, 0, 0, 0, 0⟩, ⟨3, 0, 0, 1, 0, 0, -d, 0, -1⟩] _ hA (by omega)).mono ?_
      rintro e w6 ⟨rfl, hb⟩
      rw [(tf_11_2 d hd1)]
      have hB := Lib.hid (belT hB.out hb)
      clear hb hA hX
      go_wp2_with ((go_at_call 24; refine (num_any _ _ (by omega) (by omega)).mono ?_; rintro e w' ⟨rfl, rfl⟩))
      go_ret
      exact ⟨rfl, hB.out⟩
    · have hfb := hfz.out w2 25 ⟨_, hblk.out⟩
      have hcv : w2.cell? ⟨w1.heap.size, 25, none⟩ = some (.int .i64 (0)) := by rw [Lib.cell_of_heap hblk.out]; rfl
      have hbl := hBl.out
      obtain ⟨x0, x1⟩ := hX.out
      go_wp2_with fail
      clear hfb hcv
      refine (tyText_any _ _ _ [⟨2, 3, 0, 0, 0, 0, 0, 0, 0⟩, ⟨1, 0, 0, 0, 0, 0, 0, 0, 0⟩, ⟨3, 0, 0, 1, 0, 0, 0, -d, -1⟩] _ (Lib.hid (by exact (tyArg_blk (blk_set hblk.out) rfl ⟨[], rfl⟩))) (by omega) (Lib.hid (tab_keep hT.out (by exact (Below.setCell hB.out (show w.heap.size ≤ w1.heap.size from hbl) _)) (Nat.le_refl _)))).mono ?_
      rintro e w3 ⟨rfl, hb⟩
      rw [(tx_no (tf_11_3 d hd1)).1, (tx_no (tf_11_3 d hd1)).2]
      have hA := Lib.hid (show TyArg w3 (some ⟨w1.heap.size, 0, none⟩) 3 [⟨2, 3, 0, 0, 0, 0, 0, 0, 0⟩, ⟨1, 0, 0, 0, 0, 0, 0, 0, 0⟩, ⟨3, 0, 0, 1, 0, 0, 0, -d, -1⟩] from TyArg.below (by exact (tyArg_blk (blk_set hblk.out) rfl ⟨[], rfl⟩)) hb)
      have hX := Lib.hid (show BoxAt w3 (w1.heap.size + 1) (.slice (some ⟨w1.heap.size, 0, none⟩) 3 3) from BoxAt.below (by exact (show BoxAt (w2.setCell ⟨w1.heap.size, 25, none⟩ (.int .i64 (-d))) (w1.heap.size + 1) (.slice (some ⟨w1.heap.size, 0, none⟩) 3 3) from ⟨by simpa using hX.out.1, setO hX.out.2 (by simp)⟩)) hb)
      have hB := Lib.hid (show Below w.heap.size w w3 from belT (by exact (Below.setCell hB.out (show w.heap.size ≤ w1.heap.size from hbl) _)) hb)
      clear hb x0 x1 hbl
      obtain ⟨x0, x1⟩ := hX.out
      go_wp2_with fail
      clear x0 x1
      refine (vars_any _ _ _ [⟨2, 3, 0, 0, 0, 0, 0, 0, 0⟩, ⟨1, 0, 0, 0, 0, 0, 0, 0, 0⟩, ⟨3, 0, 0, 1, 0, 0, 0, -d, -1⟩] _ hA (by omega)).mono ?_
      rintro e w4 hp
      unfold VarsPost at hp
      rw [(tf_11_3 d hd1), if_neg (by decide)] at hp
      obtain ⟨rfl, hb⟩ := hp
      have hA := Lib.hid (hA.out.below hb)
      have hX := Lib.hid (hX.out.below hb)
      have hB := Lib.hid (belT hB.out hb)
      clear hb
      obtain ⟨x0, x1⟩ := hX.out
      go_wp2_with fail
      clear x0 x1
      refine (fun_any _ _ _ ⟨0, 0, 0, 0, -1⟩ _ _ _ [⟨2, 3, 0, 0, 0, 0, 0, 0, 0⟩, ⟨1, 0, 0, 0, 0, 0, 0, 0, 0⟩, ⟨3, 0, 0, 1, 0, 0, 0, -d, -1⟩] [⟨0, 0, 0, 0, 0, 0, 0, 0, 0⟩] _ (Lib.hid (by exact TyArg.alloc _ hA.out)) (Lib.hid (by exact tyArg_lit _ _ _ _ _ _ rfl rfl rfl)) (by omega) (by omega)).mono ?_
      rintro e w5 ⟨v, rfl, hv, hb⟩
      rw [(fun_none (tf_11_3 d hd1)).2]
      obtain ⟨a5, m5, d5, rfl⟩ := ownT_sl hv
      have hA := Lib.hid ((TyArg.below (by exact TyArg.alloc _ hA.out) hb).alloc (.cells #[.slice a5 m5 d5] 24))
      have hX := Lib.hid ((BoxAt.below (by exact BoxAt.alloc _ hX.out) hb).alloc (.cells #[.slice a5 m5 d5] 24))
      have hB := Lib.hid (belA (.cells #[.slice a5 m5 d5] 24) (belT (belA _ hB.out) hb))
      clear hb hv
      obtain ⟨x0, x1⟩ := hX.out
      go_wp2_with fail
      clear x0 x1
      refine (tyMay_any _ _ _ [⟨2, 3, 0, 0, 0, 0, 0, 0, 0⟩, ⟨1, 0, 0, 0, 0, 0, 0, 0, 0⟩, ⟨3, 0, 0, 1, 0, 0, 0, -d, -1⟩] _ hA (by omega)).mono ?_
      rintro e w6 ⟨rfl, hb⟩
      rw [(tf_11_3 d hd1)]
      have hB := Lib.hid (belT hB.out hb)
      clear hb hA hX
      go_wp2_with ((go_at_call 24; refine (num_any _ _ (by omega) (by omega)).mono ?_; rintro e w' ⟨rfl, rfl⟩))
      go_ret
      exact ⟨rfl, hB.out⟩
  · have hbl := hBl.out
    have sl2 := ty_to (some ⟨w1.heap.size, 0, none⟩) 3 3 2 (by omega)
    have hfb : w2.frozen? ⟨w1.heap.size + 1, 0, none⟩ = false := hfx.out
    obtain ⟨x0, x1⟩ := hX.out
    go_wp2_with fail
    clear hfb sl2
    refine (tyText_any _ _ _ [⟨2, 3, 0, 0, 0, 0, 0, 0, 0⟩, ⟨1, 0, 0, 0, 0, 0, 0, 0, 0⟩] _ (Lib.hid (by exact (show TyArg (w2.setCell ⟨w1.heap.size + 1, 0, none⟩ (.slice (some ⟨w1.heap.size, 0, none⟩) 2 3)) (some ⟨w1.heap.size, 0, none⟩) 2 [⟨2, 3, 0, 0, 0, 0, 0, 0, 0⟩, ⟨1, 0, 0, 0, 0, 0, 0, 0, 0⟩] from tyArg_blk ((show (w2.setCell ⟨w1.heap.size + 1, 0, none⟩ (.slice (some ⟨w1.heap.size, 0, none⟩) 2 3)).heap[w1.heap.size]? = w2.heap[w1.heap.size]? from by simp [World.setCell, Array.getElem?_modify]).trans hblk.out) rfl ⟨[.int .i64 3, .int .i64 0, .int .i64 0, .int .i64 1, .int .i64 0, .int .i64 0, .int .i64 0, .int .i64 0, .int .i64 (-1)], rfl⟩))) (by omega) (Lib.hid (tab_keep hT.out (by exact (Below.setCell hB.out (show w.heap.size ≤ w1.heap.size + 1 by omega) _)) (Nat.le_refl _)))).mono ?_
    rintro e w3 ⟨rfl, hb⟩
    rw [(tx_no tf_12).1, (tx_no tf_12).2]
    have hA := Lib.hid (show TyArg w3 (some ⟨w1.heap.size, 0, none⟩) 2 [⟨2, 3, 0, 0, 0, 0, 0, 0, 0⟩, ⟨1, 0, 0, 0, 0, 0, 0, 0, 0⟩] from TyArg.below (by exact (show TyArg (w2.setCell ⟨w1.heap.size + 1, 0, none⟩ (.slice (some ⟨w1.heap.size, 0, none⟩) 2 3)) (some ⟨w1.heap.size, 0, none⟩) 2 [⟨2, 3, 0, 0, 0, 0, 0, 0, 0⟩, ⟨1, 0, 0, 0, 0, 0, 0, 0, 0⟩] from tyArg_blk ((show (w2.setCell ⟨w1.heap.size + 1, 0, none⟩ (.slice (some ⟨w1.heap.size, 0, none⟩) 2 3)).heap[w1.heap.size]? = w2.heap[w1.heap.size]? from by simp [World.setCell, Array.getElem?_modify]).trans hblk.out) rfl ⟨[.int .i64 3, .int .i64 0, .int .i64 0, .int .i64 1, .int .i64 0, .int .i64 0, .int .i64 0, .int .i64 0, .int .i64 (-1)], rfl⟩)) hb)
    have hX := Lib.hid (show BoxAt w3 (w1.heap.size + 1) (.slice (some ⟨w1.heap.size, 0, none⟩) 2 3) from BoxAt.below (by exact (show BoxAt (w2.setCell ⟨w1.heap.size + 1, 0, none⟩ (.slice (some ⟨w1.heap.size, 0, none⟩) 2 3)) (w1.heap.size + 1) (.slice (some ⟨w1.heap.size, 0, none⟩) 2 3) from ⟨by simpa using hX.out.1, setS hX.out.2⟩)) hb)
    have hB := Lib.hid (show Below w.heap.size w w3 from belT (by exact (Below.setCell hB.out (show w.heap.size ≤ w1.heap.size + 1 by omega) _)) hb)
    clear hb x0 x1 hbl
    obtain ⟨x0, x1⟩ := hX.out
    go_wp2_with fail
    clear x0 x1
    refine (vars_any _ _ _ [⟨2, 3, 0, 0, 0, 0, 0, 0, 0⟩, ⟨1, 0, 0, 0, 0, 0, 0, 0, 0⟩] _ hA (by omega)).mono ?_
    rintro e w4 hp
    unfold VarsPost at hp
    rw [tf_12, if_neg (by decide)] at hp
    obtain ⟨rfl, hb⟩ := hp
    have hA := Lib.hid (hA.out.below hb)
    have hX := Lib.hid (hX.out.below hb)
    have hB := Lib.hid (belT hB.out hb)
    clear hb
    obtain ⟨x0, x1⟩ := hX.out
    go_wp2_with fail
    clear x0 x1
    refine (fun_any _ _ _ ⟨0, 0, 0, 0, -1⟩ _ _ _ [⟨2, 3, 0, 0, 0, 0, 0, 0, 0⟩, ⟨1, 0, 0, 0, 0, 0, 0, 0, 0⟩] [⟨0, 0, 0, 0, 0, 0, 0, 0, 0⟩] _ (Lib.hid (by exact TyArg.alloc _ hA.out)) (Lib.hid (by exact tyArg_lit _ _ _ _ _ _ rfl rfl rfl)) (by omega) (by omega)).mono ?_
    rintro e w5 ⟨v, rfl, hv, hb⟩
    rw [(fun_none tf_12).2]
    obtain ⟨a5, m5, d5, rfl⟩ := ownT_sl hv
    have hA := Lib.hid ((TyArg.below (by exact TyArg.alloc _ hA.out) hb).alloc (.cells #[.slice a5 m5 d5] 24))
    have hX := Lib.hid ((BoxAt.below (by exact BoxAt.alloc _ hX.out) hb).alloc (.cells #[.slice a5 m5 d5] 24))
    have hB := Lib.hid (belA (.cells #[.slice a5 m5 d5] 24) (belT (belA _ hB.out) hb))
    clear hb hv
    obtain ⟨x0, x1⟩ := hX.out
    go_wp2_with fail
    clear x0 x1
    refine (tyMay_any _ _ _ [⟨2, 3, 0, 0, 0, 0, 0, 0, 0⟩, ⟨1, 0, 0, 0, 0, 0, 0, 0, 0⟩] _ hA (by omega)).mono ?_
    rintro e w6 ⟨rfl, hb⟩
    rw [tf_12]
    have hB := Lib.hid (belT hB.out hb)
    clear hb hA hX
    go_wp2_with ((go_at_call 24; refine (num_any _ _ (by omega) (by omega)).mono ?_; rintro e w' ⟨rfl, rfl⟩))
    go_ret
    exact ⟨rfl, hB.out⟩
  · have hfb := hfz.out w2 19 ⟨_, hblk.out⟩
    have hcv : w2.cell? ⟨w1.heap.size, 19, none⟩ = some (.int .i64 (0)) := by rw [Lib.cell_of_heap hblk.out]; rfl
    have hbl := hBl.out
    obtain ⟨x0, x1⟩ := hX.out
    go_wp2_with fail
    clear hfb hcv
    refine (tyText_any _ _ _ [⟨2, 3, 0, 0, 0, 0, 0, 0, 0⟩, ⟨1, 0, 0, 0, 0, 0, 0, 0, 0⟩, ⟨3, d, 0, 1, 0, 0, 0, 0, -1⟩] _ (Lib.hid (by exact (tyArg_blk (blk_set hblk.out) rfl ⟨[], rfl⟩))) (by omega) (Lib.hid (tab_keep hT.out (by exact (Below.setCell hB.out (show w.heap.size ≤ w1.heap.size from hbl) _)) (Nat.le_refl _)))).mono ?_
    rintro e w3 ⟨rfl, hb⟩
    rw [(tx_no (tf_13 d hd1)).1, (tx_no (tf_13 d hd1)).2]
    have hA := Lib.hid (show TyArg w3 (some ⟨w1.heap.size, 0, none⟩) 3 [⟨2, 3, 0, 0, 0, 0, 0, 0, 0⟩, ⟨1, 0, 0, 0, 0, 0, 0, 0, 0⟩, ⟨3, d, 0, 1, 0, 0, 0, 0, -1⟩] from TyArg.below (by exact (tyArg_blk (blk_set hblk.out) rfl ⟨[], rfl⟩)) hb)
    have hX := Lib.hid (show BoxAt w3 (w1.heap.size + 1) (.slice (some ⟨w1.heap.size, 0, none⟩) 3 3) from BoxAt.below (by exact (show BoxAt (w2.setCell ⟨w1.heap.size, 19, none⟩ (.int .i64 (d))) (w1.heap.size + 1) (.slice (some ⟨w1.heap.size, 0, none⟩) 3 3) from ⟨by simpa using hX.out.1, setO hX.out.2 (by simp)⟩)) hb)
    have hB := Lib.hid (show Below w.heap.size w w3 from belT (by exact (Below.setCell hB.out (show w.heap.size ≤ w1.heap.size from hbl) _)) hb)
    clear hb x0 x1 hbl
    obtain ⟨x0, x1⟩ := hX.out
    go_wp2_with fail
    clear x0 x1
    refine (vars_any _ _ _ [⟨2, 3, 0, 0, 0, 0, 0, 0, 0⟩, ⟨1, 0, 0, 0, 0, 0, 0, 0, 0⟩, ⟨3, d, 0, 1, 0, 0, 0, 0, -1⟩] _ hA (by omega)).mono ?_
    rintro e w4 hp
    unfold VarsPost at hp
    rw [(tf_13 d hd1), if_neg (by decide)] at hp
    obtain ⟨rfl, hb⟩ := hp
    have hA := Lib.hid (hA.out.below hb)
    have hX := Lib.hid (hX.out.below hb)
    have hB := Lib.hid (belT hB.out hb)
    clear hb
    obtain ⟨x0, x1⟩ := hX.out
    go_wp2_with fail
    clear x0 x1
    refine (fun_any _ _ _ ⟨0, 0, 0, 0, -1⟩ _ _ _ [⟨2, 3, 0, 0, 0, 0, 0, 0, 0⟩, ⟨1, 0, 0, 0, 0, 0, 0, 0, 0⟩, ⟨3, d, 0, 1, 0, 0, 0, 0, -1⟩] [⟨0, 0, 0, 0, 0, 0, 0, 0, 0⟩] _ (Lib.hid (by exact TyArg.alloc _ hA.out)) (Lib.hid (by exact tyArg_lit _ _ _ _ _ _ rfl rfl rfl)) (by omega) (by omega)).mono ?_
    rintro e w5 ⟨v, rfl, hv, hb⟩
    rw [(fun_none (tf_13 d hd1)).2]
    obtain ⟨a5, m5, d5, rfl⟩ := ownT_sl hv
    have hA := Lib.hid ((TyArg.below (by exact TyArg.alloc _ hA.out) hb).alloc (.cells #[.slice a5 m5 d5] 24))
    have hX := Lib.hid ((BoxAt.below (by exact BoxAt.alloc _ hX.out) hb).alloc (.cells #[.slice a5 m5 d5] 24))
    have hB := Lib.hid (belA (.cells #[.slice a5 m5 d5] 24) (belT (belA _ hB.out) hb))
    clear hb hv
    obtain ⟨x0, x1⟩ := hX.out
    go_wp2_with fail
    clear x0 x1
    refine (tyMay_any _ _ _ [⟨2, 3, 0, 0, 0, 0, 0, 0, 0⟩, ⟨1, 0, 0, 0, 0, 0, 0, 0, 0⟩, ⟨3, d, 0, 1, 0, 0, 0, 0, -1⟩] _ hA (by omega)).mono ?_
    rintro e w6 ⟨rfl, hb⟩
    rw [(tf_13 d hd1)]
    have hB := Lib.hid (belT hB.out hb)
    clear hb hA hX
    go_wp2_with ((go_at_call 24; refine (num_any _ _ (by omega) (by omega)).mono ?_; rintro e w' ⟨rfl, rfl⟩))
    go_ret
    exact ⟨rfl, hB.out⟩
theorem own : ownKnob Tryd.prog.godebug = none := by kernel_rfl
theorem laidOut : laidOutB Tryd.prog = true := by kernel_rfl
set_option maxRecDepth 100000 in
theorem contract (H : Type) (enc : TypeId × Value → H) (W : World) (base : Nat) (args : Array Value) (ds gs : List (DataW H)) (before : List MemPlace)
    (hval0 : ∀ (j : Nat) t v, Tryd.f5.params[j]? = some t → args[j]? = some v → Value.okWide Tryd.prog W .any base t v)
    (hW : DataW.Whole enc Tryd.prog Tryd.f5.params.toList Rows.typFormsSpec.vars false W args.toList ds gs before)
    (hsz0 : (DataW.weightsEach Tryd.prog (Tryd.f5.params.toList ++ Rows.typFormsSpec.plain.varTypes Tryd.prog) (ds ++ gs)).all (· ≤ reachBytes) = true)
    (hL : laidMetH Tryd.prog Rows.typFormsRow.laid W)
    : Calls Tryd.prog 5 args W fun e W' => ∃ v, e = .returned v ∧ Rows.typFormsSpec.post enc Tryd.prog Tryd.f5 false true false false W args v W' := by
  have hval : ∀ (j : Nat) t v, Tryd.f5.params[j]? = some t → args[j]? = some v → Value.okWide Tryd.prog W .any base t v := hval0
  have hsz : (DataW.weightsEach Tryd.prog (Tryd.f5.params.toList ++ Rows.typFormsSpec.plain.varTypes Tryd.prog) (ds ++ gs)).all (· ≤ reachBytes) = true := hsz0
  have hW' := hW
  obtain ⟨p, q, hA0, hV, rfl, hfz, hnd⟩ := hW
  have hA : DataW.TrodAll enc Tryd.prog W 0 (fun _ => true) true Tryd.f5.params.toList args.toList ds p := hA0
  rw [Tryd.params5] at hA hval hsz
  obtain ⟨v0, vs0, d0, ds0, p0, q0, hargs, rfl, rfl, h0, r0⟩ := trodAll_cons hA
  obtain ⟨v1, vs1, d1, ds1, p1, q1, rfl, rfl, rfl, h1, r1⟩ := trodAll_cons r0
  obtain ⟨rfl, rfl, rfl⟩ := trodAll_nil r1
  obtain rfl : args = #[v0, v1] := by cases args; simp_all
  obtain ⟨rfl, rfl⟩ := trodVars_none hV
  have k0 := h0
  have lt0 : ∀ x ∈ p0, x.block < W.heap.size := by obtain ⟨m, hm⟩ := k0; exact DataW.trod_lt m _ _ _ hm
  obtain ⟨a0, rfl, rfl, rfl, m0⟩ := open_int Tryd.underlying3 (hval 0 3 v0 rfl rfl) h0
  have k1 := h1
  have lt1 : ∀ x ∈ p1, x.block < W.heap.size := by obtain ⟨m, hm⟩ := k1; exact DataW.trod_lt m _ _ _ hm
  obtain ⟨a1, rfl, rfl, rfl, m1⟩ := open_int Tryd.underlying3 (hval 1 3 v1 rfl rfl) h1
  clear hA0 hval0
  refine (walk a0 a1 W (bd_i64 m0) (bd_i64 m1) (tabs hL)).mono fun e W' ⟨he, bel⟩ => ?_
  subst he
  exact ⟨_, rfl, _, _, _, [], _, [], hW', trodAll_mk1 (shut_bool Tryd.underlying4 _), (trodAll_cons_mk (Below.trod laidOut (by kernel_rfl) (of_decide_eq_true (by kernel_rfl)) k0 bel lt0) (trodAll_cons_mk (Below.trod laidOut (by kernel_rfl) (of_decide_eq_true (by kernel_rfl)) k1 bel lt1) trodAll_mk0)), rfl, bel.frame _, fun h => by cases h⟩
noncomputable def laidWorld (os : Os) : World := { World.holding Tryd.prog os ⟨#[], #[], []⟩ with heap := layAll Tryd.prog Rows.typFormsRow.laid (World.holding Tryd.prog os ⟨#[], #[], []⟩).heap }
theorem laid_met (os : Os) : laidMet Tryd.prog Rows.typFormsRow.laid ((laidWorld os).forCall (fun _ _ => 0) ⟨#[], #[.int .i64 0, .int .i64 0], []⟩).memory := laidMet_of_run' 8 (by kernel_rfl) (by kernel_rfl)
theorem reads (os : Os) {H : Type} (enc : TypeId × Value → H) : ∃ places, DataW.whole enc Tryd.prog ((laidWorld os).forCall (fun _ _ => 0) ⟨#[], #[.int .i64 0, .int .i64 0], []⟩).memory Tryd.f5.params.toList Rows.typFormsSpec.vars false #[(.int .i64 0 : Value), (.int .i64 0 : Value)].toList 8 = some ([.lit (.int .i64 0), .lit (.int .i64 0)], [], places) := ⟨[], by kernel_rfl⟩
set_option maxRecDepth 100000 in
theorem lifted (os : Os) (started : os.Started) (H : Type) (enc : TypeId × Value → H) (F : Stop.Interp) :
    ReturnsInHanded {} Tryd.checked os 5 .any ((OpenSpec.ofChange Rows.typFormsSpec).preRow enc Tryd.prog Tryd.f5 Rows.typFormsRow.domain false Rows.typFormsRow.laid) (((OpenSpec.ofChange Rows.typFormsSpec).at F).post enc Tryd.prog Tryd.f5 false true false false) := by
  obtain ⟨places, hx⟩ := reads os enc
  refine returnsInHanded_of_row (C := Tryd.checked) (s := (OpenSpec.ofChange Rows.typFormsSpec)) own started (by kernel_rfl) Tryd.func5
    (witness_row_at (enc := enc) (C := Tryd.checked) false (laidWorld os) #[.int .i64 0, .int .i64 0] rfl (by kernel_rfl) (by kernel_rfl) (by kernel_rfl)
      (OpenSpec.preRow_of_cond 8 hx (by kernel_rfl) (fun k hk => by cases hk) (by kernel_rfl) (laid_met os))) ?_
  intro W base args ds gs before hval hW _ hcnd hsz hL _ _
  exact contract H enc W base args ds gs before hval hW hsz  hL
theorem said : Rows.TypFormsSaid :=
  OpenClaim.holds_of_cond 5 Tryd.f5 rfl rfl rfl rfl rfl rfl rfl ⟨rfl, rfl, rfl, rfl, rfl⟩ rfl rfl rfl rfl rfl (by kernel_rfl) Tryd.func5 (by kernel_rfl)
    (of_decide_eq_true (by kernel_rfl)) (by unfold Func.isWrapper; first | (rw [if_pos (by decide +kernel)]; kernel_rfl) | (rw [if_neg (by decide +kernel)]; exact ⟨rfl, rfl⟩))
    (fun os started H enc _ F => by rw [OpenClaim.pre_eq_preRow]; exact lifted os started H enc F)
theorem plain (f : FuncId) (fn : Func) (hf : Tryd.pinned.checked.prog.funcNamed "trammel/trammellaw7.TypForms" = some f) (hfn : Tryd.pinned.checked.prog.funcs[f]? = some fn) :
    true = Tryd.pinned.checked.prog.looks [] ∧ ∀ (j : Nat) t, fn.params[j]? = some t → Tryd.pinned.checked.prog.wantsStandIn t = false := by
  obtain rfl : f = 5 := Option.some.inj ((show Tryd.prog.funcNamed "trammel/trammellaw7.TypForms" = some 5 by kernel_rfl).symm.trans hf) |>.symm
  obtain rfl : fn = Tryd.f5 := (Option.some.inj (Tryd.func5.symm.trans hfn)).symm
  refine ⟨by kernel_rfl, fun j t ht => ?_⟩
  rw [Tryd.params5] at ht
  have hm := Array.mem_of_getElem? ht
  have hm2 : t ∈ ([3] : List Nat) := by simpa using hm
  simp only [List.mem_cons, List.not_mem_nil, or_false] at hm2
  subst hm2; exact (show Tryd.prog.wantsStandIn 3 = false by kernel_rfl)
theorem proved : Rows.TypFormsCardSaid :=
  Claim7.holds_tied_plain_at .later [] _ _ _ _ said (fun _ h => by cases h) (by kernel_rfl) (fun _ h => by cases h) typForms_row_tie rfl ⟨rfl, rfl⟩ (by kernel_rfl) rfl plain (by kernel_rfl)
end Go.Proofs.YtdganhamafhfdaaDoor.typForms
