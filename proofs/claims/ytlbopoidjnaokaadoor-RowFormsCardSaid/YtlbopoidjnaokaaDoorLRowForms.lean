/- RowForms holds for every two numbers. No condition but that the listed package variables hold what the program's text lays. -/
import Derived.Test.YtlbopoidjnaokaaDoorRwH
import Derived.Test.YtlbopoidjnaokaaDoorAid
import Derived.Deep.DeepCutAuto
import Derived.Deep.CutBlock
import Derived.Test.YtlbopoidjnaokaaDoorCards
import Derived.Test.YtlbopoidjnaokaaDoorTie
import Derived.Test.YtlbopoidjnaokaaDoorOpn
import Derived.Test.YtlbopoidjnaokaaDoorCrd
import Derived.WalkKit
import Derived.ProofKit
import Derived.Deep.DeepHandedRow
namespace Go.Proofs.YtlbopoidjnaokaaDoor.rowForms
open Go.ChangeShapes Go.WideShapes Go.ChangeAt Go.RowKit
open Go.ChangeMaps (open_string shut_string)
set_option linter.unusedVariables false

def RfPost (w : World) (s : Value) (W : World) : Prop := ∃ (g : Nat) (a b c d t : Int), s = .pointer (some ⟨g, 0, none⟩) ∧ g < W.heap.size ∧ mayR a b c d t = false ∧ W.cell? ⟨g, 0, none⟩ = some (.int .i64 a) ∧ W.cell? ⟨g, 1, none⟩ = some (.int .i64 b) ∧ W.cell? ⟨g, 2, none⟩ = some (.int .i64 c) ∧ W.cell? ⟨g, 3, none⟩ = some (.int .i64 d) ∧ W.cell? ⟨g, 4, none⟩ = some (.int .i64 t) ∧ Below w.heap.size w W
theorem rf_fin {w W : World} {g : Nat} {a b c d t : Int} (hg : g < W.heap.size) (hb : Below w.heap.size w W) (hm : mayR a b c d t = false) (h0 : W.cell? ⟨g, 0, none⟩ = some (.int .i64 a)) (h1 : W.cell? ⟨g, 1, none⟩ = some (.int .i64 b)) (h2 : W.cell? ⟨g, 2, none⟩ = some (.int .i64 c)) (h3 : W.cell? ⟨g, 3, none⟩ = some (.int .i64 d)) (h4 : W.cell? ⟨g, 4, none⟩ = some (.int .i64 t)) :
    RfPost w (.pointer (some ⟨g, 0, none⟩)) W := ⟨g, a, b, c, d, t, rfl, hg, hm, h0, h1, h2, h3, h4, hb⟩
theorem ru_bad {a b c d t a' b' c' d' t' f : Int} (w : World) (h : ruOk a b c d t a' b' c' d' t' f = false) :
    Calls Tryd.prog 9 #[.agg #[.int .i64 a, .int .i64 b, .int .i64 c, .int .i64 d, .int .i64 t], .agg #[.int .i64 a', .int .i64 b', .int .i64 c', .int .i64 d', .int .i64 t'], .int .i64 f] w
      fun e w' => (∃ v, e = .returned (.tuple #[v, .int .i64 800])) ∧ Below w.heap.size w w' := by
  refine (rowUnify_any _ _ _ _ _ _ _ _ _ _ _ _).mono ?_
  rintro e w1 ⟨v, rfl, _, hb⟩
  rw [(ru_no h).2]
  exact ⟨⟨v, rfl⟩, hb⟩
theorem with_bad {a b c d t op : Int} (w : World) (h : withOk a b c d t op = false) :
    Calls Tryd.prog 13 #[.agg #[.int .i64 a, .int .i64 b, .int .i64 c, .int .i64 d, .int .i64 t], .int .i64 op] w fun e w' => e = .returned (.tuple #[.agg #[.int .i64 0, .int .i64 0, .int .i64 0, .int .i64 0, .int .i64 0], .int .i64 800]) ∧ Below w.heap.size w w' := by
  refine (with_any _ _ _ _ _ _ _).mono ?_
  rintro e w1 ⟨rfl, hb⟩
  rw [(with_no h).1, (with_no h).2]
  exact ⟨rfl, hb⟩
theorem text_bad {a b c d t : Int} (w : World) (h : mayR a b c d t = false) :
    Calls Tryd.prog 11 #[.agg #[.int .i64 a, .int .i64 b, .int .i64 c, .int .i64 d, .int .i64 t]] w fun e w' => e = .returned (.tuple #[.string ⟨#[]⟩, .int .i64 800]) ∧ Below w.heap.size w w' := by
  refine (rowText_any _ _ _ _ _ _).mono ?_
  rintro e w1 ⟨rfl, hb⟩
  rw [show rtV a b c d t = ⟨#[]⟩ from by unfold rtV; rw [h]; rfl, show rtE a b c d t = 800 from by unfold rtE; rw [h]; rfl]
  exact ⟨rfl, hb⟩
theorem may_bad {a b c d t : Int} (w : World) (h : mayR a b c d t = false) :
    Calls Tryd.prog 17 #[.agg #[.int .i64 a, .int .i64 b, .int .i64 c, .int .i64 d, .int .i64 t]] w fun e w' => e = .returned (.bool false) ∧ Below w.heap.size w w' := by
  refine (rowMay_any _ _ _ _ _ _).mono ?_
  rintro e w1 ⟨rfl, hb⟩
  rw [h]
  exact ⟨rfl, hb⟩

set_option maxRecDepth 100000 in
set_option maxHeartbeats 8000000 in
theorem walk (a0 a1 : Int) (w : World) (h0 : -9223372036854775808 ≤ a0 ∧ a0 ≤ 9223372036854775807) (h1 : -9223372036854775808 ≤ a1 ∧ a1 ≤ 9223372036854775807) :
    Calls Tryd.prog 5 #[.int .i64 a0, .int .i64 a1] w fun e w' => e = .returned (.bool true) ∧ Below w.heap.size w w' := by
  obtain ⟨m, hm0, hm1, he⟩ := umod_u a0 4 (by omega)
  have hk := and1023 a1
  have hd0 : 0 ≤ a1 % 1024 := by omega
  have hd1 : a1 % 1024 < 1024 := by omega
  generalize a1 % 1024 = x at hk hd0 hd1
  have hq := and3 (a0 / 4)
  have hq0 : 0 ≤ a0 / 4 % 4 := by omega
  have hq1 : a0 / 4 % 4 < 4 := by omega
  generalize a0 / 4 % 4 = q at hq hq0 hq1
  have hq4' := Lib.hid (show q = 0 ∨ q = 1 ∨ q = 2 ∨ q = 3 by omega)
  have hm4' := Lib.hid (show m = 0 ∨ m = 1 ∨ m = 2 ∨ m = 3 by omega)
  go_enter Tryd.func5, Tryd.ntmps5
  go_wp2_with fail
  refine (awake_any _).mono ?_
  rintro e w1 ⟨rfl, hw1⟩
  go_upto_block 0 with fail
  go_cut [6] (fun s6 wx => RfPost w s6 wx)
  case first =>
    rcases hm4'.out with rfl | rfl | rfl | rfl
    · go_wp2_with fail
      go_meet
      have hs1 := hw1.size
      exact rf_fin (a := 0) (b := 0) (c := 0) (d := 0) (t := -1 - (1 + x)) (by simp) (by (repeat' (first | with_reducible exact Below.refl _ _ | with_reducible assumption | with_reducible apply Below.setCell | with_reducible apply Below.alloc | with_reducible apply Below.drew | with_reducible apply below_drewN | with_reducible exact Nat.le_refl _ | (simp; done) | (simp; omega) | omega | exact Nat.le_refl _))) (by unfold mayR; exact decide_eq_false (by omega)) (by simp) (by simp) (by simp) (by simp) (by simp)
    · go_wp2_with fail
      go_meet
      have hs1 := hw1.size
      exact rf_fin (a := 0) (b := 0) (c := 0) (d := 0) (t := 4095 + (1 + x)) (by simp) (by (repeat' (first | with_reducible exact Below.refl _ _ | with_reducible assumption | with_reducible apply Below.setCell | with_reducible apply Below.alloc | with_reducible apply Below.drew | with_reducible apply below_drewN | with_reducible exact Nat.le_refl _ | (simp; done) | (simp; omega) | omega | exact Nat.le_refl _))) (by unfold mayR; exact decide_eq_false (by omega)) (by simp) (by simp) (by simp) (by simp) (by simp)
    · rcases hq4'.out with rfl | rfl | rfl | rfl
      · go_wp2_with fail
        go_meet
        have hs1 := hw1.size
        exact rf_fin (a := -(1 + x)) (b := 0) (c := 0) (d := 0) (t := 2) (by simp) (by (repeat' (first | with_reducible exact Below.refl _ _ | with_reducible assumption | with_reducible apply Below.setCell | with_reducible apply Below.alloc | with_reducible apply Below.drew | with_reducible apply below_drewN | with_reducible exact Nat.le_refl _ | (simp; done) | (simp; omega) | omega | exact Nat.le_refl _))) (by unfold mayR; exact decide_eq_false (by omega)) (by simp) (by simp) (by simp) (by simp) (by simp)
      · go_wp2_with fail
        go_meet
        have hs1 := hw1.size
        exact rf_fin (a := 0) (b := -(1 + x)) (c := 0) (d := 0) (t := 2) (by simp) (by (repeat' (first | with_reducible exact Below.refl _ _ | with_reducible assumption | with_reducible apply Below.setCell | with_reducible apply Below.alloc | with_reducible apply Below.drew | with_reducible apply below_drewN | with_reducible exact Nat.le_refl _ | (simp; done) | (simp; omega) | omega | exact Nat.le_refl _))) (by unfold mayR; exact decide_eq_false (by omega)) (by simp) (by simp) (by simp) (by simp) (by simp)
      · go_wp2_with fail
        go_meet
        have hs1 := hw1.size
        exact rf_fin (a := 0) (b := 0) (c := -(1 + x)) (d := 0) (t := 2) (by simp) (by (repeat' (first | with_reducible exact Below.refl _ _ | with_reducible assumption | with_reducible apply Below.setCell | with_reducible apply Below.alloc | with_reducible apply Below.drew | with_reducible apply below_drewN | with_reducible exact Nat.le_refl _ | (simp; done) | (simp; omega) | omega | exact Nat.le_refl _))) (by unfold mayR; exact decide_eq_false (by omega)) (by simp) (by simp) (by simp) (by simp) (by simp)
      · go_wp2_with fail
        go_meet
        have hs1 := hw1.size
        exact rf_fin (a := 0) (b := 0) (c := 0) (d := -(1 + x)) (t := 2) (by simp) (by (repeat' (first | with_reducible exact Below.refl _ _ | with_reducible assumption | with_reducible apply Below.setCell | with_reducible apply Below.alloc | with_reducible apply Below.drew | with_reducible apply below_drewN | with_reducible exact Nat.le_refl _ | (simp; done) | (simp; omega) | omega | exact Nat.le_refl _))) (by unfold mayR; exact decide_eq_false (by omega)) (by simp) (by simp) (by simp) (by simp) (by simp)
    · rcases hq4'.out with rfl | rfl | rfl | rfl
      · go_wp2_with fail
        go_meet
        have hs1 := hw1.size
        exact rf_fin (a := 32 + (1 + x)) (b := 0) (c := 0) (d := 0) (t := 2) (by simp) (by (repeat' (first | with_reducible exact Below.refl _ _ | with_reducible assumption | with_reducible apply Below.setCell | with_reducible apply Below.alloc | with_reducible apply Below.drew | with_reducible apply below_drewN | with_reducible exact Nat.le_refl _ | (simp; done) | (simp; omega) | omega | exact Nat.le_refl _))) (by unfold mayR; exact decide_eq_false (by omega)) (by simp) (by simp) (by simp) (by simp) (by simp)
      · go_wp2_with fail
        go_meet
        have hs1 := hw1.size
        exact rf_fin (a := 0) (b := 32 + (1 + x)) (c := 0) (d := 0) (t := 2) (by simp) (by (repeat' (first | with_reducible exact Below.refl _ _ | with_reducible assumption | with_reducible apply Below.setCell | with_reducible apply Below.alloc | with_reducible apply Below.drew | with_reducible apply below_drewN | with_reducible exact Nat.le_refl _ | (simp; done) | (simp; omega) | omega | exact Nat.le_refl _))) (by unfold mayR; exact decide_eq_false (by omega)) (by simp) (by simp) (by simp) (by simp) (by simp)
      · go_wp2_with fail
        go_meet
        have hs1 := hw1.size
        exact rf_fin (a := 0) (b := 0) (c := 32 + (1 + x)) (d := 0) (t := 2) (by simp) (by (repeat' (first | with_reducible exact Below.refl _ _ | with_reducible assumption | with_reducible apply Below.setCell | with_reducible apply Below.alloc | with_reducible apply Below.drew | with_reducible apply below_drewN | with_reducible exact Nat.le_refl _ | (simp; done) | (simp; omega) | omega | exact Nat.le_refl _))) (by unfold mayR; exact decide_eq_false (by omega)) (by simp) (by simp) (by simp) (by simp) (by simp)
      · go_wp2_with fail
        go_meet
        have hs1 := hw1.size
        exact rf_fin (a := 0) (b := 0) (c := 0) (d := 32 + (1 + x)) (t := 2) (by simp) (by (repeat' (first | with_reducible exact Below.refl _ _ | with_reducible assumption | with_reducible apply Below.setCell | with_reducible apply Below.alloc | with_reducible apply Below.drew | with_reducible apply below_drewN | with_reducible exact Nat.le_refl _ | (simp; done) | (simp; omega) | omega | exact Nat.le_refl _))) (by unfold mayR; exact decide_eq_false (by omega)) (by simp) (by simp) (by simp) (by simp) (by simp)
  case rest =>
    obtain ⟨g, a, b, c, d, t, rfl, hg, hmay, r0_0, r1_0, r2_0, r3_0, r4_0, hbx⟩ := hcut
    have hmay' := Lib.hid hmay; clear hmay
    go_wp2_with fail
    refine (text_bad _ hmay'.out).mono ?_
    rintro e y1 ⟨rfl, hw1⟩
    have z1 : g < y1.heap.size := by have := hw1.size; (try simp at this); omega
    have r0_1 : y1.cell? ⟨g, 0, none⟩ = some (.int .i64 a) := carry hw1 (by first | omega | (simp; done) | (simp; omega)) (carry (by (repeat' (first | with_reducible exact Below.refl _ _ | with_reducible assumption | with_reducible apply Below.setCell | with_reducible apply Below.alloc | with_reducible apply Below.drew | with_reducible apply below_drewN | with_reducible exact Nat.le_refl _ | (simp; done) | (simp; omega) | omega | exact Nat.le_refl _))) hg r0_0)
    have r1_1 : y1.cell? ⟨g, 1, none⟩ = some (.int .i64 b) := carry hw1 (by first | omega | (simp; done) | (simp; omega)) (carry (by (repeat' (first | with_reducible exact Below.refl _ _ | with_reducible assumption | with_reducible apply Below.setCell | with_reducible apply Below.alloc | with_reducible apply Below.drew | with_reducible apply below_drewN | with_reducible exact Nat.le_refl _ | (simp; done) | (simp; omega) | omega | exact Nat.le_refl _))) hg r1_0)
    have r2_1 : y1.cell? ⟨g, 2, none⟩ = some (.int .i64 c) := carry hw1 (by first | omega | (simp; done) | (simp; omega)) (carry (by (repeat' (first | with_reducible exact Below.refl _ _ | with_reducible assumption | with_reducible apply Below.setCell | with_reducible apply Below.alloc | with_reducible apply Below.drew | with_reducible apply below_drewN | with_reducible exact Nat.le_refl _ | (simp; done) | (simp; omega) | omega | exact Nat.le_refl _))) hg r2_0)
    have r3_1 : y1.cell? ⟨g, 3, none⟩ = some (.int .i64 d) := carry hw1 (by first | omega | (simp; done) | (simp; omega)) (carry (by (repeat' (first | with_reducible exact Below.refl _ _ | with_reducible assumption | with_reducible apply Below.setCell | with_reducible apply Below.alloc | with_reducible apply Below.drew | with_reducible apply below_drewN | with_reducible exact Nat.le_refl _ | (simp; done) | (simp; omega) | omega | exact Nat.le_refl _))) hg r3_0)
    have r4_1 : y1.cell? ⟨g, 4, none⟩ = some (.int .i64 t) := carry hw1 (by first | omega | (simp; done) | (simp; omega)) (carry (by (repeat' (first | with_reducible exact Below.refl _ _ | with_reducible assumption | with_reducible apply Below.setCell | with_reducible apply Below.alloc | with_reducible apply Below.drew | with_reducible apply below_drewN | with_reducible exact Nat.le_refl _ | (simp; done) | (simp; omega) | omega | exact Nat.le_refl _))) hg r4_0)
    have zf1 : wc.heap.size + 1 < y1.heap.size := by have := hw1.size; (try simp at this); omega
    have zg1 : wc.heap.size < y1.heap.size := by omega
    have g0_1 : y1.cell? ⟨wc.heap.size, 0, none⟩ = some (.int .i64 0) := carry hw1 (by first | omega | (simp; done) | (simp; omega)) (by simp)
    have g1_1 : y1.cell? ⟨wc.heap.size, 1, none⟩ = some (.int .i64 0) := carry hw1 (by first | omega | (simp; done) | (simp; omega)) (by simp)
    have g2_1 : y1.cell? ⟨wc.heap.size, 2, none⟩ = some (.int .i64 0) := carry hw1 (by first | omega | (simp; done) | (simp; omega)) (by simp)
    have g3_1 : y1.cell? ⟨wc.heap.size, 3, none⟩ = some (.int .i64 0) := carry hw1 (by first | omega | (simp; done) | (simp; omega)) (by simp)
    have g4_1 : y1.cell? ⟨wc.heap.size, 4, none⟩ = some (.int .i64 2) := carry hw1 (by first | omega | (simp; done) | (simp; omega)) (by simp)
    have f0_1 : y1.cell? ⟨wc.heap.size + 1, 0, none⟩ = some (.int .i64 0) := carry hw1 (by first | omega | (simp; done) | (simp; omega)) (by simp)
    have f1_1 : y1.cell? ⟨wc.heap.size + 1, 1, none⟩ = some (.int .i64 32) := carry hw1 (by first | omega | (simp; done) | (simp; omega)) (by simp)
    have f2_1 : y1.cell? ⟨wc.heap.size + 1, 2, none⟩ = some (.int .i64 0) := carry hw1 (by first | omega | (simp; done) | (simp; omega)) (by simp)
    have f3_1 : y1.cell? ⟨wc.heap.size + 1, 3, none⟩ = some (.int .i64 0) := carry hw1 (by first | omega | (simp; done) | (simp; omega)) (by simp)
    have f4_1 : y1.cell? ⟨wc.heap.size + 1, 4, none⟩ = some (.int .i64 2) := carry hw1 (by first | omega | (simp; done) | (simp; omega)) (by simp)
    have hsx := hbx.size
    have hB1 : Below w.heap.size w y1 := belT (belT hbx (show Below wc.heap.size wc _ by (repeat' (first | with_reducible exact Below.refl _ _ | with_reducible assumption | with_reducible apply Below.setCell | with_reducible apply Below.alloc | with_reducible apply Below.drew | with_reducible apply below_drewN | with_reducible exact Nat.le_refl _ | (simp; done) | (simp; omega) | omega | exact Nat.le_refl _)))) hw1
    clear hw1
    go_wp2_with fail
    refine (with_bad _ (by unfold withOk; rw [hmay'.out]; rfl)).mono ?_
    rintro e y2 ⟨rfl, hw2⟩
    have hx2 : Below y1.heap.size y1 y2 := belT (by (repeat' (first | with_reducible exact Below.refl _ _ | with_reducible assumption | with_reducible apply Below.setCell | with_reducible apply Below.alloc | with_reducible apply Below.drew | with_reducible apply below_drewN | with_reducible exact Nat.le_refl _ | (simp; done) | (simp; omega) | omega | exact Nat.le_refl _))) hw2
    have z2 : g < y2.heap.size := by have := hx2.size; (try simp at this); omega
    have r0_2 : y2.cell? ⟨g, 0, none⟩ = some (.int .i64 a) := carry hx2 (by first | omega | (simp; done) | (simp; omega)) (r0_1)
    have r1_2 : y2.cell? ⟨g, 1, none⟩ = some (.int .i64 b) := carry hx2 (by first | omega | (simp; done) | (simp; omega)) (r1_1)
    have r2_2 : y2.cell? ⟨g, 2, none⟩ = some (.int .i64 c) := carry hx2 (by first | omega | (simp; done) | (simp; omega)) (r2_1)
    have r3_2 : y2.cell? ⟨g, 3, none⟩ = some (.int .i64 d) := carry hx2 (by first | omega | (simp; done) | (simp; omega)) (r3_1)
    have r4_2 : y2.cell? ⟨g, 4, none⟩ = some (.int .i64 t) := carry hx2 (by first | omega | (simp; done) | (simp; omega)) (r4_1)
    have zf2 : wc.heap.size + 1 < y2.heap.size := by have := hx2.size; (try simp at this); omega
    have zg2 : wc.heap.size < y2.heap.size := by omega
    have g0_2 : y2.cell? ⟨wc.heap.size, 0, none⟩ = some (.int .i64 0) := carry hx2 (by first | omega | (simp; done) | (simp; omega)) (g0_1)
    have g1_2 : y2.cell? ⟨wc.heap.size, 1, none⟩ = some (.int .i64 0) := carry hx2 (by first | omega | (simp; done) | (simp; omega)) (g1_1)
    have g2_2 : y2.cell? ⟨wc.heap.size, 2, none⟩ = some (.int .i64 0) := carry hx2 (by first | omega | (simp; done) | (simp; omega)) (g2_1)
    have g3_2 : y2.cell? ⟨wc.heap.size, 3, none⟩ = some (.int .i64 0) := carry hx2 (by first | omega | (simp; done) | (simp; omega)) (g3_1)
    have g4_2 : y2.cell? ⟨wc.heap.size, 4, none⟩ = some (.int .i64 2) := carry hx2 (by first | omega | (simp; done) | (simp; omega)) (g4_1)
    have f0_2 : y2.cell? ⟨wc.heap.size + 1, 0, none⟩ = some (.int .i64 0) := carry hx2 (by first | omega | (simp; done) | (simp; omega)) (f0_1)
    have f1_2 : y2.cell? ⟨wc.heap.size + 1, 1, none⟩ = some (.int .i64 32) := carry hx2 (by first | omega | (simp; done) | (simp; omega)) (f1_1)
    have f2_2 : y2.cell? ⟨wc.heap.size + 1, 2, none⟩ = some (.int .i64 0) := carry hx2 (by first | omega | (simp; done) | (simp; omega)) (f2_1)
    have f3_2 : y2.cell? ⟨wc.heap.size + 1, 3, none⟩ = some (.int .i64 0) := carry hx2 (by first | omega | (simp; done) | (simp; omega)) (f3_1)
    have f4_2 : y2.cell? ⟨wc.heap.size + 1, 4, none⟩ = some (.int .i64 2) := carry hx2 (by first | omega | (simp; done) | (simp; omega)) (f4_1)
    have hB2 : Below w.heap.size w y2 := belT hB1 hx2
    clear hw2 hx2
    clear r0_1 f0_1 g0_1 r1_1 f1_1 g1_1 r2_1 f2_1 g2_1 r3_1 f3_1 g3_1 r4_1 f4_1 g4_1
    go_wp2_with fail
    refine (ru_bad _ (by unfold ruOk; rw [hmay'.out]; rfl)).mono ?_
    rintro e y3 ⟨⟨v3, rfl⟩, hw3⟩
    have hx3 : Below y2.heap.size y2 y3 := belT (by (repeat' (first | with_reducible exact Below.refl _ _ | with_reducible assumption | with_reducible apply Below.setCell | with_reducible apply Below.alloc | with_reducible apply Below.drew | with_reducible apply below_drewN | with_reducible exact Nat.le_refl _ | (simp; done) | (simp; omega) | omega | exact Nat.le_refl _))) hw3
    have z3 : g < y3.heap.size := by have := hx3.size; (try simp at this); omega
    have r0_3 : y3.cell? ⟨g, 0, none⟩ = some (.int .i64 a) := carry hx3 (by first | omega | (simp; done) | (simp; omega)) (r0_2)
    have r1_3 : y3.cell? ⟨g, 1, none⟩ = some (.int .i64 b) := carry hx3 (by first | omega | (simp; done) | (simp; omega)) (r1_2)
    have r2_3 : y3.cell? ⟨g, 2, none⟩ = some (.int .i64 c) := carry hx3 (by first | omega | (simp; done) | (simp; omega)) (r2_2)
    have r3_3 : y3.cell? ⟨g, 3, none⟩ = some (.int .i64 d) := carry hx3 (by first | omega | (simp; done) | (simp; omega)) (r3_2)
    have r4_3 : y3.cell? ⟨g, 4, none⟩ = some (.int .i64 t) := carry hx3 (by first | omega | (simp; done) | (simp; omega)) (r4_2)
    have zf3 : wc.heap.size + 1 < y3.heap.size := by have := hx3.size; (try simp at this); omega
    have zg3 : wc.heap.size < y3.heap.size := by omega
    have g0_3 : y3.cell? ⟨wc.heap.size, 0, none⟩ = some (.int .i64 0) := carry hx3 (by first | omega | (simp; done) | (simp; omega)) (g0_2)
    have g1_3 : y3.cell? ⟨wc.heap.size, 1, none⟩ = some (.int .i64 0) := carry hx3 (by first | omega | (simp; done) | (simp; omega)) (g1_2)
    have g2_3 : y3.cell? ⟨wc.heap.size, 2, none⟩ = some (.int .i64 0) := carry hx3 (by first | omega | (simp; done) | (simp; omega)) (g2_2)
    have g3_3 : y3.cell? ⟨wc.heap.size, 3, none⟩ = some (.int .i64 0) := carry hx3 (by first | omega | (simp; done) | (simp; omega)) (g3_2)
    have g4_3 : y3.cell? ⟨wc.heap.size, 4, none⟩ = some (.int .i64 2) := carry hx3 (by first | omega | (simp; done) | (simp; omega)) (g4_2)
    have f0_3 : y3.cell? ⟨wc.heap.size + 1, 0, none⟩ = some (.int .i64 0) := carry hx3 (by first | omega | (simp; done) | (simp; omega)) (f0_2)
    have f1_3 : y3.cell? ⟨wc.heap.size + 1, 1, none⟩ = some (.int .i64 32) := carry hx3 (by first | omega | (simp; done) | (simp; omega)) (f1_2)
    have f2_3 : y3.cell? ⟨wc.heap.size + 1, 2, none⟩ = some (.int .i64 0) := carry hx3 (by first | omega | (simp; done) | (simp; omega)) (f2_2)
    have f3_3 : y3.cell? ⟨wc.heap.size + 1, 3, none⟩ = some (.int .i64 0) := carry hx3 (by first | omega | (simp; done) | (simp; omega)) (f3_2)
    have f4_3 : y3.cell? ⟨wc.heap.size + 1, 4, none⟩ = some (.int .i64 2) := carry hx3 (by first | omega | (simp; done) | (simp; omega)) (f4_2)
    have hB3 : Below w.heap.size w y3 := belT hB2 hx3
    clear hw3 hx3
    clear r0_2 f0_2 g0_2 r1_2 f1_2 g1_2 r2_2 f2_2 g2_2 r3_2 f3_2 g3_2 r4_2 f4_2 g4_2
    go_wp2_with fail
    refine (ru_bad _ (by unfold ruOk; rw [hmay'.out, Bool.and_false]; rfl)).mono ?_
    rintro e y4 ⟨⟨v4, rfl⟩, hw4⟩
    have hx4 : Below y3.heap.size y3 y4 := belT (by (repeat' (first | with_reducible exact Below.refl _ _ | with_reducible assumption | with_reducible apply Below.setCell | with_reducible apply Below.alloc | with_reducible apply Below.drew | with_reducible apply below_drewN | with_reducible exact Nat.le_refl _ | (simp; done) | (simp; omega) | omega | exact Nat.le_refl _))) hw4
    have z4 : g < y4.heap.size := by have := hx4.size; (try simp at this); omega
    have r0_4 : y4.cell? ⟨g, 0, none⟩ = some (.int .i64 a) := carry hx4 (by first | omega | (simp; done) | (simp; omega)) (r0_3)
    have r1_4 : y4.cell? ⟨g, 1, none⟩ = some (.int .i64 b) := carry hx4 (by first | omega | (simp; done) | (simp; omega)) (r1_3)
    have r2_4 : y4.cell? ⟨g, 2, none⟩ = some (.int .i64 c) := carry hx4 (by first | omega | (simp; done) | (simp; omega)) (r2_3)
    have r3_4 : y4.cell? ⟨g, 3, none⟩ = some (.int .i64 d) := carry hx4 (by first | omega | (simp; done) | (simp; omega)) (r3_3)
    have r4_4 : y4.cell? ⟨g, 4, none⟩ = some (.int .i64 t) := carry hx4 (by first | omega | (simp; done) | (simp; omega)) (r4_3)
    have zf4 : wc.heap.size + 1 < y4.heap.size := by have := hx4.size; (try simp at this); omega
    have zg4 : wc.heap.size < y4.heap.size := by omega
    have g0_4 : y4.cell? ⟨wc.heap.size, 0, none⟩ = some (.int .i64 0) := carry hx4 (by first | omega | (simp; done) | (simp; omega)) (g0_3)
    have g1_4 : y4.cell? ⟨wc.heap.size, 1, none⟩ = some (.int .i64 0) := carry hx4 (by first | omega | (simp; done) | (simp; omega)) (g1_3)
    have g2_4 : y4.cell? ⟨wc.heap.size, 2, none⟩ = some (.int .i64 0) := carry hx4 (by first | omega | (simp; done) | (simp; omega)) (g2_3)
    have g3_4 : y4.cell? ⟨wc.heap.size, 3, none⟩ = some (.int .i64 0) := carry hx4 (by first | omega | (simp; done) | (simp; omega)) (g3_3)
    have g4_4 : y4.cell? ⟨wc.heap.size, 4, none⟩ = some (.int .i64 2) := carry hx4 (by first | omega | (simp; done) | (simp; omega)) (g4_3)
    have f0_4 : y4.cell? ⟨wc.heap.size + 1, 0, none⟩ = some (.int .i64 0) := carry hx4 (by first | omega | (simp; done) | (simp; omega)) (f0_3)
    have f1_4 : y4.cell? ⟨wc.heap.size + 1, 1, none⟩ = some (.int .i64 32) := carry hx4 (by first | omega | (simp; done) | (simp; omega)) (f1_3)
    have f2_4 : y4.cell? ⟨wc.heap.size + 1, 2, none⟩ = some (.int .i64 0) := carry hx4 (by first | omega | (simp; done) | (simp; omega)) (f2_3)
    have f3_4 : y4.cell? ⟨wc.heap.size + 1, 3, none⟩ = some (.int .i64 0) := carry hx4 (by first | omega | (simp; done) | (simp; omega)) (f3_3)
    have f4_4 : y4.cell? ⟨wc.heap.size + 1, 4, none⟩ = some (.int .i64 2) := carry hx4 (by first | omega | (simp; done) | (simp; omega)) (f4_3)
    have hB4 : Below w.heap.size w y4 := belT hB3 hx4
    clear hw4 hx4
    clear r0_3 f0_3 g0_3 r1_3 f1_3 g1_3 r2_3 f2_3 g2_3 r3_3 f3_3 g3_3 r4_3 f4_3 g4_3
    go_wp2_with fail
    refine (ru_bad _ (by decide)).mono ?_
    rintro e y5 ⟨⟨v5, rfl⟩, hw5⟩
    have hx5 : Below y4.heap.size y4 y5 := belT (by (repeat' (first | with_reducible exact Below.refl _ _ | with_reducible assumption | with_reducible apply Below.setCell | with_reducible apply Below.alloc | with_reducible apply Below.drew | with_reducible apply below_drewN | with_reducible exact Nat.le_refl _ | (simp; done) | (simp; omega) | omega | exact Nat.le_refl _))) hw5
    have z5 : g < y5.heap.size := by have := hx5.size; (try simp at this); omega
    have r0_5 : y5.cell? ⟨g, 0, none⟩ = some (.int .i64 a) := carry hx5 (by first | omega | (simp; done) | (simp; omega)) (r0_4)
    have r1_5 : y5.cell? ⟨g, 1, none⟩ = some (.int .i64 b) := carry hx5 (by first | omega | (simp; done) | (simp; omega)) (r1_4)
    have r2_5 : y5.cell? ⟨g, 2, none⟩ = some (.int .i64 c) := carry hx5 (by first | omega | (simp; done) | (simp; omega)) (r2_4)
    have r3_5 : y5.cell? ⟨g, 3, none⟩ = some (.int .i64 d) := carry hx5 (by first | omega | (simp; done) | (simp; omega)) (r3_4)
    have r4_5 : y5.cell? ⟨g, 4, none⟩ = some (.int .i64 t) := carry hx5 (by first | omega | (simp; done) | (simp; omega)) (r4_4)
    have zf5 : wc.heap.size + 1 < y5.heap.size := by have := hx5.size; (try simp at this); omega
    have zg5 : wc.heap.size < y5.heap.size := by omega
    have g0_5 : y5.cell? ⟨wc.heap.size, 0, none⟩ = some (.int .i64 0) := carry hx5 (by first | omega | (simp; done) | (simp; omega)) (g0_4)
    have g1_5 : y5.cell? ⟨wc.heap.size, 1, none⟩ = some (.int .i64 0) := carry hx5 (by first | omega | (simp; done) | (simp; omega)) (g1_4)
    have g2_5 : y5.cell? ⟨wc.heap.size, 2, none⟩ = some (.int .i64 0) := carry hx5 (by first | omega | (simp; done) | (simp; omega)) (g2_4)
    have g3_5 : y5.cell? ⟨wc.heap.size, 3, none⟩ = some (.int .i64 0) := carry hx5 (by first | omega | (simp; done) | (simp; omega)) (g3_4)
    have g4_5 : y5.cell? ⟨wc.heap.size, 4, none⟩ = some (.int .i64 2) := carry hx5 (by first | omega | (simp; done) | (simp; omega)) (g4_4)
    have f0_5 : y5.cell? ⟨wc.heap.size + 1, 0, none⟩ = some (.int .i64 0) := carry hx5 (by first | omega | (simp; done) | (simp; omega)) (f0_4)
    have f1_5 : y5.cell? ⟨wc.heap.size + 1, 1, none⟩ = some (.int .i64 32) := carry hx5 (by first | omega | (simp; done) | (simp; omega)) (f1_4)
    have f2_5 : y5.cell? ⟨wc.heap.size + 1, 2, none⟩ = some (.int .i64 0) := carry hx5 (by first | omega | (simp; done) | (simp; omega)) (f2_4)
    have f3_5 : y5.cell? ⟨wc.heap.size + 1, 3, none⟩ = some (.int .i64 0) := carry hx5 (by first | omega | (simp; done) | (simp; omega)) (f3_4)
    have f4_5 : y5.cell? ⟨wc.heap.size + 1, 4, none⟩ = some (.int .i64 2) := carry hx5 (by first | omega | (simp; done) | (simp; omega)) (f4_4)
    have hB5 : Below w.heap.size w y5 := belT hB4 hx5
    clear hw5 hx5
    clear r0_4 f0_4 g0_4 r1_4 f1_4 g1_4 r2_4 f2_4 g2_4 r3_4 f3_4 g3_4 r4_4 f4_4 g4_4
    go_wp2_with fail
    refine (ru_bad _ (by unfold ruOk; rw [Bool.and_eq_false_iff]; right; exact decide_eq_false (by omega))).mono ?_
    rintro e y6 ⟨⟨v6, rfl⟩, hw6⟩
    have hx6 : Below y5.heap.size y5 y6 := belT (by (repeat' (first | with_reducible exact Below.refl _ _ | with_reducible assumption | with_reducible apply Below.setCell | with_reducible apply Below.alloc | with_reducible apply Below.drew | with_reducible apply below_drewN | with_reducible exact Nat.le_refl _ | (simp; done) | (simp; omega) | omega | exact Nat.le_refl _))) hw6
    have z6 : g < y6.heap.size := by have := hx6.size; (try simp at this); omega
    have r0_6 : y6.cell? ⟨g, 0, none⟩ = some (.int .i64 a) := carry hx6 (by first | omega | (simp; done) | (simp; omega)) (r0_5)
    have r1_6 : y6.cell? ⟨g, 1, none⟩ = some (.int .i64 b) := carry hx6 (by first | omega | (simp; done) | (simp; omega)) (r1_5)
    have r2_6 : y6.cell? ⟨g, 2, none⟩ = some (.int .i64 c) := carry hx6 (by first | omega | (simp; done) | (simp; omega)) (r2_5)
    have r3_6 : y6.cell? ⟨g, 3, none⟩ = some (.int .i64 d) := carry hx6 (by first | omega | (simp; done) | (simp; omega)) (r3_5)
    have r4_6 : y6.cell? ⟨g, 4, none⟩ = some (.int .i64 t) := carry hx6 (by first | omega | (simp; done) | (simp; omega)) (r4_5)
    have zf6 : wc.heap.size + 1 < y6.heap.size := by have := hx6.size; (try simp at this); omega
    have zg6 : wc.heap.size < y6.heap.size := by omega
    have g0_6 : y6.cell? ⟨wc.heap.size, 0, none⟩ = some (.int .i64 0) := carry hx6 (by first | omega | (simp; done) | (simp; omega)) (g0_5)
    have g1_6 : y6.cell? ⟨wc.heap.size, 1, none⟩ = some (.int .i64 0) := carry hx6 (by first | omega | (simp; done) | (simp; omega)) (g1_5)
    have g2_6 : y6.cell? ⟨wc.heap.size, 2, none⟩ = some (.int .i64 0) := carry hx6 (by first | omega | (simp; done) | (simp; omega)) (g2_5)
    have g3_6 : y6.cell? ⟨wc.heap.size, 3, none⟩ = some (.int .i64 0) := carry hx6 (by first | omega | (simp; done) | (simp; omega)) (g3_5)
    have g4_6 : y6.cell? ⟨wc.heap.size, 4, none⟩ = some (.int .i64 2) := carry hx6 (by first | omega | (simp; done) | (simp; omega)) (g4_5)
    have f0_6 : y6.cell? ⟨wc.heap.size + 1, 0, none⟩ = some (.int .i64 0) := carry hx6 (by first | omega | (simp; done) | (simp; omega)) (f0_5)
    have f1_6 : y6.cell? ⟨wc.heap.size + 1, 1, none⟩ = some (.int .i64 32) := carry hx6 (by first | omega | (simp; done) | (simp; omega)) (f1_5)
    have f2_6 : y6.cell? ⟨wc.heap.size + 1, 2, none⟩ = some (.int .i64 0) := carry hx6 (by first | omega | (simp; done) | (simp; omega)) (f2_5)
    have f3_6 : y6.cell? ⟨wc.heap.size + 1, 3, none⟩ = some (.int .i64 0) := carry hx6 (by first | omega | (simp; done) | (simp; omega)) (f3_5)
    have f4_6 : y6.cell? ⟨wc.heap.size + 1, 4, none⟩ = some (.int .i64 2) := carry hx6 (by first | omega | (simp; done) | (simp; omega)) (f4_5)
    have hB6 : Below w.heap.size w y6 := belT hB5 hx6
    clear hw6 hx6
    clear r0_5 f0_5 g0_5 r1_5 f1_5 g1_5 r2_5 f2_5 g2_5 r3_5 f3_5 g3_5 r4_5 f4_5 g4_5
    go_wp2_with fail
    refine (with_bad _ (by decide)).mono ?_
    rintro e y7 ⟨rfl, hw7⟩
    have hx7 : Below y6.heap.size y6 y7 := belT (by (repeat' (first | with_reducible exact Below.refl _ _ | with_reducible assumption | with_reducible apply Below.setCell | with_reducible apply Below.alloc | with_reducible apply Below.drew | with_reducible apply below_drewN | with_reducible exact Nat.le_refl _ | (simp; done) | (simp; omega) | omega | exact Nat.le_refl _))) hw7
    have z7 : g < y7.heap.size := by have := hx7.size; (try simp at this); omega
    have r0_7 : y7.cell? ⟨g, 0, none⟩ = some (.int .i64 a) := carry hx7 (by first | omega | (simp; done) | (simp; omega)) (r0_6)
    have r1_7 : y7.cell? ⟨g, 1, none⟩ = some (.int .i64 b) := carry hx7 (by first | omega | (simp; done) | (simp; omega)) (r1_6)
    have r2_7 : y7.cell? ⟨g, 2, none⟩ = some (.int .i64 c) := carry hx7 (by first | omega | (simp; done) | (simp; omega)) (r2_6)
    have r3_7 : y7.cell? ⟨g, 3, none⟩ = some (.int .i64 d) := carry hx7 (by first | omega | (simp; done) | (simp; omega)) (r3_6)
    have r4_7 : y7.cell? ⟨g, 4, none⟩ = some (.int .i64 t) := carry hx7 (by first | omega | (simp; done) | (simp; omega)) (r4_6)
    have zf7 : wc.heap.size + 1 < y7.heap.size := by have := hx7.size; (try simp at this); omega
    have zg7 : wc.heap.size < y7.heap.size := by omega
    have g0_7 : y7.cell? ⟨wc.heap.size, 0, none⟩ = some (.int .i64 0) := carry hx7 (by first | omega | (simp; done) | (simp; omega)) (g0_6)
    have g1_7 : y7.cell? ⟨wc.heap.size, 1, none⟩ = some (.int .i64 0) := carry hx7 (by first | omega | (simp; done) | (simp; omega)) (g1_6)
    have g2_7 : y7.cell? ⟨wc.heap.size, 2, none⟩ = some (.int .i64 0) := carry hx7 (by first | omega | (simp; done) | (simp; omega)) (g2_6)
    have g3_7 : y7.cell? ⟨wc.heap.size, 3, none⟩ = some (.int .i64 0) := carry hx7 (by first | omega | (simp; done) | (simp; omega)) (g3_6)
    have g4_7 : y7.cell? ⟨wc.heap.size, 4, none⟩ = some (.int .i64 2) := carry hx7 (by first | omega | (simp; done) | (simp; omega)) (g4_6)
    have f0_7 : y7.cell? ⟨wc.heap.size + 1, 0, none⟩ = some (.int .i64 0) := carry hx7 (by first | omega | (simp; done) | (simp; omega)) (f0_6)
    have f1_7 : y7.cell? ⟨wc.heap.size + 1, 1, none⟩ = some (.int .i64 32) := carry hx7 (by first | omega | (simp; done) | (simp; omega)) (f1_6)
    have f2_7 : y7.cell? ⟨wc.heap.size + 1, 2, none⟩ = some (.int .i64 0) := carry hx7 (by first | omega | (simp; done) | (simp; omega)) (f2_6)
    have f3_7 : y7.cell? ⟨wc.heap.size + 1, 3, none⟩ = some (.int .i64 0) := carry hx7 (by first | omega | (simp; done) | (simp; omega)) (f3_6)
    have f4_7 : y7.cell? ⟨wc.heap.size + 1, 4, none⟩ = some (.int .i64 2) := carry hx7 (by first | omega | (simp; done) | (simp; omega)) (f4_6)
    have hB7 : Below w.heap.size w y7 := belT hB6 hx7
    clear hw7 hx7
    clear r0_6 f0_6 g0_6 r1_6 f1_6 g1_6 r2_6 f2_6 g2_6 r3_6 f3_6 g3_6 r4_6 f4_6 g4_6
    go_wp2_with fail
    refine (with_bad _ (by unfold withOk; rw [Bool.and_eq_false_iff]; left; rw [Bool.and_eq_false_iff]; right; exact decide_eq_false (by omega))).mono ?_
    rintro e y8 ⟨rfl, hw8⟩
    have hx8 : Below y7.heap.size y7 y8 := belT (by (repeat' (first | with_reducible exact Below.refl _ _ | with_reducible assumption | with_reducible apply Below.setCell | with_reducible apply Below.alloc | with_reducible apply Below.drew | with_reducible apply below_drewN | with_reducible exact Nat.le_refl _ | (simp; done) | (simp; omega) | omega | exact Nat.le_refl _))) hw8
    have z8 : g < y8.heap.size := by have := hx8.size; (try simp at this); omega
    have r0_8 : y8.cell? ⟨g, 0, none⟩ = some (.int .i64 a) := carry hx8 (by first | omega | (simp; done) | (simp; omega)) (r0_7)
    have r1_8 : y8.cell? ⟨g, 1, none⟩ = some (.int .i64 b) := carry hx8 (by first | omega | (simp; done) | (simp; omega)) (r1_7)
    have r2_8 : y8.cell? ⟨g, 2, none⟩ = some (.int .i64 c) := carry hx8 (by first | omega | (simp; done) | (simp; omega)) (r2_7)
    have r3_8 : y8.cell? ⟨g, 3, none⟩ = some (.int .i64 d) := carry hx8 (by first | omega | (simp; done) | (simp; omega)) (r3_7)
    have r4_8 : y8.cell? ⟨g, 4, none⟩ = some (.int .i64 t) := carry hx8 (by first | omega | (simp; done) | (simp; omega)) (r4_7)
    have zf8 : wc.heap.size + 1 < y8.heap.size := by have := hx8.size; (try simp at this); omega
    have zg8 : wc.heap.size < y8.heap.size := by omega
    have g0_8 : y8.cell? ⟨wc.heap.size, 0, none⟩ = some (.int .i64 0) := carry hx8 (by first | omega | (simp; done) | (simp; omega)) (g0_7)
    have g1_8 : y8.cell? ⟨wc.heap.size, 1, none⟩ = some (.int .i64 0) := carry hx8 (by first | omega | (simp; done) | (simp; omega)) (g1_7)
    have g2_8 : y8.cell? ⟨wc.heap.size, 2, none⟩ = some (.int .i64 0) := carry hx8 (by first | omega | (simp; done) | (simp; omega)) (g2_7)
    have g3_8 : y8.cell? ⟨wc.heap.size, 3, none⟩ = some (.int .i64 0) := carry hx8 (by first | omega | (simp; done) | (simp; omega)) (g3_7)
    have g4_8 : y8.cell? ⟨wc.heap.size, 4, none⟩ = some (.int .i64 2) := carry hx8 (by first | omega | (simp; done) | (simp; omega)) (g4_7)
    have f0_8 : y8.cell? ⟨wc.heap.size + 1, 0, none⟩ = some (.int .i64 0) := carry hx8 (by first | omega | (simp; done) | (simp; omega)) (f0_7)
    have f1_8 : y8.cell? ⟨wc.heap.size + 1, 1, none⟩ = some (.int .i64 32) := carry hx8 (by first | omega | (simp; done) | (simp; omega)) (f1_7)
    have f2_8 : y8.cell? ⟨wc.heap.size + 1, 2, none⟩ = some (.int .i64 0) := carry hx8 (by first | omega | (simp; done) | (simp; omega)) (f2_7)
    have f3_8 : y8.cell? ⟨wc.heap.size + 1, 3, none⟩ = some (.int .i64 0) := carry hx8 (by first | omega | (simp; done) | (simp; omega)) (f3_7)
    have f4_8 : y8.cell? ⟨wc.heap.size + 1, 4, none⟩ = some (.int .i64 2) := carry hx8 (by first | omega | (simp; done) | (simp; omega)) (f4_7)
    have hB8 : Below w.heap.size w y8 := belT hB7 hx8
    clear hw8 hx8
    clear r0_7 f0_7 g0_7 r1_7 f1_7 g1_7 r2_7 f2_7 g2_7 r3_7 f3_7 g3_7 r4_7 f4_7 g4_7
    go_wp2_with fail
    refine (with_bad _ (by unfold withOk; rw [Bool.and_eq_false_iff]; left; rw [Bool.and_eq_false_iff]; right; exact decide_eq_false (by omega))).mono ?_
    rintro e y9 ⟨rfl, hw9⟩
    have hx9 : Below y8.heap.size y8 y9 := belT (by (repeat' (first | with_reducible exact Below.refl _ _ | with_reducible assumption | with_reducible apply Below.setCell | with_reducible apply Below.alloc | with_reducible apply Below.drew | with_reducible apply below_drewN | with_reducible exact Nat.le_refl _ | (simp; done) | (simp; omega) | omega | exact Nat.le_refl _))) hw9
    have z9 : g < y9.heap.size := by have := hx9.size; (try simp at this); omega
    have r0_9 : y9.cell? ⟨g, 0, none⟩ = some (.int .i64 a) := carry hx9 (by first | omega | (simp; done) | (simp; omega)) (r0_8)
    have r1_9 : y9.cell? ⟨g, 1, none⟩ = some (.int .i64 b) := carry hx9 (by first | omega | (simp; done) | (simp; omega)) (r1_8)
    have r2_9 : y9.cell? ⟨g, 2, none⟩ = some (.int .i64 c) := carry hx9 (by first | omega | (simp; done) | (simp; omega)) (r2_8)
    have r3_9 : y9.cell? ⟨g, 3, none⟩ = some (.int .i64 d) := carry hx9 (by first | omega | (simp; done) | (simp; omega)) (r3_8)
    have r4_9 : y9.cell? ⟨g, 4, none⟩ = some (.int .i64 t) := carry hx9 (by first | omega | (simp; done) | (simp; omega)) (r4_8)
    have zf9 : wc.heap.size + 1 < y9.heap.size := by have := hx9.size; (try simp at this); omega
    have zg9 : wc.heap.size < y9.heap.size := by omega
    have g0_9 : y9.cell? ⟨wc.heap.size, 0, none⟩ = some (.int .i64 0) := carry hx9 (by first | omega | (simp; done) | (simp; omega)) (g0_8)
    have g1_9 : y9.cell? ⟨wc.heap.size, 1, none⟩ = some (.int .i64 0) := carry hx9 (by first | omega | (simp; done) | (simp; omega)) (g1_8)
    have g2_9 : y9.cell? ⟨wc.heap.size, 2, none⟩ = some (.int .i64 0) := carry hx9 (by first | omega | (simp; done) | (simp; omega)) (g2_8)
    have g3_9 : y9.cell? ⟨wc.heap.size, 3, none⟩ = some (.int .i64 0) := carry hx9 (by first | omega | (simp; done) | (simp; omega)) (g3_8)
    have g4_9 : y9.cell? ⟨wc.heap.size, 4, none⟩ = some (.int .i64 2) := carry hx9 (by first | omega | (simp; done) | (simp; omega)) (g4_8)
    have f0_9 : y9.cell? ⟨wc.heap.size + 1, 0, none⟩ = some (.int .i64 0) := carry hx9 (by first | omega | (simp; done) | (simp; omega)) (f0_8)
    have f1_9 : y9.cell? ⟨wc.heap.size + 1, 1, none⟩ = some (.int .i64 32) := carry hx9 (by first | omega | (simp; done) | (simp; omega)) (f1_8)
    have f2_9 : y9.cell? ⟨wc.heap.size + 1, 2, none⟩ = some (.int .i64 0) := carry hx9 (by first | omega | (simp; done) | (simp; omega)) (f2_8)
    have f3_9 : y9.cell? ⟨wc.heap.size + 1, 3, none⟩ = some (.int .i64 0) := carry hx9 (by first | omega | (simp; done) | (simp; omega)) (f3_8)
    have f4_9 : y9.cell? ⟨wc.heap.size + 1, 4, none⟩ = some (.int .i64 2) := carry hx9 (by first | omega | (simp; done) | (simp; omega)) (f4_8)
    have hB9 : Below w.heap.size w y9 := belT hB8 hx9
    clear hw9 hx9
    clear r0_8 f0_8 g0_8 r1_8 f1_8 g1_8 r2_8 f2_8 g2_8 r3_8 f3_8 g3_8 r4_8 f4_8 g4_8
    go_wp2_with fail
    refine (may_bad _ hmay'.out).mono ?_
    rintro e y10 ⟨rfl, hw10⟩
    go_wp2_with (go_at_call 16; refine (num_any _ _ (by omega) (by omega)).mono ?_; rintro e w' ⟨rfl, rfl⟩)
    go_ret
    exact ⟨rfl, belT hB9 (belT (show Below y9.heap.size y9 _ by (repeat' (first | with_reducible exact Below.refl _ _ | with_reducible assumption | with_reducible apply Below.setCell | with_reducible apply Below.alloc | with_reducible apply Below.drew | with_reducible apply below_drewN | with_reducible exact Nat.le_refl _ | (simp; done) | (simp; omega) | omega | exact Nat.le_refl _))) hw10)⟩

theorem own : ownKnob Tryd.prog.godebug = none := by kernel_rfl
theorem laidOut : laidOutB Tryd.prog = true := by kernel_rfl
set_option maxRecDepth 100000 in
theorem contract (H : Type) (enc : TypeId × Value → H) (W : World) (base : Nat) (args : Array Value) (ds gs : List (DataW H)) (before : List MemPlace)
    (hval0 : ∀ (j : Nat) t v, Tryd.f5.params[j]? = some t → args[j]? = some v → Value.okWide Tryd.prog W .any base t v)
    (hW : DataW.Whole enc Tryd.prog Tryd.f5.params.toList Rows.rowFormsSpec.vars false W args.toList ds gs before)
    (hsz0 : (DataW.weightsEach Tryd.prog (Tryd.f5.params.toList ++ Rows.rowFormsSpec.plain.varTypes Tryd.prog) (ds ++ gs)).all (· ≤ reachBytes) = true)
    : Calls Tryd.prog 5 args W fun e W' => ∃ v, e = .returned v ∧ Rows.rowFormsSpec.post enc Tryd.prog Tryd.f5 false true false false W args v W' := by
  have hval : ∀ (j : Nat) t v, Tryd.f5.params[j]? = some t → args[j]? = some v → Value.okWide Tryd.prog W .any base t v := hval0
  have hsz : (DataW.weightsEach Tryd.prog (Tryd.f5.params.toList ++ Rows.rowFormsSpec.plain.varTypes Tryd.prog) (ds ++ gs)).all (· ≤ reachBytes) = true := hsz0
  have hW' := hW
  obtain ⟨p, q, hA0, hV, rfl, hfz, hnd⟩ := hW
  have hA : DataW.TrodAll enc Tryd.prog W 0 (fun _ => true) true Tryd.f5.params.toList args.toList ds p := hA0
  rw [Tryd.params5] at hA hval hsz
  obtain ⟨v0, vs0, d0, ds0, p0, q0, hargs, rfl, rfl, h0, r0⟩ := trodAll_cons hA
  obtain ⟨v1, vs1, d1, ds1, p1, q1, rfl, rfl, rfl, h1, r1⟩ := trodAll_cons r0
  obtain ⟨rfl, rfl, rfl⟩ := trodAll_nil r1
  obtain rfl : args = #[v0, v1] := by cases args; simp_all
  obtain ⟨rfl, rfl⟩ := trodVars_none hV
  have k0 := h0
  have lt0 : ∀ x ∈ p0, x.block < W.heap.size := by obtain ⟨m, hm⟩ := k0; exact DataW.trod_lt m _ _ _ hm
  obtain ⟨a0, rfl, rfl, rfl, m0⟩ := open_int Tryd.underlying3 (hval 0 3 v0 rfl rfl) h0
  have k1 := h1
  have lt1 : ∀ x ∈ p1, x.block < W.heap.size := by obtain ⟨m, hm⟩ := k1; exact DataW.trod_lt m _ _ _ hm
  obtain ⟨a1, rfl, rfl, rfl, m1⟩ := open_int Tryd.underlying3 (hval 1 3 v1 rfl rfl) h1
  clear hA0 hval0
  refine (walk a0 a1 W (bd_i64 m0) (bd_i64 m1)).mono fun e W' ⟨he, bel⟩ => ?_
  subst he
  exact ⟨_, rfl, _, _, _, [], _, [], hW', trodAll_mk1 (shut_bool Tryd.underlying4 _), (trodAll_cons_mk (Below.trod laidOut (by kernel_rfl) (of_decide_eq_true (by kernel_rfl)) k0 bel lt0) (trodAll_cons_mk (Below.trod laidOut (by kernel_rfl) (of_decide_eq_true (by kernel_rfl)) k1 bel lt1) trodAll_mk0)), rfl, bel.frame _, fun h => by cases h⟩
noncomputable def laidWorld (os : Os) : World := { World.holding Tryd.prog os ⟨#[], #[], []⟩ with heap := layAll Tryd.prog Rows.rowFormsRow.laid (World.holding Tryd.prog os ⟨#[], #[], []⟩).heap }
theorem laid_met (os : Os) : laidMet Tryd.prog Rows.rowFormsRow.laid ((laidWorld os).forCall (fun _ _ => 0) ⟨#[], #[.int .i64 0, .int .i64 0], []⟩).memory := laidMet_of_run' 8 (by kernel_rfl) (by kernel_rfl)
theorem reads (os : Os) {H : Type} (enc : TypeId × Value → H) : ∃ places, DataW.whole enc Tryd.prog ((laidWorld os).forCall (fun _ _ => 0) ⟨#[], #[.int .i64 0, .int .i64 0], []⟩).memory Tryd.f5.params.toList Rows.rowFormsSpec.vars false #[(.int .i64 0 : Value), (.int .i64 0 : Value)].toList 8 = some ([.lit (.int .i64 0), .lit (.int .i64 0)], [], places) := ⟨[], by kernel_rfl⟩
set_option maxRecDepth 100000 in
theorem lifted (os : Os) (started : os.Started) (H : Type) (enc : TypeId × Value → H) (F : Stop.Interp) :
    ReturnsInHanded {} Tryd.checked os 5 .any ((OpenSpec.ofChange Rows.rowFormsSpec).preRow enc Tryd.prog Tryd.f5 Rows.rowFormsRow.domain false Rows.rowFormsRow.laid) (((OpenSpec.ofChange Rows.rowFormsSpec).at F).post enc Tryd.prog Tryd.f5 false true false false) := by
  obtain ⟨places, hx⟩ := reads os enc
  refine returnsInHanded_of_row (C := Tryd.checked) (s := (OpenSpec.ofChange Rows.rowFormsSpec)) own started (by kernel_rfl) Tryd.func5
    (witness_row_at (enc := enc) (C := Tryd.checked) false (laidWorld os) #[.int .i64 0, .int .i64 0] rfl (by kernel_rfl) (by kernel_rfl) (by kernel_rfl)
      (OpenSpec.preRow_of_cond 8 hx (by kernel_rfl) (fun k hk => by cases hk) (by kernel_rfl) (laid_met os))) ?_
  intro W base args ds gs before hval hW _ hcnd hsz hL _ _
  exact contract H enc W base args ds gs before hval hW hsz  
theorem said : Rows.RowFormsSaid :=
  OpenClaim.holds_of_cond 5 Tryd.f5 rfl rfl rfl rfl rfl rfl rfl ⟨rfl, rfl, rfl, rfl, rfl⟩ rfl rfl rfl rfl rfl (by kernel_rfl) Tryd.func5 (by kernel_rfl)
    (of_decide_eq_true (by kernel_rfl)) (by unfold Func.isWrapper; first | (rw [if_pos (by decide +kernel)]; kernel_rfl) | (rw [if_neg (by decide +kernel)]; exact ⟨rfl, rfl⟩))
    (fun os started H enc _ F => by rw [OpenClaim.pre_eq_preRow]; exact lifted os started H enc F)
theorem plain (f : FuncId) (fn : Func) (hf : Tryd.pinned.checked.prog.funcNamed "trammel/trammellaw8.RowForms" = some f) (hfn : Tryd.pinned.checked.prog.funcs[f]? = some fn) :
    false = Tryd.pinned.checked.prog.looks [] ∧ ∀ (j : Nat) t, fn.params[j]? = some t → Tryd.pinned.checked.prog.wantsStandIn t = false := by
  obtain rfl : f = 5 := Option.some.inj ((show Tryd.prog.funcNamed "trammel/trammellaw8.RowForms" = some 5 by kernel_rfl).symm.trans hf) |>.symm
  obtain rfl : fn = Tryd.f5 := (Option.some.inj (Tryd.func5.symm.trans hfn)).symm
  refine ⟨by kernel_rfl, fun j t ht => ?_⟩
  rw [Tryd.params5] at ht
  have hm := Array.mem_of_getElem? ht
  have hm2 : t ∈ ([3] : List Nat) := by simpa using hm
  simp only [List.mem_cons, List.not_mem_nil, or_false] at hm2
  subst hm2; exact (show Tryd.prog.wantsStandIn 3 = false by kernel_rfl)
theorem proved : Rows.RowFormsCardSaid :=
  Claim7.holds_tied_plain_at .later [] _ _ _ _ said (fun _ h => by cases h) (by kernel_rfl) (fun _ h => by cases h) rowForms_row_tie rfl ⟨rfl, rfl⟩ (by kernel_rfl) rfl plain (by kernel_rfl)
end Go.Proofs.YtlbopoidjnaokaaDoor.rowForms
