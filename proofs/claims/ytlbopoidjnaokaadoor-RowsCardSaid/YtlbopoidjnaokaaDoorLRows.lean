/- Rows holds for every two rows and numbers. No condition but that the listed package variables hold what the program's text lays. -/
import Derived.Test.YtlbopoidjnaokaaDoorRuA
import Derived.Test.YtlbopoidjnaokaaDoorRtA
import Derived.Test.YtlbopoidjnaokaaDoorSpB
import Derived.Test.YtlbopoidjnaokaaDoorAid
import Derived.Test.YtlbopoidjnaokaaDoorCards
import Derived.Test.YtlbopoidjnaokaaDoorTie
import Derived.Test.YtlbopoidjnaokaaDoorOpn
import Derived.Test.YtlbopoidjnaokaaDoorCrd
import Derived.WalkKit
import Derived.ProofKit
import Derived.Deep.DeepHandedRow
namespace Go.Proofs.YtlbopoidjnaokaaDoor.rows
open Go.ChangeShapes Go.WideShapes Go.ChangeAt Go.RowKit
open Go.ChangeMaps (open_string shut_string)
set_option linter.unusedVariables false
set_option linter.unusedSimpArgs false

theorem e_bd (a b c d t a' b' c' d' t' f : Int) : 0 ≤ ruE a b c d t a' b' c' d' t' f ∧ ruE a b c d t a' b' c' d' t' f ≤ 9223372036854775807 := by
  unfold ruE; (repeat' split) <;> omega
theorem rt_bd (a b c d t : Int) : 0 ≤ rtE a b c d t ∧ rtE a b c d t ≤ 9223372036854775807 := by
  unfold rtE; (repeat' split) <;> omega
theorem wi_bd (a b c d t op : Int) : 0 ≤ withE a b c d t op ∧ withE a b c d t op ≤ 9223372036854775807 := by
  unfold withE; (repeat' split) <;> omega
theorem wi_agg (a b c d t op : Int) : ∃ x0 x1 x2 x3 x4, withV a b c d t op = .agg #[.int .i64 x0, .int .i64 x1, .int .i64 x2, .int .i64 x3, .int .i64 x4] := by
  unfold withV rowV; split <;> exact ⟨_, _, _, _, _, rfl⟩
def KeepR (w : World) (g h : Nat) (v1 v2 : Value) (L : List Bd) (W : World) : Prop := Below w.heap.size w W ∧ w.heap.size < W.heap.size ∧ g < W.heap.size ∧ h < W.heap.size ∧ BdsJs w.heap.size W v1 L ∧ BdsJs w.heap.size W v2 L
theorem kr_step {w W w1 : World} {g h : Nat} {v1 v2 : Value} {L : List Bd} {a b c d t x0 x1 x2 x3 x4 : Int} (hS : W.cell? ⟨w.heap.size, 0, none⟩ = some (.int .i64 a) ∧ W.cell? ⟨w.heap.size, 1, none⟩ = some (.int .i64 b) ∧ W.cell? ⟨w.heap.size, 2, none⟩ = some (.int .i64 c) ∧ W.cell? ⟨w.heap.size, 3, none⟩ = some (.int .i64 d) ∧ W.cell? ⟨w.heap.size, 4, none⟩ = some (.int .i64 t) ∧ W.cell? ⟨g, 0, none⟩ = some (.int .i64 x0) ∧ W.cell? ⟨g, 1, none⟩ = some (.int .i64 x1) ∧ W.cell? ⟨g, 2, none⟩ = some (.int .i64 x2) ∧ W.cell? ⟨g, 3, none⟩ = some (.int .i64 x3) ∧ W.cell? ⟨g, 4, none⟩ = some (.int .i64 x4) ∧ W.cell? ⟨h, 0, none⟩ = some (.int .i64 x0) ∧ W.cell? ⟨h, 1, none⟩ = some (.int .i64 x1) ∧ W.cell? ⟨h, 2, none⟩ = some (.int .i64 x2) ∧ W.cell? ⟨h, 3, none⟩ = some (.int .i64 x3) ∧ W.cell? ⟨h, 4, none⟩ = some (.int .i64 x4) ∧ KeepR w g h v1 v2 L W) (hb : Below W.heap.size W w1) : w1.cell? ⟨w.heap.size, 0, none⟩ = some (.int .i64 a) ∧ w1.cell? ⟨w.heap.size, 1, none⟩ = some (.int .i64 b) ∧ w1.cell? ⟨w.heap.size, 2, none⟩ = some (.int .i64 c) ∧ w1.cell? ⟨w.heap.size, 3, none⟩ = some (.int .i64 d) ∧ w1.cell? ⟨w.heap.size, 4, none⟩ = some (.int .i64 t) ∧ w1.cell? ⟨g, 0, none⟩ = some (.int .i64 x0) ∧ w1.cell? ⟨g, 1, none⟩ = some (.int .i64 x1) ∧ w1.cell? ⟨g, 2, none⟩ = some (.int .i64 x2) ∧ w1.cell? ⟨g, 3, none⟩ = some (.int .i64 x3) ∧ w1.cell? ⟨g, 4, none⟩ = some (.int .i64 x4) ∧ w1.cell? ⟨h, 0, none⟩ = some (.int .i64 x0) ∧ w1.cell? ⟨h, 1, none⟩ = some (.int .i64 x1) ∧ w1.cell? ⟨h, 2, none⟩ = some (.int .i64 x2) ∧ w1.cell? ⟨h, 3, none⟩ = some (.int .i64 x3) ∧ w1.cell? ⟨h, 4, none⟩ = some (.int .i64 x4) ∧ KeepR w g h v1 v2 L w1 := by
  obtain ⟨a0, a1, a2, a3, a4, b0, b1, b2, b3, b4, c0, c1, c2, c3, c4, hk, hw, hg, hh, j1, j2⟩ := hS
  have := hb.size
  exact ⟨carry hb hw a0, carry hb hw a1, carry hb hw a2, carry hb hw a3, carry hb hw a4, carry hb hg b0, carry hb hg b1, carry hb hg b2, carry hb hg b3, carry hb hg b4, carry hb hh c0, carry hb hh c1, carry hb hh c2, carry hb hh c3, carry hb hh c4, belT hk hb, by omega, by omega, by omega, bdsJs_below j1 hb, bdsJs_below j2 hb⟩
theorem kr_keep {w W : World} {g h : Nat} {v1 v2 : Value} {L : List Bd} {a b c d t x0 x1 x2 x3 x4 : Int} (hS : W.cell? ⟨w.heap.size, 0, none⟩ = some (.int .i64 a) ∧ W.cell? ⟨w.heap.size, 1, none⟩ = some (.int .i64 b) ∧ W.cell? ⟨w.heap.size, 2, none⟩ = some (.int .i64 c) ∧ W.cell? ⟨w.heap.size, 3, none⟩ = some (.int .i64 d) ∧ W.cell? ⟨w.heap.size, 4, none⟩ = some (.int .i64 t) ∧ W.cell? ⟨g, 0, none⟩ = some (.int .i64 x0) ∧ W.cell? ⟨g, 1, none⟩ = some (.int .i64 x1) ∧ W.cell? ⟨g, 2, none⟩ = some (.int .i64 x2) ∧ W.cell? ⟨g, 3, none⟩ = some (.int .i64 x3) ∧ W.cell? ⟨g, 4, none⟩ = some (.int .i64 x4) ∧ W.cell? ⟨h, 0, none⟩ = some (.int .i64 x0) ∧ W.cell? ⟨h, 1, none⟩ = some (.int .i64 x1) ∧ W.cell? ⟨h, 2, none⟩ = some (.int .i64 x2) ∧ W.cell? ⟨h, 3, none⟩ = some (.int .i64 x3) ∧ W.cell? ⟨h, 4, none⟩ = some (.int .i64 x4) ∧ KeepR w g h v1 v2 L W) : KeepR w g h v1 v2 L W := hS.2.2.2.2.2.2.2.2.2.2.2.2.2.2.2

set_option maxRecDepth 100000 in
set_option maxHeartbeats 8000000 in
theorem walk (a b c d t a' b' c' d' t' fr op : Int) (w : World) (b0 : -9223372036854775808 ≤ a ∧ a ≤ 9223372036854775807) (b1 : -9223372036854775808 ≤ b ∧ b ≤ 9223372036854775807) (b2 : -9223372036854775808 ≤ c ∧ c ≤ 9223372036854775807) (b3 : -9223372036854775808 ≤ d ∧ d ≤ 9223372036854775807) (b4 : -9223372036854775808 ≤ t ∧ t ≤ 9223372036854775807)
    (b0' : -9223372036854775808 ≤ a' ∧ a' ≤ 9223372036854775807) (b1' : -9223372036854775808 ≤ b' ∧ b' ≤ 9223372036854775807) (b2' : -9223372036854775808 ≤ c' ∧ c' ≤ 9223372036854775807) (b3' : -9223372036854775808 ≤ d' ∧ d' ≤ 9223372036854775807) (b4' : -9223372036854775808 ≤ t' ∧ t' ≤ 9223372036854775807) (bf : -9223372036854775808 ≤ fr ∧ fr ≤ 9223372036854775807) (bo : -9223372036854775808 ≤ op ∧ op ≤ 9223372036854775807) :
    Calls Tryd.prog 3 #[.agg #[.int .i64 a, .int .i64 b, .int .i64 c, .int .i64 d, .int .i64 t], .agg #[.int .i64 a', .int .i64 b', .int .i64 c', .int .i64 d', .int .i64 t'], .int .i64 fr, .int .i64 op] w fun e w' => e = .returned (.bool true) ∧ Below w.heap.size w w' := by
  clear b0 b1 b2 b3 b4 b0' b1' b2' b3' b4' bf bo
  have hLl := ruL_len a b c d t a' b' c' d' t' fr
  have hEb := e_bd a b c d t a' b' c' d' t' fr
  have kU := Lib.hid fun (W : World) => rowUnify_anyJ a b c d t a' b' c' d' t' fr W
  have kV := Lib.hid fun (W : World) => runi_any a b c d t a' b' c' d' t' fr W
  generalize ruL a b c d t a' b' c' d' t' fr = L at hLl kU kV
  generalize ruE a b c d t a' b' c' d' t' fr = E at hEb kU kV
  have hGb := rt_bd a b c d t
  have kT := Lib.hid fun (W : World) => rowText_any a b c d t W
  have kS := Lib.hid fun (W : World) => rRowText_any a b c d t W
  generalize rtV a b c d t = sx at kT kS
  generalize rtE a b c d t = G at hGb kT kS
  have hIb := wi_bd a b c d t op
  have kW := Lib.hid fun (W : World) => with_any a b c d t op W
  have kX := Lib.hid fun (W : World) => rwith_any a b c d t op W
  obtain ⟨x0, x1, x2, x3, x4, hwx⟩ := wi_agg a b c d t op
  rw [hwx] at kW kX
  generalize withE a b c d t op = I at hIb kW kX
  clear hwx
  obtain ⟨my, hmy⟩ : ∃ y, mayR a b c d t = y := ⟨_, rfl⟩
  have kM := Lib.hid fun (W : World) => rowMay_any a b c d t W
  have kN := Lib.hid fun (W : World) => rRowMay_any a b c d t W
  rw [hmy] at kM kN
  clear hmy
  have hLl' := Lib.hid hLl; clear hLl
  go_enter Tryd.func3, Tryd.ntmps3
  go_wp2_with fail
  refine (kU.out _).mono ?_
  rintro e w1 ⟨v1, rfl, hbd1, hw1⟩
  have z1 : w.heap.size + 1 < w1.heap.size := by have := hw1.size; (try simp at this); omega
  have z1' : w.heap.size < w1.heap.size := by omega
  have r0_1 : w1.cell? ⟨w.heap.size, 0, none⟩ = some (.int .i64 a) := carry hw1 (by first | omega | (simp; done) | (simp; omega)) (by simp)
  have s0_1 : w1.cell? ⟨w.heap.size + 1, 0, none⟩ = some (.int .i64 a') := carry hw1 (by first | omega | (simp; done) | (simp; omega)) (by simp)
  have r1_1 : w1.cell? ⟨w.heap.size, 1, none⟩ = some (.int .i64 b) := carry hw1 (by first | omega | (simp; done) | (simp; omega)) (by simp)
  have s1_1 : w1.cell? ⟨w.heap.size + 1, 1, none⟩ = some (.int .i64 b') := carry hw1 (by first | omega | (simp; done) | (simp; omega)) (by simp)
  have r2_1 : w1.cell? ⟨w.heap.size, 2, none⟩ = some (.int .i64 c) := carry hw1 (by first | omega | (simp; done) | (simp; omega)) (by simp)
  have s2_1 : w1.cell? ⟨w.heap.size + 1, 2, none⟩ = some (.int .i64 c') := carry hw1 (by first | omega | (simp; done) | (simp; omega)) (by simp)
  have r3_1 : w1.cell? ⟨w.heap.size, 3, none⟩ = some (.int .i64 d) := carry hw1 (by first | omega | (simp; done) | (simp; omega)) (by simp)
  have s3_1 : w1.cell? ⟨w.heap.size + 1, 3, none⟩ = some (.int .i64 d') := carry hw1 (by first | omega | (simp; done) | (simp; omega)) (by simp)
  have r4_1 : w1.cell? ⟨w.heap.size, 4, none⟩ = some (.int .i64 t) := carry hw1 (by first | omega | (simp; done) | (simp; omega)) (by simp)
  have s4_1 : w1.cell? ⟨w.heap.size + 1, 4, none⟩ = some (.int .i64 t') := carry hw1 (by first | omega | (simp; done) | (simp; omega)) (by simp)
  have hB1 : Below w.heap.size w w1 := belT (by (repeat' (first | with_reducible exact Below.refl _ _ | with_reducible assumption | with_reducible apply Below.setCell | with_reducible apply Below.alloc | with_reducible apply Below.drew | with_reducible apply below_drewN | with_reducible exact Nat.le_refl _ | (simp; done) | (simp; omega) | omega | exact Nat.le_refl _))) hw1
  have hbd1 := Lib.hid (show BdsJs w.heap.size w1 v1 L from bdsJs_le hbd1 (by simp; omega))
  clear hw1
  go_wp2_with fail
  refine (kV.out _).mono ?_
  rintro e w2 ⟨v2, rfl, hbd2, hw2⟩
  have z2 : w.heap.size + 1 < w2.heap.size := by have := hw2.size; (try simp at this); omega
  have z2' : w.heap.size < w2.heap.size := by omega
  have r0_2 : w2.cell? ⟨w.heap.size, 0, none⟩ = some (.int .i64 a) := carry hw2 (by first | omega | (simp; omega)) (by first | exact r0_1 | exact carry (show Below w1.heap.size w1 _ from by (repeat' (first | with_reducible exact Below.refl _ _ | with_reducible assumption | with_reducible apply Below.setCell | with_reducible apply Below.alloc | with_reducible apply Below.drew | with_reducible apply below_drewN | with_reducible exact Nat.le_refl _ | (simp; done) | (simp; omega) | omega | exact Nat.le_refl _))) z1' r0_1)
  have r1_2 : w2.cell? ⟨w.heap.size, 1, none⟩ = some (.int .i64 b) := carry hw2 (by first | omega | (simp; omega)) (by first | exact r1_1 | exact carry (show Below w1.heap.size w1 _ from by (repeat' (first | with_reducible exact Below.refl _ _ | with_reducible assumption | with_reducible apply Below.setCell | with_reducible apply Below.alloc | with_reducible apply Below.drew | with_reducible apply below_drewN | with_reducible exact Nat.le_refl _ | (simp; done) | (simp; omega) | omega | exact Nat.le_refl _))) z1' r1_1)
  have r2_2 : w2.cell? ⟨w.heap.size, 2, none⟩ = some (.int .i64 c) := carry hw2 (by first | omega | (simp; omega)) (by first | exact r2_1 | exact carry (show Below w1.heap.size w1 _ from by (repeat' (first | with_reducible exact Below.refl _ _ | with_reducible assumption | with_reducible apply Below.setCell | with_reducible apply Below.alloc | with_reducible apply Below.drew | with_reducible apply below_drewN | with_reducible exact Nat.le_refl _ | (simp; done) | (simp; omega) | omega | exact Nat.le_refl _))) z1' r2_1)
  have r3_2 : w2.cell? ⟨w.heap.size, 3, none⟩ = some (.int .i64 d) := carry hw2 (by first | omega | (simp; omega)) (by first | exact r3_1 | exact carry (show Below w1.heap.size w1 _ from by (repeat' (first | with_reducible exact Below.refl _ _ | with_reducible assumption | with_reducible apply Below.setCell | with_reducible apply Below.alloc | with_reducible apply Below.drew | with_reducible apply below_drewN | with_reducible exact Nat.le_refl _ | (simp; done) | (simp; omega) | omega | exact Nat.le_refl _))) z1' r3_1)
  have r4_2 : w2.cell? ⟨w.heap.size, 4, none⟩ = some (.int .i64 t) := carry hw2 (by first | omega | (simp; omega)) (by first | exact r4_1 | exact carry (show Below w1.heap.size w1 _ from by (repeat' (first | with_reducible exact Below.refl _ _ | with_reducible assumption | with_reducible apply Below.setCell | with_reducible apply Below.alloc | with_reducible apply Below.drew | with_reducible apply below_drewN | with_reducible exact Nat.le_refl _ | (simp; done) | (simp; omega) | omega | exact Nat.le_refl _))) z1' r4_1)
  have hB2 : Below w.heap.size w w2 := belT (by (repeat' (first | with_reducible exact Below.refl _ _ | with_reducible assumption | with_reducible apply Below.setCell | with_reducible apply Below.alloc | with_reducible apply Below.drew | with_reducible apply below_drewN | with_reducible exact Nat.le_refl _ | (simp; done) | (simp; omega) | omega | exact Nat.le_refl _))) hw2
  have hbd1_2 := Lib.hid (bdsJs_below hbd1.out hw2)
  have hbd2 := Lib.hid (show BdsJs w.heap.size w2 v2 L from bdsJs_le hbd2 (by omega))
  clear hbd1
  clear r0_1 r1_1 r2_1 r3_1 r4_1 s0_1 s1_1 s2_1 s3_1 s4_1 hw2
  go_wp2_with fail
  refine (kT.out _).mono ?_
  rintro e w3 ⟨rfl, hw3⟩
  have z3 : w.heap.size + 1 < w3.heap.size := by have := hw3.size; (try simp at this); omega
  have z3' : w.heap.size < w3.heap.size := by omega
  have r0_3 : w3.cell? ⟨w.heap.size, 0, none⟩ = some (.int .i64 a) := carry hw3 (by first | omega | (simp; omega)) (by first | exact r0_2 | exact carry (show Below w2.heap.size w2 _ from by (repeat' (first | with_reducible exact Below.refl _ _ | with_reducible assumption | with_reducible apply Below.setCell | with_reducible apply Below.alloc | with_reducible apply Below.drew | with_reducible apply below_drewN | with_reducible exact Nat.le_refl _ | (simp; done) | (simp; omega) | omega | exact Nat.le_refl _))) z2' r0_2)
  have r1_3 : w3.cell? ⟨w.heap.size, 1, none⟩ = some (.int .i64 b) := carry hw3 (by first | omega | (simp; omega)) (by first | exact r1_2 | exact carry (show Below w2.heap.size w2 _ from by (repeat' (first | with_reducible exact Below.refl _ _ | with_reducible assumption | with_reducible apply Below.setCell | with_reducible apply Below.alloc | with_reducible apply Below.drew | with_reducible apply below_drewN | with_reducible exact Nat.le_refl _ | (simp; done) | (simp; omega) | omega | exact Nat.le_refl _))) z2' r1_2)
  have r2_3 : w3.cell? ⟨w.heap.size, 2, none⟩ = some (.int .i64 c) := carry hw3 (by first | omega | (simp; omega)) (by first | exact r2_2 | exact carry (show Below w2.heap.size w2 _ from by (repeat' (first | with_reducible exact Below.refl _ _ | with_reducible assumption | with_reducible apply Below.setCell | with_reducible apply Below.alloc | with_reducible apply Below.drew | with_reducible apply below_drewN | with_reducible exact Nat.le_refl _ | (simp; done) | (simp; omega) | omega | exact Nat.le_refl _))) z2' r2_2)
  have r3_3 : w3.cell? ⟨w.heap.size, 3, none⟩ = some (.int .i64 d) := carry hw3 (by first | omega | (simp; omega)) (by first | exact r3_2 | exact carry (show Below w2.heap.size w2 _ from by (repeat' (first | with_reducible exact Below.refl _ _ | with_reducible assumption | with_reducible apply Below.setCell | with_reducible apply Below.alloc | with_reducible apply Below.drew | with_reducible apply below_drewN | with_reducible exact Nat.le_refl _ | (simp; done) | (simp; omega) | omega | exact Nat.le_refl _))) z2' r3_2)
  have r4_3 : w3.cell? ⟨w.heap.size, 4, none⟩ = some (.int .i64 t) := carry hw3 (by first | omega | (simp; omega)) (by first | exact r4_2 | exact carry (show Below w2.heap.size w2 _ from by (repeat' (first | with_reducible exact Below.refl _ _ | with_reducible assumption | with_reducible apply Below.setCell | with_reducible apply Below.alloc | with_reducible apply Below.drew | with_reducible apply below_drewN | with_reducible exact Nat.le_refl _ | (simp; done) | (simp; omega) | omega | exact Nat.le_refl _))) z2' r4_2)
  have hB3 : Below w.heap.size w w3 := belT (by (repeat' (first | with_reducible exact Below.refl _ _ | with_reducible assumption | with_reducible apply Below.setCell | with_reducible apply Below.alloc | with_reducible apply Below.drew | with_reducible apply below_drewN | with_reducible exact Nat.le_refl _ | (simp; done) | (simp; omega) | omega | exact Nat.le_refl _))) hw3
  have hbd1_3 := Lib.hid (bdsJs_below hbd1_2.out hw3)
  have hbd2_3 := Lib.hid (bdsJs_below hbd2.out hw3)
  clear hbd1_2 hbd2
  clear r0_2 r1_2 r2_2 r3_2 r4_2 hw3
  go_wp2_with fail
  refine (kS.out _).mono ?_
  rintro e w4 ⟨rfl, hw4⟩
  have z4 : w.heap.size + 1 < w4.heap.size := by have := hw4.size; (try simp at this); omega
  have z4' : w.heap.size < w4.heap.size := by omega
  have r0_4 : w4.cell? ⟨w.heap.size, 0, none⟩ = some (.int .i64 a) := carry hw4 (by first | omega | (simp; omega)) (by first | exact r0_3 | exact carry (show Below w3.heap.size w3 _ from by (repeat' (first | with_reducible exact Below.refl _ _ | with_reducible assumption | with_reducible apply Below.setCell | with_reducible apply Below.alloc | with_reducible apply Below.drew | with_reducible apply below_drewN | with_reducible exact Nat.le_refl _ | (simp; done) | (simp; omega) | omega | exact Nat.le_refl _))) z3' r0_3)
  have r1_4 : w4.cell? ⟨w.heap.size, 1, none⟩ = some (.int .i64 b) := carry hw4 (by first | omega | (simp; omega)) (by first | exact r1_3 | exact carry (show Below w3.heap.size w3 _ from by (repeat' (first | with_reducible exact Below.refl _ _ | with_reducible assumption | with_reducible apply Below.setCell | with_reducible apply Below.alloc | with_reducible apply Below.drew | with_reducible apply below_drewN | with_reducible exact Nat.le_refl _ | (simp; done) | (simp; omega) | omega | exact Nat.le_refl _))) z3' r1_3)
  have r2_4 : w4.cell? ⟨w.heap.size, 2, none⟩ = some (.int .i64 c) := carry hw4 (by first | omega | (simp; omega)) (by first | exact r2_3 | exact carry (show Below w3.heap.size w3 _ from by (repeat' (first | with_reducible exact Below.refl _ _ | with_reducible assumption | with_reducible apply Below.setCell | with_reducible apply Below.alloc | with_reducible apply Below.drew | with_reducible apply below_drewN | with_reducible exact Nat.le_refl _ | (simp; done) | (simp; omega) | omega | exact Nat.le_refl _))) z3' r2_3)
  have r3_4 : w4.cell? ⟨w.heap.size, 3, none⟩ = some (.int .i64 d) := carry hw4 (by first | omega | (simp; omega)) (by first | exact r3_3 | exact carry (show Below w3.heap.size w3 _ from by (repeat' (first | with_reducible exact Below.refl _ _ | with_reducible assumption | with_reducible apply Below.setCell | with_reducible apply Below.alloc | with_reducible apply Below.drew | with_reducible apply below_drewN | with_reducible exact Nat.le_refl _ | (simp; done) | (simp; omega) | omega | exact Nat.le_refl _))) z3' r3_3)
  have r4_4 : w4.cell? ⟨w.heap.size, 4, none⟩ = some (.int .i64 t) := carry hw4 (by first | omega | (simp; omega)) (by first | exact r4_3 | exact carry (show Below w3.heap.size w3 _ from by (repeat' (first | with_reducible exact Below.refl _ _ | with_reducible assumption | with_reducible apply Below.setCell | with_reducible apply Below.alloc | with_reducible apply Below.drew | with_reducible apply below_drewN | with_reducible exact Nat.le_refl _ | (simp; done) | (simp; omega) | omega | exact Nat.le_refl _))) z3' r4_3)
  have hB4 : Below w.heap.size w w4 := belT (by (repeat' (first | with_reducible exact Below.refl _ _ | with_reducible assumption | with_reducible apply Below.setCell | with_reducible apply Below.alloc | with_reducible apply Below.drew | with_reducible apply below_drewN | with_reducible exact Nat.le_refl _ | (simp; done) | (simp; omega) | omega | exact Nat.le_refl _))) hw4
  have hbd1_4 := Lib.hid (bdsJs_below hbd1_3.out hw4)
  have hbd2_4 := Lib.hid (bdsJs_below hbd2_3.out hw4)
  clear hbd1_3 hbd2_3
  clear r0_3 r1_3 r2_3 r3_3 r4_3 hw4
  go_wp2_with fail
  refine (kW.out _).mono ?_
  rintro e w5 ⟨rfl, hw5⟩
  have z5 : w.heap.size + 1 < w5.heap.size := by have := hw5.size; (try simp at this); omega
  have z5' : w.heap.size < w5.heap.size := by omega
  have r0_5 : w5.cell? ⟨w.heap.size, 0, none⟩ = some (.int .i64 a) := carry hw5 (by first | omega | (simp; omega)) (by first | exact r0_4 | exact carry (show Below w4.heap.size w4 _ from by (repeat' (first | with_reducible exact Below.refl _ _ | with_reducible assumption | with_reducible apply Below.setCell | with_reducible apply Below.alloc | with_reducible apply Below.drew | with_reducible apply below_drewN | with_reducible exact Nat.le_refl _ | (simp; done) | (simp; omega) | omega | exact Nat.le_refl _))) z4' r0_4)
  have r1_5 : w5.cell? ⟨w.heap.size, 1, none⟩ = some (.int .i64 b) := carry hw5 (by first | omega | (simp; omega)) (by first | exact r1_4 | exact carry (show Below w4.heap.size w4 _ from by (repeat' (first | with_reducible exact Below.refl _ _ | with_reducible assumption | with_reducible apply Below.setCell | with_reducible apply Below.alloc | with_reducible apply Below.drew | with_reducible apply below_drewN | with_reducible exact Nat.le_refl _ | (simp; done) | (simp; omega) | omega | exact Nat.le_refl _))) z4' r1_4)
  have r2_5 : w5.cell? ⟨w.heap.size, 2, none⟩ = some (.int .i64 c) := carry hw5 (by first | omega | (simp; omega)) (by first | exact r2_4 | exact carry (show Below w4.heap.size w4 _ from by (repeat' (first | with_reducible exact Below.refl _ _ | with_reducible assumption | with_reducible apply Below.setCell | with_reducible apply Below.alloc | with_reducible apply Below.drew | with_reducible apply below_drewN | with_reducible exact Nat.le_refl _ | (simp; done) | (simp; omega) | omega | exact Nat.le_refl _))) z4' r2_4)
  have r3_5 : w5.cell? ⟨w.heap.size, 3, none⟩ = some (.int .i64 d) := carry hw5 (by first | omega | (simp; omega)) (by first | exact r3_4 | exact carry (show Below w4.heap.size w4 _ from by (repeat' (first | with_reducible exact Below.refl _ _ | with_reducible assumption | with_reducible apply Below.setCell | with_reducible apply Below.alloc | with_reducible apply Below.drew | with_reducible apply below_drewN | with_reducible exact Nat.le_refl _ | (simp; done) | (simp; omega) | omega | exact Nat.le_refl _))) z4' r3_4)
  have r4_5 : w5.cell? ⟨w.heap.size, 4, none⟩ = some (.int .i64 t) := carry hw5 (by first | omega | (simp; omega)) (by first | exact r4_4 | exact carry (show Below w4.heap.size w4 _ from by (repeat' (first | with_reducible exact Below.refl _ _ | with_reducible assumption | with_reducible apply Below.setCell | with_reducible apply Below.alloc | with_reducible apply Below.drew | with_reducible apply below_drewN | with_reducible exact Nat.le_refl _ | (simp; done) | (simp; omega) | omega | exact Nat.le_refl _))) z4' r4_4)
  have hB5 : Below w.heap.size w w5 := belT (by (repeat' (first | with_reducible exact Below.refl _ _ | with_reducible assumption | with_reducible apply Below.setCell | with_reducible apply Below.alloc | with_reducible apply Below.drew | with_reducible apply below_drewN | with_reducible exact Nat.le_refl _ | (simp; done) | (simp; omega) | omega | exact Nat.le_refl _))) hw5
  have hbd1_5 := Lib.hid (bdsJs_below hbd1_4.out hw5)
  have hbd2_5 := Lib.hid (bdsJs_below hbd2_4.out hw5)
  clear hbd1_4 hbd2_4
  clear r0_4 r1_4 r2_4 r3_4 r4_4 hw5
  go_wp2_with fail
  refine (kX.out _).mono ?_
  rintro e w6 ⟨rfl, hw6⟩
  have z6 : w.heap.size + 1 < w6.heap.size := by have := hw6.size; (try simp at this); omega
  have z6' : w.heap.size < w6.heap.size := by omega
  have r0_6 : w6.cell? ⟨w.heap.size, 0, none⟩ = some (.int .i64 a) := carry hw6 (by first | omega | (simp; omega)) (by first | exact r0_5 | exact carry (show Below w5.heap.size w5 _ from by (repeat' (first | with_reducible exact Below.refl _ _ | with_reducible assumption | with_reducible apply Below.setCell | with_reducible apply Below.alloc | with_reducible apply Below.drew | with_reducible apply below_drewN | with_reducible exact Nat.le_refl _ | (simp; done) | (simp; omega) | omega | exact Nat.le_refl _))) z5' r0_5)
  have r1_6 : w6.cell? ⟨w.heap.size, 1, none⟩ = some (.int .i64 b) := carry hw6 (by first | omega | (simp; omega)) (by first | exact r1_5 | exact carry (show Below w5.heap.size w5 _ from by (repeat' (first | with_reducible exact Below.refl _ _ | with_reducible assumption | with_reducible apply Below.setCell | with_reducible apply Below.alloc | with_reducible apply Below.drew | with_reducible apply below_drewN | with_reducible exact Nat.le_refl _ | (simp; done) | (simp; omega) | omega | exact Nat.le_refl _))) z5' r1_5)
  have r2_6 : w6.cell? ⟨w.heap.size, 2, none⟩ = some (.int .i64 c) := carry hw6 (by first | omega | (simp; omega)) (by first | exact r2_5 | exact carry (show Below w5.heap.size w5 _ from by (repeat' (first | with_reducible exact Below.refl _ _ | with_reducible assumption | with_reducible apply Below.setCell | with_reducible apply Below.alloc | with_reducible apply Below.drew | with_reducible apply below_drewN | with_reducible exact Nat.le_refl _ | (simp; done) | (simp; omega) | omega | exact Nat.le_refl _))) z5' r2_5)
  have r3_6 : w6.cell? ⟨w.heap.size, 3, none⟩ = some (.int .i64 d) := carry hw6 (by first | omega | (simp; omega)) (by first | exact r3_5 | exact carry (show Below w5.heap.size w5 _ from by (repeat' (first | with_reducible exact Below.refl _ _ | with_reducible assumption | with_reducible apply Below.setCell | with_reducible apply Below.alloc | with_reducible apply Below.drew | with_reducible apply below_drewN | with_reducible exact Nat.le_refl _ | (simp; done) | (simp; omega) | omega | exact Nat.le_refl _))) z5' r3_5)
  have r4_6 : w6.cell? ⟨w.heap.size, 4, none⟩ = some (.int .i64 t) := carry hw6 (by first | omega | (simp; omega)) (by first | exact r4_5 | exact carry (show Below w5.heap.size w5 _ from by (repeat' (first | with_reducible exact Below.refl _ _ | with_reducible assumption | with_reducible apply Below.setCell | with_reducible apply Below.alloc | with_reducible apply Below.drew | with_reducible apply below_drewN | with_reducible exact Nat.le_refl _ | (simp; done) | (simp; omega) | omega | exact Nat.le_refl _))) z5' r4_5)
  have hB6 : Below w.heap.size w w6 := belT (by (repeat' (first | with_reducible exact Below.refl _ _ | with_reducible assumption | with_reducible apply Below.setCell | with_reducible apply Below.alloc | with_reducible apply Below.drew | with_reducible apply below_drewN | with_reducible exact Nat.le_refl _ | (simp; done) | (simp; omega) | omega | exact Nat.le_refl _))) hw6
  have hbd1_6 := Lib.hid (bdsJs_below (bdsJs_below hbd1_5.out (show Below w5.heap.size w5 _ from by (repeat' (first | with_reducible exact Below.refl _ _ | with_reducible assumption | with_reducible apply Below.setCell | with_reducible apply Below.alloc | with_reducible apply Below.drew | with_reducible apply below_drewN | with_reducible exact Nat.le_refl _ | (simp; done) | (simp; omega) | omega | exact Nat.le_refl _)))) hw6)
  have hbd2_6 := Lib.hid (bdsJs_below (bdsJs_below hbd2_5.out (show Below w5.heap.size w5 _ from by (repeat' (first | with_reducible exact Below.refl _ _ | with_reducible assumption | with_reducible apply Below.setCell | with_reducible apply Below.alloc | with_reducible apply Below.drew | with_reducible apply below_drewN | with_reducible exact Nat.le_refl _ | (simp; done) | (simp; omega) | omega | exact Nat.le_refl _)))) hw6)
  have x0_6 : w6.cell? ⟨w5.heap.size, 0, none⟩ = some (.int .i64 x0) := carry hw6 (by first | (simp; done) | (simp; omega)) (by first | (simp; done) | (simp [go_sem]; done) | (trace_state; sorry))
  have x1_6 : w6.cell? ⟨w5.heap.size, 1, none⟩ = some (.int .i64 x1) := carry hw6 (by first | (simp; done) | (simp; omega)) (by first | (simp; done) | (simp [go_sem]; done) | (trace_state; sorry))
  have x2_6 : w6.cell? ⟨w5.heap.size, 2, none⟩ = some (.int .i64 x2) := carry hw6 (by first | (simp; done) | (simp; omega)) (by first | (simp; done) | (simp [go_sem]; done) | (trace_state; sorry))
  have x3_6 : w6.cell? ⟨w5.heap.size, 3, none⟩ = some (.int .i64 x3) := carry hw6 (by first | (simp; done) | (simp; omega)) (by first | (simp; done) | (simp [go_sem]; done) | (trace_state; sorry))
  have x4_6 : w6.cell? ⟨w5.heap.size, 4, none⟩ = some (.int .i64 x4) := carry hw6 (by first | (simp; done) | (simp; omega)) (by first | (simp; done) | (simp [go_sem]; done) | (trace_state; sorry))
  have hz5 : w5.heap.size < w6.heap.size := by have := hw6.size; simp at this; omega
  clear hbd1_5 hbd2_5
  clear r0_5 r1_5 r2_5 r3_5 r4_5 hw6
  go_wp2_with fail
  have hw7 : Below w6.heap.size w6 (w6.alloc (.cells #[.int .i64 x0, .int .i64 x1, .int .i64 x2, .int .i64 x3, .int .i64 x4] 24)) := by (repeat' (first | with_reducible exact Below.refl _ _ | with_reducible assumption | with_reducible apply Below.setCell | with_reducible apply Below.alloc | with_reducible apply Below.drew | with_reducible apply below_drewN | with_reducible exact Nat.le_refl _ | (simp; done) | (simp; omega) | omega | exact Nat.le_refl _))
  have hS7 : (w6.alloc (.cells #[.int .i64 x0, .int .i64 x1, .int .i64 x2, .int .i64 x3, .int .i64 x4] 24)).cell? ⟨w.heap.size, 0, none⟩ = some (.int .i64 a) ∧ (w6.alloc (.cells #[.int .i64 x0, .int .i64 x1, .int .i64 x2, .int .i64 x3, .int .i64 x4] 24)).cell? ⟨w.heap.size, 1, none⟩ = some (.int .i64 b) ∧ (w6.alloc (.cells #[.int .i64 x0, .int .i64 x1, .int .i64 x2, .int .i64 x3, .int .i64 x4] 24)).cell? ⟨w.heap.size, 2, none⟩ = some (.int .i64 c) ∧ (w6.alloc (.cells #[.int .i64 x0, .int .i64 x1, .int .i64 x2, .int .i64 x3, .int .i64 x4] 24)).cell? ⟨w.heap.size, 3, none⟩ = some (.int .i64 d) ∧ (w6.alloc (.cells #[.int .i64 x0, .int .i64 x1, .int .i64 x2, .int .i64 x3, .int .i64 x4] 24)).cell? ⟨w.heap.size, 4, none⟩ = some (.int .i64 t) ∧ (w6.alloc (.cells #[.int .i64 x0, .int .i64 x1, .int .i64 x2, .int .i64 x3, .int .i64 x4] 24)).cell? ⟨w5.heap.size, 0, none⟩ = some (.int .i64 x0) ∧ (w6.alloc (.cells #[.int .i64 x0, .int .i64 x1, .int .i64 x2, .int .i64 x3, .int .i64 x4] 24)).cell? ⟨w5.heap.size, 1, none⟩ = some (.int .i64 x1) ∧ (w6.alloc (.cells #[.int .i64 x0, .int .i64 x1, .int .i64 x2, .int .i64 x3, .int .i64 x4] 24)).cell? ⟨w5.heap.size, 2, none⟩ = some (.int .i64 x2) ∧ (w6.alloc (.cells #[.int .i64 x0, .int .i64 x1, .int .i64 x2, .int .i64 x3, .int .i64 x4] 24)).cell? ⟨w5.heap.size, 3, none⟩ = some (.int .i64 x3) ∧ (w6.alloc (.cells #[.int .i64 x0, .int .i64 x1, .int .i64 x2, .int .i64 x3, .int .i64 x4] 24)).cell? ⟨w5.heap.size, 4, none⟩ = some (.int .i64 x4) ∧ (w6.alloc (.cells #[.int .i64 x0, .int .i64 x1, .int .i64 x2, .int .i64 x3, .int .i64 x4] 24)).cell? ⟨w6.heap.size, 0, none⟩ = some (.int .i64 x0) ∧ (w6.alloc (.cells #[.int .i64 x0, .int .i64 x1, .int .i64 x2, .int .i64 x3, .int .i64 x4] 24)).cell? ⟨w6.heap.size, 1, none⟩ = some (.int .i64 x1) ∧ (w6.alloc (.cells #[.int .i64 x0, .int .i64 x1, .int .i64 x2, .int .i64 x3, .int .i64 x4] 24)).cell? ⟨w6.heap.size, 2, none⟩ = some (.int .i64 x2) ∧ (w6.alloc (.cells #[.int .i64 x0, .int .i64 x1, .int .i64 x2, .int .i64 x3, .int .i64 x4] 24)).cell? ⟨w6.heap.size, 3, none⟩ = some (.int .i64 x3) ∧ (w6.alloc (.cells #[.int .i64 x0, .int .i64 x1, .int .i64 x2, .int .i64 x3, .int .i64 x4] 24)).cell? ⟨w6.heap.size, 4, none⟩ = some (.int .i64 x4) ∧ KeepR w w5.heap.size w6.heap.size v1 v2 L (w6.alloc (.cells #[.int .i64 x0, .int .i64 x1, .int .i64 x2, .int .i64 x3, .int .i64 x4] 24)) :=
    ⟨carry hw7 z6' r0_6, carry hw7 z6' r1_6, carry hw7 z6' r2_6, carry hw7 z6' r3_6, carry hw7 z6' r4_6, carry hw7 hz5 x0_6, carry hw7 hz5 x1_6, carry hw7 hz5 x2_6, carry hw7 hz5 x3_6, carry hw7 hz5 x4_6, by simp, by simp, by simp, by simp, by simp, belT hB6 hw7, by simp; omega, by simp; omega, by simp, bdsJs_below hbd1_6.out hw7, bdsJs_below hbd2_6.out hw7⟩
  clear hw7 r0_6 r1_6 r2_6 r3_6 r4_6 x0_6 x1_6 x2_6 x3_6 x4_6 hbd1_6 hbd2_6 hB1 hB2 hB3 hB4 hB5 hB6
  generalize (w6.alloc (.cells #[.int .i64 x0, .int .i64 x1, .int .i64 x2, .int .i64 x3, .int .i64 x4] 24)) = w7 at hS7 ⊢
  generalize w6.heap.size = h6 at hS7 ⊢
  generalize w5.heap.size = g5 at hS7 ⊢
  obtain ⟨a0, a1, a2, a3, a4, c0, c1, c2, c3, c4, d0, d1, d2, d3, d4, hK7⟩ := id hS7
  have hK7 := Lib.hid hK7
  have hS7' := Lib.hid hS7; clear hS7
  have hq : ∀ (x0 x1 x2 x3 y0 y1 y2 y3 : Int) (W : World), (Op.equalIn 9999 22 (.agg #[.int .i64 x0, .int .i64 x1, .int .i64 x2, .int .i64 x3]) (.agg #[.int .i64 y0, .int .i64 y1, .int .i64 y2, .int .i64 y3])).run Tryd.prog W = .ok (x0 == y0 && (x1 == y1 && (x2 == y2 && x3 == y3))) W := fun x0 x1 x2 x3 y0 y1 y2 y3 W => arr_in 9997 22 Tryd.underlying22 W x0 x1 x2 x3 y0 y1 y2 y3
  go_region_held3 (fun W => W.cell? ⟨w.heap.size, 0, none⟩ = some (.int .i64 a) ∧ W.cell? ⟨w.heap.size, 1, none⟩ = some (.int .i64 b) ∧ W.cell? ⟨w.heap.size, 2, none⟩ = some (.int .i64 c) ∧ W.cell? ⟨w.heap.size, 3, none⟩ = some (.int .i64 d) ∧ W.cell? ⟨w.heap.size, 4, none⟩ = some (.int .i64 t) ∧ W.cell? ⟨g5, 0, none⟩ = some (.int .i64 x0) ∧ W.cell? ⟨g5, 1, none⟩ = some (.int .i64 x1) ∧ W.cell? ⟨g5, 2, none⟩ = some (.int .i64 x2) ∧ W.cell? ⟨g5, 3, none⟩ = some (.int .i64 x3) ∧ W.cell? ⟨g5, 4, none⟩ = some (.int .i64 x4) ∧ W.cell? ⟨h6, 0, none⟩ = some (.int .i64 x0) ∧ W.cell? ⟨h6, 1, none⟩ = some (.int .i64 x1) ∧ W.cell? ⟨h6, 2, none⟩ = some (.int .i64 x2) ∧ W.cell? ⟨h6, 3, none⟩ = some (.int .i64 x3) ∧ W.cell? ⟨h6, 4, none⟩ = some (.int .i64 x4) ∧ KeepR w g5 h6 v1 v2 L W)
    (first | assumption | exact kr_step (by assumption) hb9 | exact kr_step hS7'.out ((Below.refl _ _).drew))
    (first
      | (go_at_call 15; refine (sameBinds_any _ (kr_keep (by assumption)).2.2.2.2.1.is (kr_keep (by assumption)).2.2.2.2.2.is hLl'.out).mono ?_; rintro e w9 ⟨rfl, hb9⟩)
      | (go_at_call 16; refine (num_any _ _ (by omega) (by omega)).mono ?_; rintro e w' ⟨rfl, rfl⟩)
      | (go_at_call 17; refine (kM.out _).mono ?_; rintro e w9 ⟨rfl, hb9⟩)
      | (go_at_call 18; refine (kN.out _).mono ?_; rintro e w9 ⟨rfl, hb9⟩))
  have hK := kr_keep (by assumption)
  obtain ⟨hk, hw9, _, _, j1, j2⟩ := hK
  have hk' := Lib.hid hk
  have j1' := Lib.hid j1
  clear hk j1 j2 hS7' hK7 a0 a1 a2 a3 a4 c0 c1 c2 c3 c4 d0 d1 d2 d3 d4
  go_wp2_with fail
  refine (spoilBinds_any _ j1'.out hLl'.out).mono ?_
  rintro e w10 ⟨rfl, hb10⟩
  have hB10 := Lib.hid (hk'.out.trans hb10)
  clear hb10
  go_wp2_with fail
  refine (awake_any _).mono ?_
  rintro e w11 ⟨rfl, hb11⟩
  go_wp2_with fail
  go_ret
  exact ⟨rfl, belT hB10.out hb11⟩
theorem own : ownKnob Tryd.prog.godebug = none := by kernel_rfl
theorem laidOut : laidOutB Tryd.prog = true := by kernel_rfl
set_option maxRecDepth 100000 in
theorem contract (H : Type) (enc : TypeId × Value → H) (W : World) (base : Nat) (args : Array Value) (ds gs : List (DataW H)) (before : List MemPlace)
    (hval0 : ∀ (j : Nat) t v, Tryd.f3.params[j]? = some t → args[j]? = some v → Value.okWide Tryd.prog W .any base t v)
    (hW : DataW.Whole enc Tryd.prog Tryd.f3.params.toList Rows.rowsSpec.vars false W args.toList ds gs before)
    (hsz0 : (DataW.weightsEach Tryd.prog (Tryd.f3.params.toList ++ Rows.rowsSpec.plain.varTypes Tryd.prog) (ds ++ gs)).all (· ≤ reachBytes) = true)
    : Calls Tryd.prog 3 args W fun e W' => ∃ v, e = .returned v ∧ Rows.rowsSpec.post enc Tryd.prog Tryd.f3 false true false false W args v W' := by
  have hval : ∀ (j : Nat) t v, Tryd.f3.params[j]? = some t → args[j]? = some v → Value.okWide Tryd.prog W .any base t v := hval0
  have hsz : (DataW.weightsEach Tryd.prog (Tryd.f3.params.toList ++ Rows.rowsSpec.plain.varTypes Tryd.prog) (ds ++ gs)).all (· ≤ reachBytes) = true := hsz0
  have hW' := hW
  obtain ⟨p, q, hA0, hV, rfl, hfz, hnd⟩ := hW
  have hA : DataW.TrodAll enc Tryd.prog W 0 (fun _ => true) true Tryd.f3.params.toList args.toList ds p := hA0
  rw [Tryd.params3] at hA hval hsz
  obtain ⟨v0, vs0, d0, ds0, p0, q0, hargs, rfl, rfl, h0, r0⟩ := trodAll_cons hA
  obtain ⟨v1, vs1, d1, ds1, p1, q1, rfl, rfl, rfl, h1, r1⟩ := trodAll_cons r0
  obtain ⟨v2, vs2, d2, ds2, p2, q2, rfl, rfl, rfl, h2, r2⟩ := trodAll_cons r1
  obtain ⟨v3, vs3, d3, ds3, p3, q3, rfl, rfl, rfl, h3, r3⟩ := trodAll_cons r2
  obtain ⟨rfl, rfl, rfl⟩ := trodAll_nil r3
  obtain rfl : args = #[v0, v1, v2, v3] := by cases args; simp_all
  obtain ⟨rfl, rfl⟩ := trodVars_none hV
  have k0 := h0
  have lt0 : ∀ x ∈ p0, x.block < W.heap.size := by obtain ⟨m, hm⟩ := k0; exact DataW.trod_lt m _ _ _ hm
  obtain ⟨cs0_0, rfl, fit0_0⟩ := open_struct Tryd.underlying24 (f := 6) (by kernel_rfl : flat Tryd.prog 6 24 = some [.i .i64, .i .i64, .i .i64, .i .i64, .i .i64]) (hval 0 24 v0 rfl rfl) h0 (sized_of hsz (j := 0) (t := 24) rfl rfl)
  obtain ⟨_, cs0_1, rfl, ⟨a0_0, rfl, b0_0⟩, fit0_1⟩ := fit_i fit0_0
  obtain ⟨_, cs0_2, rfl, ⟨a0_1, rfl, b0_1⟩, fit0_2⟩ := fit_i fit0_1
  obtain ⟨_, cs0_3, rfl, ⟨a0_2, rfl, b0_2⟩, fit0_3⟩ := fit_i fit0_2
  obtain ⟨_, cs0_4, rfl, ⟨a0_3, rfl, b0_3⟩, fit0_4⟩ := fit_i fit0_3
  obtain ⟨_, cs0_5, rfl, ⟨a0_4, rfl, b0_4⟩, fit0_5⟩ := fit_i fit0_4
  obtain rfl := fit_nil fit0_5
  have k1 := h1
  have lt1 : ∀ x ∈ p1, x.block < W.heap.size := by obtain ⟨m, hm⟩ := k1; exact DataW.trod_lt m _ _ _ hm
  obtain ⟨cs1_0, rfl, fit1_0⟩ := open_struct Tryd.underlying24 (f := 6) (by kernel_rfl : flat Tryd.prog 6 24 = some [.i .i64, .i .i64, .i .i64, .i .i64, .i .i64]) (hval 1 24 v1 rfl rfl) h1 (sized_of hsz (j := 1) (t := 24) rfl rfl)
  obtain ⟨_, cs1_1, rfl, ⟨a1_0, rfl, b1_0⟩, fit1_1⟩ := fit_i fit1_0
  obtain ⟨_, cs1_2, rfl, ⟨a1_1, rfl, b1_1⟩, fit1_2⟩ := fit_i fit1_1
  obtain ⟨_, cs1_3, rfl, ⟨a1_2, rfl, b1_2⟩, fit1_3⟩ := fit_i fit1_2
  obtain ⟨_, cs1_4, rfl, ⟨a1_3, rfl, b1_3⟩, fit1_4⟩ := fit_i fit1_3
  obtain ⟨_, cs1_5, rfl, ⟨a1_4, rfl, b1_4⟩, fit1_5⟩ := fit_i fit1_4
  obtain rfl := fit_nil fit1_5
  have k2 := h2
  have lt2 : ∀ x ∈ p2, x.block < W.heap.size := by obtain ⟨m, hm⟩ := k2; exact DataW.trod_lt m _ _ _ hm
  obtain ⟨a2, rfl, rfl, rfl, m2⟩ := open_int Tryd.underlying3 (hval 2 3 v2 rfl rfl) h2
  have k3 := h3
  have lt3 : ∀ x ∈ p3, x.block < W.heap.size := by obtain ⟨m, hm⟩ := k3; exact DataW.trod_lt m _ _ _ hm
  obtain ⟨a3, rfl, rfl, rfl, m3⟩ := open_int Tryd.underlying3 (hval 3 3 v3 rfl rfl) h3
  clear hA0 hval0
  refine (walk a0_0 a0_1 a0_2 a0_3 a0_4 a1_0 a1_1 a1_2 a1_3 a1_4 a2 a3 W (bd_i64 b0_0) (bd_i64 b0_1) (bd_i64 b0_2) (bd_i64 b0_3) (bd_i64 b0_4) (bd_i64 b1_0) (bd_i64 b1_1) (bd_i64 b1_2) (bd_i64 b1_3) (bd_i64 b1_4) (bd_i64 m2) (bd_i64 m3)).mono fun e W' ⟨he, bel⟩ => ?_
  subst he
  exact ⟨_, rfl, _, _, _, [], _, [], hW', trodAll_mk1 (shut_bool Tryd.underlying4 _), (trodAll_cons_mk (Below.trod laidOut (by kernel_rfl) (of_decide_eq_true (by kernel_rfl)) k0 bel lt0) (trodAll_cons_mk (Below.trod laidOut (by kernel_rfl) (of_decide_eq_true (by kernel_rfl)) k1 bel lt1) (trodAll_cons_mk (Below.trod laidOut (by kernel_rfl) (of_decide_eq_true (by kernel_rfl)) k2 bel lt2) (trodAll_cons_mk (Below.trod laidOut (by kernel_rfl) (of_decide_eq_true (by kernel_rfl)) k3 bel lt3) trodAll_mk0)))), rfl, bel.frame _, fun h => by cases h⟩
noncomputable def laidWorld (os : Os) : World := { World.holding Tryd.prog os ⟨#[], #[], []⟩ with heap := layAll Tryd.prog Rows.rowsRow.laid (World.holding Tryd.prog os ⟨#[], #[], []⟩).heap }
theorem laid_met (os : Os) : laidMet Tryd.prog Rows.rowsRow.laid ((laidWorld os).forCall (fun _ _ => 0) ⟨#[], #[.agg #[.int .i64 0, .int .i64 0, .int .i64 0, .int .i64 0, .int .i64 0], .agg #[.int .i64 0, .int .i64 0, .int .i64 0, .int .i64 0, .int .i64 0], .int .i64 0, .int .i64 0], []⟩).memory := laidMet_of_run' 8 (by kernel_rfl) (by kernel_rfl)
theorem reads (os : Os) {H : Type} (enc : TypeId × Value → H) : ∃ places, DataW.whole enc Tryd.prog ((laidWorld os).forCall (fun _ _ => 0) ⟨#[], #[.agg #[.int .i64 0, .int .i64 0, .int .i64 0, .int .i64 0, .int .i64 0], .agg #[.int .i64 0, .int .i64 0, .int .i64 0, .int .i64 0, .int .i64 0], .int .i64 0, .int .i64 0], []⟩).memory Tryd.f3.params.toList Rows.rowsSpec.vars false #[(.agg #[.int .i64 0, .int .i64 0, .int .i64 0, .int .i64 0, .int .i64 0] : Value), (.agg #[.int .i64 0, .int .i64 0, .int .i64 0, .int .i64 0, .int .i64 0] : Value), (.int .i64 0 : Value), (.int .i64 0 : Value)].toList 8 = some ([.agg [.agg [.lit (.int .i64 0), .lit (.int .i64 0), .lit (.int .i64 0), .lit (.int .i64 0)], .lit (.int .i64 0)], .agg [.agg [.lit (.int .i64 0), .lit (.int .i64 0), .lit (.int .i64 0), .lit (.int .i64 0)], .lit (.int .i64 0)], .lit (.int .i64 0), .lit (.int .i64 0)], [], places) := ⟨[], by kernel_rfl⟩
set_option maxRecDepth 100000 in
theorem lifted (os : Os) (started : os.Started) (H : Type) (enc : TypeId × Value → H) (F : Stop.Interp) :
    ReturnsInHanded {} Tryd.checked os 3 .any ((OpenSpec.ofChange Rows.rowsSpec).preRow enc Tryd.prog Tryd.f3 Rows.rowsRow.domain false Rows.rowsRow.laid) (((OpenSpec.ofChange Rows.rowsSpec).at F).post enc Tryd.prog Tryd.f3 false true false false) := by
  obtain ⟨places, hx⟩ := reads os enc
  refine returnsInHanded_of_row (C := Tryd.checked) (s := (OpenSpec.ofChange Rows.rowsSpec)) own started (by kernel_rfl) Tryd.func3
    (witness_row_at (enc := enc) (C := Tryd.checked) false (laidWorld os) #[.agg #[.int .i64 0, .int .i64 0, .int .i64 0, .int .i64 0, .int .i64 0], .agg #[.int .i64 0, .int .i64 0, .int .i64 0, .int .i64 0, .int .i64 0], .int .i64 0, .int .i64 0] rfl (by kernel_rfl) (by kernel_rfl) (by kernel_rfl)
      (OpenSpec.preRow_of_cond 8 hx (by kernel_rfl) (fun k hk => by cases hk) (by kernel_rfl) (laid_met os))) ?_
  intro W base args ds gs before hval hW _ hcnd hsz hL _ _
  exact contract H enc W base args ds gs before hval hW hsz  
theorem said : Rows.RowsSaid :=
  OpenClaim.holds_of_cond 3 Tryd.f3 rfl rfl rfl rfl rfl rfl rfl ⟨rfl, rfl, rfl, rfl, rfl⟩ rfl rfl rfl rfl rfl (by kernel_rfl) Tryd.func3 (by kernel_rfl)
    (of_decide_eq_true (by kernel_rfl)) (by unfold Func.isWrapper; first | (rw [if_pos (by decide +kernel)]; kernel_rfl) | (rw [if_neg (by decide +kernel)]; exact ⟨rfl, rfl⟩))
    (fun os started H enc _ F => by rw [OpenClaim.pre_eq_preRow]; exact lifted os started H enc F)
theorem plain (f : FuncId) (fn : Func) (hf : Tryd.pinned.checked.prog.funcNamed "trammel/trammellaw8.Rows" = some f) (hfn : Tryd.pinned.checked.prog.funcs[f]? = some fn) :
    false = Tryd.pinned.checked.prog.looks [] ∧ ∀ (j : Nat) t, fn.params[j]? = some t → Tryd.pinned.checked.prog.wantsStandIn t = false := by
  obtain rfl : f = 3 := Option.some.inj ((show Tryd.prog.funcNamed "trammel/trammellaw8.Rows" = some 3 by kernel_rfl).symm.trans hf) |>.symm
  obtain rfl : fn = Tryd.f3 := (Option.some.inj (Tryd.func3.symm.trans hfn)).symm
  refine ⟨by kernel_rfl, fun j t ht => ?_⟩
  rw [Tryd.params3] at ht
  have hm := Array.mem_of_getElem? ht
  have hm2 : t ∈ ([24, 3] : List Nat) := by simpa using hm
  simp only [List.mem_cons, List.not_mem_nil, or_false] at hm2
  rcases hm2 with rfl | rfl
  · exact (show Tryd.prog.wantsStandIn 24 = false by kernel_rfl)
  · exact (show Tryd.prog.wantsStandIn 3 = false by kernel_rfl)
theorem proved : Rows.RowsCardSaid :=
  Claim7.holds_tied_plain_at .later [] _ _ _ _ said (fun _ h => by cases h) (by kernel_rfl) (fun _ h => by cases h) rows_row_tie rfl ⟨rfl, rfl⟩ (by kernel_rfl) rfl plain (by kernel_rfl)
end Go.Proofs.YtlbopoidjnaokaaDoor.rows
