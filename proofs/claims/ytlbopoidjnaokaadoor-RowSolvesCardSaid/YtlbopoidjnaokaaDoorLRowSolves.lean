/- RowSolves holds for every two rows. No condition but that the listed package variables hold what the program's text lays. -/
import Derived.Test.YtlbopoidjnaokaaDoorRsA
import Derived.Test.YtlbopoidjnaokaaDoorRsC
import Derived.Test.YtlbopoidjnaokaaDoorAid
import Derived.Deep.DeepCutAuto
import Derived.Deep.CutBlock
import Derived.Test.YtlbopoidjnaokaaDoorCards
import Derived.Test.YtlbopoidjnaokaaDoorTie
import Derived.Test.YtlbopoidjnaokaaDoorOpn
import Derived.Test.YtlbopoidjnaokaaDoorCrd
import Derived.WalkKit
import Derived.ProofKit
import Derived.Deep.DeepHandedRow
namespace Go.Proofs.YtlbopoidjnaokaaDoor.rowSolves
open Go.ChangeShapes Go.WideShapes Go.ChangeAt Go.RowKit
open Go.ChangeMaps (open_string shut_string)
set_option linter.unusedVariables false

/-- 'more' behind the first k operations. -/
def mk (a b c d a' b' c' d' : Int) : Nat → Bool
  | 0 => false
  | 1 => decide (a' < a)
  | 2 => decide (a' < a) || decide (b' < b)
  | 3 => decide (a' < a) || decide (b' < b) || decide (c' < c)
  | _ => decide (a' < a) || decide (b' < b) || decide (c' < c) || decide (d' < d)
theorem mk_s0 (a b c d a' b' c' d' : Int) : mk a b c d a' b' c' d' 1 = (mk a b c d a' b' c' d' 0 || decide (a' < a)) := by simp [mk]
theorem mk_s1 (a b c d a' b' c' d' : Int) : mk a b c d a' b' c' d' 2 = (mk a b c d a' b' c' d' 1 || decide (b' < b)) := rfl
theorem mk_s2 (a b c d a' b' c' d' : Int) : mk a b c d a' b' c' d' 3 = (mk a b c d a' b' c' d' 2 || decide (c' < c)) := rfl
theorem mk_s3 (a b c d a' b' c' d' : Int) : mk a b c d a' b' c' d' 4 = (mk a b c d a' b' c' d' 3 || decide (d' < d)) := rfl
theorem mk_more (a b c d a' b' c' d' : Int) : mk a b c d a' b' c' d' 4 = moreB a b c d a' b' c' d' := rfl
theorem dr_add {W X : World} {n : Nat} (h : ∃ m, X = W.drewN m) : ∃ m, X.drewN n = W.drewN m := by
  obtain ⟨m, rfl⟩ := h
  induction n with
  | zero => exact ⟨m, rfl⟩
  | succ n ih =>
    obtain ⟨k, hk⟩ := ih
    exact ⟨k + 1, by show ((W.drewN m).drewN n).drew = (W.drewN k).drew; rw [hk]⟩
theorem ref_no {a b c d t a' b' c' d' t' : Int} (h : refB a b c d t a' b' c' d' t' = false) : (t = t' → moreB a b c d a' b' c' d' = false ∧ moreB a' b' c' d' a b c d = false) ∧ (t' < 0 → moreB a b c d a' b' c' d' = false) ∧ (t < 0 → moreB a' b' c' d' a b c d = false) := by
  unfold refB at h
  simp only [Bool.or_eq_false_iff, Bool.and_eq_false_iff, decide_eq_false_iff_not] at h
  obtain ⟨⟨h1, h2⟩, h3⟩ := h
  refine ⟨fun e => ?_, fun e => ?_, fun e => ?_⟩
  · rcases h1 with h1 | h1
    · exact absurd e h1
    · exact h1
  · rcases h2 with h2 | h2
    · exact h2
    · exact absurd e h2
  · rcases h3 with h3 | h3
    · exact h3
    · exact absurd e h3
def XyPost (w4 : World) (a b c d t : Int) (s11 s12 : Value) (W : World) : Prop := ∃ g h : Nat, s11 = .pointer (some ⟨g, 0, none⟩) ∧ s12 = .pointer (some ⟨h, 0, none⟩) ∧ Below w4.heap.size w4 W ∧ (W.cell? ⟨g, 0, none⟩ = some (.int .i64 a) ∧ W.cell? ⟨g, 1, none⟩ = some (.int .i64 b) ∧ W.cell? ⟨g, 2, none⟩ = some (.int .i64 c) ∧ W.cell? ⟨g, 3, none⟩ = some (.int .i64 d) ∧ W.cell? ⟨g, 4, none⟩ = some (.int .i64 t)) ∧ (W.cell? ⟨h, 0, none⟩ = some (.int .i64 a) ∧ W.cell? ⟨h, 1, none⟩ = some (.int .i64 b) ∧ W.cell? ⟨h, 2, none⟩ = some (.int .i64 c) ∧ W.cell? ⟨h, 3, none⟩ = some (.int .i64 d) ∧ W.cell? ⟨h, 4, none⟩ = some (.int .i64 t))
theorem rowsS_of {w w4 W : World} {a b c d t a' b' c' d' t' : Int} (y : w.heap.size < w4.heap.size) (z : w.heap.size + 1 < w4.heap.size) (r0 : w4.cell? ⟨w.heap.size, 0, none⟩ = some (.int .i64 a)) (r1 : w4.cell? ⟨w.heap.size, 1, none⟩ = some (.int .i64 b)) (r2 : w4.cell? ⟨w.heap.size, 2, none⟩ = some (.int .i64 c)) (r3 : w4.cell? ⟨w.heap.size, 3, none⟩ = some (.int .i64 d)) (r4 : w4.cell? ⟨w.heap.size, 4, none⟩ = some (.int .i64 t)) (s0 : w4.cell? ⟨w.heap.size + 1, 0, none⟩ = some (.int .i64 a')) (s1 : w4.cell? ⟨w.heap.size + 1, 1, none⟩ = some (.int .i64 b')) (s2 : w4.cell? ⟨w.heap.size + 1, 2, none⟩ = some (.int .i64 c')) (s3 : w4.cell? ⟨w.heap.size + 1, 3, none⟩ = some (.int .i64 d')) (s4 : w4.cell? ⟨w.heap.size + 1, 4, none⟩ = some (.int .i64 t')) (hb : Below w4.heap.size w4 W) : W.cell? ⟨w.heap.size, 0, none⟩ = some (.int .i64 a) ∧ W.cell? ⟨w.heap.size, 1, none⟩ = some (.int .i64 b) ∧ W.cell? ⟨w.heap.size, 2, none⟩ = some (.int .i64 c) ∧ W.cell? ⟨w.heap.size, 3, none⟩ = some (.int .i64 d) ∧ W.cell? ⟨w.heap.size, 4, none⟩ = some (.int .i64 t) ∧ W.cell? ⟨w.heap.size + 1, 0, none⟩ = some (.int .i64 a') ∧ W.cell? ⟨w.heap.size + 1, 1, none⟩ = some (.int .i64 b') ∧ W.cell? ⟨w.heap.size + 1, 2, none⟩ = some (.int .i64 c') ∧ W.cell? ⟨w.heap.size + 1, 3, none⟩ = some (.int .i64 d') ∧ W.cell? ⟨w.heap.size + 1, 4, none⟩ = some (.int .i64 t') :=
  ⟨carry hb y r0, carry hb y r1, carry hb y r2, carry hb y r3, carry hb y r4, carry hb z s0, carry hb z s1, carry hb z s2, carry hb z s3, carry hb z s4⟩

theorem xy_fin {w5 W : World} {g h : Nat} {x0 x1 x2 x3 x4 : Int} (hb : Below w5.heap.size w5 W) (hg : W.cell? ⟨g, 0, none⟩ = some (.int .i64 x0) ∧ W.cell? ⟨g, 1, none⟩ = some (.int .i64 x1) ∧ W.cell? ⟨g, 2, none⟩ = some (.int .i64 x2) ∧ W.cell? ⟨g, 3, none⟩ = some (.int .i64 x3) ∧ W.cell? ⟨g, 4, none⟩ = some (.int .i64 x4)) (hh : W.cell? ⟨h, 0, none⟩ = some (.int .i64 x0) ∧ W.cell? ⟨h, 1, none⟩ = some (.int .i64 x1) ∧ W.cell? ⟨h, 2, none⟩ = some (.int .i64 x2) ∧ W.cell? ⟨h, 3, none⟩ = some (.int .i64 x3) ∧ W.cell? ⟨h, 4, none⟩ = some (.int .i64 x4)) : XyPost w5 x0 x1 x2 x3 x4 (.pointer (some ⟨g, 0, none⟩)) (.pointer (some ⟨h, 0, none⟩)) W := ⟨g, h, rfl, rfl, hb, hg, hh⟩

theorem slice0 {B : Nat} {w : World} {v : Value} (h : BdsIs B w v []) : ∃ ad, v = .slice ad 0 0 := by
  rcases bds_nil h with rfl | ⟨g, rfl⟩
  · exact ⟨_, rfl⟩
  · exact ⟨_, rfl⟩

set_option maxRecDepth 100000 in
set_option maxHeartbeats 8000000 in
theorem walk (a b c d t a' b' c' d' t' : Int) (w : World) (b0 : -9223372036854775808 ≤ a ∧ a ≤ 9223372036854775807) (b1 : -9223372036854775808 ≤ b ∧ b ≤ 9223372036854775807) (b2 : -9223372036854775808 ≤ c ∧ c ≤ 9223372036854775807) (b3 : -9223372036854775808 ≤ d ∧ d ≤ 9223372036854775807) (b4 : -9223372036854775808 ≤ t ∧ t ≤ 9223372036854775807)
    (b0' : -9223372036854775808 ≤ a' ∧ a' ≤ 9223372036854775807) (b1' : -9223372036854775808 ≤ b' ∧ b' ≤ 9223372036854775807) (b2' : -9223372036854775808 ≤ c' ∧ c' ≤ 9223372036854775807) (b3' : -9223372036854775808 ≤ d' ∧ d' ≤ 9223372036854775807) (b4' : -9223372036854775808 ≤ t' ∧ t' ≤ 9223372036854775807) :
    Calls Tryd.prog 4 #[.agg #[.int .i64 a, .int .i64 b, .int .i64 c, .int .i64 d, .int .i64 t], .agg #[.int .i64 a', .int .i64 b', .int .i64 c', .int .i64 d', .int .i64 t']] w fun e w' => e = .returned (.bool true) ∧ Below w.heap.size w w' := by
  clear b0 b1 b2 b3 b4 b0' b1' b2' b3' b4'
  generalize hL1 : ruL a b c d t a' b' c' d' t' 4095 = L1
  generalize hE1 : ruE a b c d t a' b' c' d' t' 4095 = E1
  have hL1' := Lib.hid hL1; have hE1' := Lib.hid hE1
  clear hL1 hE1
  go_enter Tryd.func4, Tryd.ntmps4
  go_wp2_with fail
  refine (awake_any _).mono ?_
  rintro e w1 ⟨rfl, hw1⟩
  have z1 : w.heap.size + 1 < w1.heap.size := by have := hw1.size; (try simp at this); omega
  have z1' : w.heap.size < w1.heap.size := by omega
  have r0_1 : w1.cell? ⟨w.heap.size, 0, none⟩ = some (.int .i64 a) := carry hw1 (by first | omega | (simp; done) | (simp; omega)) (by simp)
  have r1_1 : w1.cell? ⟨w.heap.size, 1, none⟩ = some (.int .i64 b) := carry hw1 (by first | omega | (simp; done) | (simp; omega)) (by simp)
  have r2_1 : w1.cell? ⟨w.heap.size, 2, none⟩ = some (.int .i64 c) := carry hw1 (by first | omega | (simp; done) | (simp; omega)) (by simp)
  have r3_1 : w1.cell? ⟨w.heap.size, 3, none⟩ = some (.int .i64 d) := carry hw1 (by first | omega | (simp; done) | (simp; omega)) (by simp)
  have r4_1 : w1.cell? ⟨w.heap.size, 4, none⟩ = some (.int .i64 t) := carry hw1 (by first | omega | (simp; done) | (simp; omega)) (by simp)
  have s0_1 : w1.cell? ⟨w.heap.size + 1, 0, none⟩ = some (.int .i64 a') := carry hw1 (by first | omega | (simp; done) | (simp; omega)) (by simp)
  have s1_1 : w1.cell? ⟨w.heap.size + 1, 1, none⟩ = some (.int .i64 b') := carry hw1 (by first | omega | (simp; done) | (simp; omega)) (by simp)
  have s2_1 : w1.cell? ⟨w.heap.size + 1, 2, none⟩ = some (.int .i64 c') := carry hw1 (by first | omega | (simp; done) | (simp; omega)) (by simp)
  have s3_1 : w1.cell? ⟨w.heap.size + 1, 3, none⟩ = some (.int .i64 d') := carry hw1 (by first | omega | (simp; done) | (simp; omega)) (by simp)
  have s4_1 : w1.cell? ⟨w.heap.size + 1, 4, none⟩ = some (.int .i64 t') := carry hw1 (by first | omega | (simp; done) | (simp; omega)) (by simp)
  have hB1 : Below w.heap.size w w1 := belT (by (repeat' (first | with_reducible exact Below.refl _ _ | with_reducible assumption | with_reducible apply Below.setCell | with_reducible apply Below.alloc | with_reducible apply Below.drew | with_reducible apply below_drewN | with_reducible exact Nat.le_refl _ | (simp; done) | (simp; omega) | omega | exact Nat.le_refl _))) hw1
  clear hw1
  go_wp2_with fail
  refine (rowUnify_any _ _ _ _ _ _ _ _ _ _ _ _).mono ?_
  rintro e w2 ⟨v1, rfl, hbd1, hw2⟩
  rw [hE1'.out]
  rw [hL1'.out] at hbd1
  have z2 : w.heap.size + 1 < w2.heap.size := by have := hw2.size; (try simp at this); omega
  have z2' : w.heap.size < w2.heap.size := by omega
  have r0_2 : w2.cell? ⟨w.heap.size, 0, none⟩ = some (.int .i64 a) := carry hw2 (by first | omega | (simp; done) | (simp; omega)) (r0_1)
  have r1_2 : w2.cell? ⟨w.heap.size, 1, none⟩ = some (.int .i64 b) := carry hw2 (by first | omega | (simp; done) | (simp; omega)) (r1_1)
  have r2_2 : w2.cell? ⟨w.heap.size, 2, none⟩ = some (.int .i64 c) := carry hw2 (by first | omega | (simp; done) | (simp; omega)) (r2_1)
  have r3_2 : w2.cell? ⟨w.heap.size, 3, none⟩ = some (.int .i64 d) := carry hw2 (by first | omega | (simp; done) | (simp; omega)) (r3_1)
  have r4_2 : w2.cell? ⟨w.heap.size, 4, none⟩ = some (.int .i64 t) := carry hw2 (by first | omega | (simp; done) | (simp; omega)) (r4_1)
  have s0_2 : w2.cell? ⟨w.heap.size + 1, 0, none⟩ = some (.int .i64 a') := carry hw2 (by first | omega | (simp; done) | (simp; omega)) (s0_1)
  have s1_2 : w2.cell? ⟨w.heap.size + 1, 1, none⟩ = some (.int .i64 b') := carry hw2 (by first | omega | (simp; done) | (simp; omega)) (s1_1)
  have s2_2 : w2.cell? ⟨w.heap.size + 1, 2, none⟩ = some (.int .i64 c') := carry hw2 (by first | omega | (simp; done) | (simp; omega)) (s2_1)
  have s3_2 : w2.cell? ⟨w.heap.size + 1, 3, none⟩ = some (.int .i64 d') := carry hw2 (by first | omega | (simp; done) | (simp; omega)) (s3_1)
  have s4_2 : w2.cell? ⟨w.heap.size + 1, 4, none⟩ = some (.int .i64 t') := carry hw2 (by first | omega | (simp; done) | (simp; omega)) (s4_1)
  clear r0_1 s0_1 r1_1 s1_1 r2_1 s2_1 r3_1 s3_1 r4_1 s4_1
  have hB2 : Below w.heap.size w w2 := belT hB1 hw2
  clear hw2
  have hbd1' := Lib.hid hbd1; clear hbd1
  go_wp2_with fail
  refine (rowMay_any _ _ _ _ _ _).mono ?_
  rintro e w3 ⟨rfl, hw3⟩
  have z3 : w.heap.size + 1 < w3.heap.size := by have := hw3.size; (try simp at this); omega
  have z3' : w.heap.size < w3.heap.size := by omega
  have r0_3 : w3.cell? ⟨w.heap.size, 0, none⟩ = some (.int .i64 a) := carry hw3 (by first | omega | (simp; done) | (simp; omega)) (r0_2)
  have r1_3 : w3.cell? ⟨w.heap.size, 1, none⟩ = some (.int .i64 b) := carry hw3 (by first | omega | (simp; done) | (simp; omega)) (r1_2)
  have r2_3 : w3.cell? ⟨w.heap.size, 2, none⟩ = some (.int .i64 c) := carry hw3 (by first | omega | (simp; done) | (simp; omega)) (r2_2)
  have r3_3 : w3.cell? ⟨w.heap.size, 3, none⟩ = some (.int .i64 d) := carry hw3 (by first | omega | (simp; done) | (simp; omega)) (r3_2)
  have r4_3 : w3.cell? ⟨w.heap.size, 4, none⟩ = some (.int .i64 t) := carry hw3 (by first | omega | (simp; done) | (simp; omega)) (r4_2)
  have s0_3 : w3.cell? ⟨w.heap.size + 1, 0, none⟩ = some (.int .i64 a') := carry hw3 (by first | omega | (simp; done) | (simp; omega)) (s0_2)
  have s1_3 : w3.cell? ⟨w.heap.size + 1, 1, none⟩ = some (.int .i64 b') := carry hw3 (by first | omega | (simp; done) | (simp; omega)) (s1_2)
  have s2_3 : w3.cell? ⟨w.heap.size + 1, 2, none⟩ = some (.int .i64 c') := carry hw3 (by first | omega | (simp; done) | (simp; omega)) (s2_2)
  have s3_3 : w3.cell? ⟨w.heap.size + 1, 3, none⟩ = some (.int .i64 d') := carry hw3 (by first | omega | (simp; done) | (simp; omega)) (s3_2)
  have s4_3 : w3.cell? ⟨w.heap.size + 1, 4, none⟩ = some (.int .i64 t') := carry hw3 (by first | omega | (simp; done) | (simp; omega)) (s4_2)
  clear r0_2 s0_2 r1_2 s1_2 r2_2 s2_2 r3_2 s3_2 r4_2 s4_2
  have hB3 : Below w.heap.size w w3 := belT hB2 hw3
  have hbd2' := Lib.hid (bdsIs_below hbd1'.out hw3)
  clear hw3 hbd1'
  have hbad : ruOk a b c d t a' b' c' d' t' 4095 = false → E1 = 800 ∧ ∃ ad, v1 = .slice ad 0 0 := fun h => by
    have hn := ru_no h
    rw [hE1'.out, hL1'.out] at hn
    have hbd := hbd2'.out
    rw [hn.1] at hbd
    exact ⟨hn.2, slice0 hbd⟩
  have hbad' := Lib.hid hbad; clear hbad
  cases hma : mayR a b c d t
  · obtain ⟨rfl, ad, rfl⟩ := hbad'.out (by unfold ruOk; rw [hma]; rfl)
    clear hma
    go_wp2_with (go_at_call 16; refine (num_any _ _ (by omega) (by omega)).mono ?_; rintro e w' ⟨rfl, rfl⟩)
    go_ret
    exact ⟨rfl, hB3⟩
  have hma' := Lib.hid hma; clear hma
  go_wp2_with fail
  refine (rowMay_any _ _ _ _ _ _).mono ?_
  rintro e w4 ⟨rfl, hw4⟩
  have z4 : w.heap.size + 1 < w4.heap.size := by have := hw4.size; (try simp at this); omega
  have z4' : w.heap.size < w4.heap.size := by omega
  have r0_4 : w4.cell? ⟨w.heap.size, 0, none⟩ = some (.int .i64 a) := carry hw4 (by first | omega | (simp; done) | (simp; omega)) (r0_3)
  have r1_4 : w4.cell? ⟨w.heap.size, 1, none⟩ = some (.int .i64 b) := carry hw4 (by first | omega | (simp; done) | (simp; omega)) (r1_3)
  have r2_4 : w4.cell? ⟨w.heap.size, 2, none⟩ = some (.int .i64 c) := carry hw4 (by first | omega | (simp; done) | (simp; omega)) (r2_3)
  have r3_4 : w4.cell? ⟨w.heap.size, 3, none⟩ = some (.int .i64 d) := carry hw4 (by first | omega | (simp; done) | (simp; omega)) (r3_3)
  have r4_4 : w4.cell? ⟨w.heap.size, 4, none⟩ = some (.int .i64 t) := carry hw4 (by first | omega | (simp; done) | (simp; omega)) (r4_3)
  have s0_4 : w4.cell? ⟨w.heap.size + 1, 0, none⟩ = some (.int .i64 a') := carry hw4 (by first | omega | (simp; done) | (simp; omega)) (s0_3)
  have s1_4 : w4.cell? ⟨w.heap.size + 1, 1, none⟩ = some (.int .i64 b') := carry hw4 (by first | omega | (simp; done) | (simp; omega)) (s1_3)
  have s2_4 : w4.cell? ⟨w.heap.size + 1, 2, none⟩ = some (.int .i64 c') := carry hw4 (by first | omega | (simp; done) | (simp; omega)) (s2_3)
  have s3_4 : w4.cell? ⟨w.heap.size + 1, 3, none⟩ = some (.int .i64 d') := carry hw4 (by first | omega | (simp; done) | (simp; omega)) (s3_3)
  have s4_4 : w4.cell? ⟨w.heap.size + 1, 4, none⟩ = some (.int .i64 t') := carry hw4 (by first | omega | (simp; done) | (simp; omega)) (s4_3)
  clear r0_3 s0_3 r1_3 s1_3 r2_3 s2_3 r3_3 s3_3 r4_3 s4_3
  have hB4 : Below w.heap.size w w4 := belT hB3 hw4
  have hbd4' := Lib.hid (bdsIs_below hbd2'.out hw4)
  clear hw4 hbd2'
  cases hmb : mayR a' b' c' d' t'
  · obtain ⟨rfl, ad, rfl⟩ := hbad'.out (by unfold ruOk; rw [hma'.out, hmb]; rfl)
    clear hmb
    go_wp2_with (go_at_call 16; refine (num_any _ _ (by omega) (by omega)).mono ?_; rintro e w' ⟨rfl, rfl⟩)
    go_ret
    exact ⟨rfl, hB4⟩
  have hmb' := Lib.hid hmb; clear hmb
  by_cases h1 : 4095 ≤ t
  · obtain ⟨rfl, ad, rfl⟩ := hbad'.out (by unfold ruOk; rw [decide_eq_false (by omega), Bool.and_false])
    go_wp2_with (go_at_call 16; refine (num_any _ _ (by omega) (by omega)).mono ?_; rintro e w' ⟨rfl, rfl⟩)
    go_ret
    exact ⟨rfl, hB4⟩
  by_cases h2 : 4095 ≤ t'
  · obtain ⟨rfl, ad, rfl⟩ := hbad'.out (by unfold ruOk; rw [decide_eq_false (by omega), Bool.and_false])
    go_wp2_with (go_at_call 16; refine (num_any _ _ (by omega) (by omega)).mono ?_; rintro e w' ⟨rfl, rfl⟩)
    go_ret
    exact ⟨rfl, hB4⟩
  have hok := Lib.hid (show ruOk a b c d t a' b' c' d' t' 4095 = true by unfold ruOk; rw [hma'.out, hmb'.out, decide_eq_true (by omega)]; rfl)
  clear hbad'
  go_wp2_with fail
  go_loopw [7, 8, 9] (fun mo le i wr => ∃ (k : Nat) (z : Int), k ≤ 4 ∧ i = .int .i64 z ∧ z = k ∧ mo = .bool (mk a b c d a' b' c' d' k) ∧ le = .bool (mk a' b' c' d' a b c d k) ∧ ∃ nq, wr = w4.drewN nq) (fun _ _ i _ => 4 - (intOf i).toNat)
  case atStart => exact ⟨0, 0, by omega, rfl, rfl, rfl, rfl, 0, rfl⟩
  case round =>
    obtain ⟨k, z, hk, rfl, hz, rfl, rfl, nq, rfl⟩ := hrel
    have hk5 : k = 0 ∨ k = 1 ∨ k = 2 ∨ k = 3 ∨ k = 4 := by omega
    rcases hk5 with rfl | rfl | rfl | rfl | rfl
    · obtain rfl : z = 0 := by omega
      clear hz
      have hn1 := Lib.hid (mk_s0 a b c d a' b' c' d')
      have hn2 := Lib.hid (mk_s0 a' b' c' d' a b c d)
      cases hmo : mk a b c d a' b' c' d' 0 <;> cases hle : mk a' b' c' d' a b c d 0
      all_goals
        have hmo' := Lib.hid hmo
        have hle' := Lib.hid hle
        clear hmo hle
        go_wp2_with fail
        go_quiet (fail)
        go_wp2_with fail
        go_quiet (fail)
        go_wp2_with fail
        go_roundw
        case rel => exact ⟨1, 1, by omega, rfl, rfl, by rw [hn1.out, hmo'.out]; simp, by rw [hn2.out, hle'.out]; simp, by first | exact ⟨0, rfl⟩ | exact ⟨_, rfl⟩ | exact dr_add ⟨_, rfl⟩ | exact dr_add (dr_add ⟨_, rfl⟩)⟩
        case measure => simp [intOf]
    · obtain rfl : z = 1 := by omega
      clear hz
      have hn1 := Lib.hid (mk_s1 a b c d a' b' c' d')
      have hn2 := Lib.hid (mk_s1 a' b' c' d' a b c d)
      cases hmo : mk a b c d a' b' c' d' 1 <;> cases hle : mk a' b' c' d' a b c d 1
      all_goals
        have hmo' := Lib.hid hmo
        have hle' := Lib.hid hle
        clear hmo hle
        go_wp2_with fail
        go_quiet (fail)
        go_wp2_with fail
        go_quiet (fail)
        go_wp2_with fail
        go_roundw
        case rel => exact ⟨2, 2, by omega, rfl, rfl, by rw [hn1.out, hmo'.out]; simp, by rw [hn2.out, hle'.out]; simp, by first | exact ⟨0, rfl⟩ | exact ⟨_, rfl⟩ | exact dr_add ⟨_, rfl⟩ | exact dr_add (dr_add ⟨_, rfl⟩)⟩
        case measure => simp [intOf]
    · obtain rfl : z = 2 := by omega
      clear hz
      have hn1 := Lib.hid (mk_s2 a b c d a' b' c' d')
      have hn2 := Lib.hid (mk_s2 a' b' c' d' a b c d)
      cases hmo : mk a b c d a' b' c' d' 2 <;> cases hle : mk a' b' c' d' a b c d 2
      all_goals
        have hmo' := Lib.hid hmo
        have hle' := Lib.hid hle
        clear hmo hle
        go_wp2_with fail
        go_quiet (fail)
        go_wp2_with fail
        go_quiet (fail)
        go_wp2_with fail
        go_roundw
        case rel => exact ⟨3, 3, by omega, rfl, rfl, by rw [hn1.out, hmo'.out]; simp, by rw [hn2.out, hle'.out]; simp, by first | exact ⟨0, rfl⟩ | exact ⟨_, rfl⟩ | exact dr_add ⟨_, rfl⟩ | exact dr_add (dr_add ⟨_, rfl⟩)⟩
        case measure => simp [intOf]
    · obtain rfl : z = 3 := by omega
      clear hz
      have hn1 := Lib.hid (mk_s3 a b c d a' b' c' d')
      have hn2 := Lib.hid (mk_s3 a' b' c' d' a b c d)
      cases hmo : mk a b c d a' b' c' d' 3 <;> cases hle : mk a' b' c' d' a b c d 3
      all_goals
        have hmo' := Lib.hid hmo
        have hle' := Lib.hid hle
        clear hmo hle
        go_wp2_with fail
        go_quiet (fail)
        go_wp2_with fail
        go_quiet (fail)
        go_wp2_with fail
        go_roundw
        case rel => exact ⟨4, 4, by omega, rfl, rfl, by rw [hn1.out, hmo'.out]; simp, by rw [hn2.out, hle'.out]; simp, by first | exact ⟨0, rfl⟩ | exact ⟨_, rfl⟩ | exact dr_add ⟨_, rfl⟩ | exact dr_add (dr_add ⟨_, rfl⟩)⟩
        case measure => simp [intOf]
    · obtain rfl : z = 4 := by omega
      clear hz
      rw [mk_more, mk_more]
      have hru := ru_yes hok.out
      rw [hL1'.out, hE1'.out] at hru
      have hbo := hbd4'.out
      have hru' := Lib.hid hru
      clear hru hbo
      go_upto_region 12 with fail
      go_cut [7, 8, 10] (fun s7 s8 s10 wx => s10 = .bool (refB a b c d t a' b' c' d' t') ∧ ∃ nq, wx = w4.drewN nq)
      case first =>
        cases m1 : moreB a b c d a' b' c' d' <;> cases m2 : moreB a' b' c' d' a b c d <;> cases htt : (t == t')
        all_goals
          have hte : decide (t = t') = (t == t') := by first | rfl | (rw [htt]; simp at htt; simp [htt])
          rw [htt] at hte
          have m1' := Lib.hid m1; have m2' := Lib.hid m2; have hte' := Lib.hid hte
          clear m1 m2 hte
          go_wp2_with fail
          all_goals (go_meet; refine ⟨?_, _, rfl⟩; rw [Value.bool.injEq]; unfold refB; rw [m1'.out, m2'.out, hte'.out]; first | rfl | (simp; done) | (simp; omega) | (simp [*]; done))
      case rest =>
        obtain ⟨rfl, nq2, rfl⟩ := hcut
        have hsome : (uniR a b c d t a' b' c' d' t' 4095).isSome = !(refB a b c d t a' b' c' d' t') := by
          cases hrf : refB a b c d t a' b' c' d' t'
          · rcases uni_forms (f := 4095) hrf with ⟨_, _, _, _, _, hu⟩ | ⟨_, _, _, _, _, hu⟩ | ⟨_, _, _, _, _, hu⟩ | ⟨_, hu⟩ <;> (rw [hu]; rfl)
          · rw [uni_refused hrf]; rfl
        have hE := hru'.out.2
        rw [hsome] at hE
        clear hsome
        cases hrf : refB a b c d t a' b' c' d' t'
        · rw [hrf] at hE
          obtain rfl : E1 = 0 := hE
          obtain ⟨n, ad, x0, x1, x2, x3, x4, rfl, hn2, hn0, hua, hub⟩ := und_forms hrf hma'.out hmb'.out hru'.out.1.symm hbd4'.out
          have hua' := Lib.hid hua; have hub' := Lib.hid hub; have hn0' := Lib.hid hn0; have hrf' := Lib.hid hrf
          clear hua hub hn0 hrf hok hru' hbd4'
          have hw5 : Below w4.heap.size w4 (w4.drewN nq2) := below_drewN (Below.refl _ _) _
          generalize w4.drewN nq2 = w5 at hw5
          have z5 : w.heap.size + 1 < w5.heap.size := by have := hw5.size; (try simp at this); omega
          have z5' : w.heap.size < w5.heap.size := by omega
          have r0_5 : w5.cell? ⟨w.heap.size, 0, none⟩ = some (.int .i64 a) := carry hw5 (by first | omega | (simp; done) | (simp; omega)) (r0_4)
          have r1_5 : w5.cell? ⟨w.heap.size, 1, none⟩ = some (.int .i64 b) := carry hw5 (by first | omega | (simp; done) | (simp; omega)) (r1_4)
          have r2_5 : w5.cell? ⟨w.heap.size, 2, none⟩ = some (.int .i64 c) := carry hw5 (by first | omega | (simp; done) | (simp; omega)) (r2_4)
          have r3_5 : w5.cell? ⟨w.heap.size, 3, none⟩ = some (.int .i64 d) := carry hw5 (by first | omega | (simp; done) | (simp; omega)) (r3_4)
          have r4_5 : w5.cell? ⟨w.heap.size, 4, none⟩ = some (.int .i64 t) := carry hw5 (by first | omega | (simp; done) | (simp; omega)) (r4_4)
          have s0_5 : w5.cell? ⟨w.heap.size + 1, 0, none⟩ = some (.int .i64 a') := carry hw5 (by first | omega | (simp; done) | (simp; omega)) (s0_4)
          have s1_5 : w5.cell? ⟨w.heap.size + 1, 1, none⟩ = some (.int .i64 b') := carry hw5 (by first | omega | (simp; done) | (simp; omega)) (s1_4)
          have s2_5 : w5.cell? ⟨w.heap.size + 1, 2, none⟩ = some (.int .i64 c') := carry hw5 (by first | omega | (simp; done) | (simp; omega)) (s2_4)
          have s3_5 : w5.cell? ⟨w.heap.size + 1, 3, none⟩ = some (.int .i64 d') := carry hw5 (by first | omega | (simp; done) | (simp; omega)) (s3_4)
          have s4_5 : w5.cell? ⟨w.heap.size + 1, 4, none⟩ = some (.int .i64 t') := carry hw5 (by first | omega | (simp; done) | (simp; omega)) (s4_4)
          have hB5 : Below w.heap.size w w5 := belT hB4 hw5
          have hua2 := Lib.hid (fun (W : World) (h : Below w5.heap.size w5 W) => hua'.out W (belT hw5 h))
          have hub2 := Lib.hid (fun (W : World) (h : Below w5.heap.size w5 W) => hub'.out W (belT hw5 h))
          clear hua' hub' hw5
          go_upto_region 15 with fail
          go_cut [11, 12] (fun s11 s12 wx => XyPost w5 x0 x1 x2 x3 x4 s11 s12 wx)
          case first =>
            go_region_held3 (fun W => W.cell? ⟨w.heap.size, 0, none⟩ = some (.int .i64 a) ∧ W.cell? ⟨w.heap.size, 1, none⟩ = some (.int .i64 b) ∧ W.cell? ⟨w.heap.size, 2, none⟩ = some (.int .i64 c) ∧ W.cell? ⟨w.heap.size, 3, none⟩ = some (.int .i64 d) ∧ W.cell? ⟨w.heap.size, 4, none⟩ = some (.int .i64 t) ∧ W.cell? ⟨w.heap.size + 1, 0, none⟩ = some (.int .i64 a') ∧ W.cell? ⟨w.heap.size + 1, 1, none⟩ = some (.int .i64 b') ∧ W.cell? ⟨w.heap.size + 1, 2, none⟩ = some (.int .i64 c') ∧ W.cell? ⟨w.heap.size + 1, 3, none⟩ = some (.int .i64 d') ∧ W.cell? ⟨w.heap.size + 1, 4, none⟩ = some (.int .i64 t'))
              (exact rowsS_of z5' z5 r0_5 r1_5 r2_5 r3_5 r4_5 s0_5 s1_5 s2_5 s3_5 s4_5 (by (repeat' (first | with_reducible exact Below.refl _ _ | with_reducible assumption | with_reducible apply Below.setCell | with_reducible apply Below.alloc | with_reducible apply Below.drew | with_reducible apply below_drewN | with_reducible exact Nat.le_refl _ | (simp; done) | (simp; omega) | omega | exact Nat.le_refl _))))
              ((go_at_call 21; (first | (with_reducible refine (hua2.out _ (by (repeat' (first | with_reducible exact Below.refl _ _ | with_reducible assumption | with_reducible apply Below.setCell | with_reducible apply Below.alloc | with_reducible apply Below.drew | with_reducible apply below_drewN | with_reducible exact Nat.le_refl _ | (simp; done) | (simp; omega) | omega | exact Nat.le_refl _)))).mono ?_) | (with_reducible refine (hub2.out _ (by (repeat' (first | with_reducible exact Below.refl _ _ | with_reducible assumption | with_reducible apply Below.setCell | with_reducible apply Below.alloc | with_reducible apply Below.drew | with_reducible apply below_drewN | with_reducible exact Nat.le_refl _ | (simp; done) | (simp; omega) | omega | exact Nat.le_refl _)))).mono ?_)); rintro e w9 ⟨rfl, nq9, rfl⟩))
            all_goals (go_wp2_with fail; go_meet; (try simp only [setCell_drewN', alloc_drewN']); (try simp [World.setCell_alloc_past, World.setCell_alloc_at]); with_reducible refine xy_fin (by (repeat' (first | with_reducible exact Below.refl _ _ | with_reducible assumption | with_reducible apply Below.setCell | with_reducible apply Below.alloc | with_reducible apply Below.drew | with_reducible apply below_drewN | with_reducible exact Nat.le_refl _ | (simp; done) | (simp; omega) | omega | exact Nat.le_refl _))) (by first | (simp [cell_drewN, World.cell?_alloc_past, World.cell?_alloc_at]; done) | (simp [go_sem, cell_drewN]; done)) (by first | (simp [cell_drewN, World.cell?_alloc_past, World.cell?_alloc_at]; done) | (simp [go_sem, cell_drewN]; done)))
          case rest =>
            obtain ⟨g, h, rfl, rfl, hbx, ⟨g0, g1, g2, g3, g4⟩, ⟨k0, k1, k2, k3, k4⟩⟩ := hcut
            have z9 : w.heap.size + 1 < wc.heap.size := by have := hbx.size; omega
            have z9' : w.heap.size < wc.heap.size := by omega
            have r0_9 := carry hbx z5' r0_5
            have s0_9 := carry hbx z5 s0_5
            have r1_9 := carry hbx z5' r1_5
            have s1_9 := carry hbx z5 s1_5
            have r2_9 := carry hbx z5' r2_5
            have s2_9 := carry hbx z5 s2_5
            have r3_9 := carry hbx z5' r3_5
            have s3_9 := carry hbx z5 s3_5
            have r4_9 := carry hbx z5' r4_5
            have s4_9 := carry hbx z5 s4_5
            have hB9 : Below w.heap.size w wc := belT hB5 hbx
            clear hbx hua2 hub2 r0_5 s0_5 r0_4 s0_4 r1_5 s1_5 r1_4 s1_4 r2_5 s2_5 r2_4 s2_4 r3_5 s3_5 r3_4 s3_4 r4_5 s4_5 r4_4 s4_4
            have hq : ∀ (x0 x1 x2 x3 y0 y1 y2 y3 : Int) (W : World), (Op.equalIn 9999 22 (.agg #[.int .i64 x0, .int .i64 x1, .int .i64 x2, .int .i64 x3]) (.agg #[.int .i64 y0, .int .i64 y1, .int .i64 y2, .int .i64 y3])).run Tryd.prog W = .ok (x0 == y0 && (x1 == y1 && (x2 == y2 && x3 == y3))) W := fun x0 x1 x2 x3 y0 y1 y2 y3 W => arr_in 9997 22 Tryd.underlying22 W x0 x1 x2 x3 y0 y1 y2 y3
            have hn : n = 0 ∨ n = 1 ∨ n = 2 := by omega
            clear hn2
            rcases hn with rfl | rfl | rfl
            · obtain ⟨e0, e1, e2, e3, e4⟩ := hn0'.out rfl
              have f0 : (a == a') = true := by simpa using e0
              have f1 : (b == b') = true := by simpa using e1
              have f2 : (c == c') = true := by simpa using e2
              have f3 : (d == d') = true := by simpa using e3
              have f4 : (t == t') = true := by simpa using e4
              clear e0 e1 e2 e3 e4
              go_wp2_with (go_at_call 16; refine (num_any _ _ (by omega) (by omega)).mono ?_; rintro e w' ⟨rfl, rfl⟩)
              go_ret
              exact ⟨rfl, hB9⟩
            · go_wp2_with (go_at_call 16; refine (num_any _ _ (by omega) (by omega)).mono ?_; rintro e w' ⟨rfl, rfl⟩)
              go_ret
              exact ⟨rfl, hB9⟩
            · go_wp2_with (go_at_call 16; refine (num_any _ _ (by omega) (by omega)).mono ?_; rintro e w' ⟨rfl, rfl⟩)
              go_ret
              exact ⟨rfl, hB9⟩
        · rw [hrf] at hE
          obtain rfl : E1 = 801 := hE
          have hbo := hbd4'.out
          rw [hru'.out.1, uni_refused hrf] at hbo
          obtain ⟨ad, rfl⟩ := slice0 hbo
          have hrf' := Lib.hid hrf; clear hrf hbo hru' hbd4'
          go_wp2_with (go_at_call 16; refine (num_any _ _ (by omega) (by omega)).mono ?_; rintro e w' ⟨rfl, rfl⟩)
          go_ret
          exact ⟨rfl, below_drewN hB4 _⟩
theorem own : ownKnob Tryd.prog.godebug = none := by kernel_rfl
theorem laidOut : laidOutB Tryd.prog = true := by kernel_rfl
set_option maxRecDepth 100000 in
theorem contract (H : Type) (enc : TypeId × Value → H) (W : World) (base : Nat) (args : Array Value) (ds gs : List (DataW H)) (before : List MemPlace)
    (hval0 : ∀ (j : Nat) t v, Tryd.f4.params[j]? = some t → args[j]? = some v → Value.okWide Tryd.prog W .any base t v)
    (hW : DataW.Whole enc Tryd.prog Tryd.f4.params.toList Rows.rowSolvesSpec.vars false W args.toList ds gs before)
    (hsz0 : (DataW.weightsEach Tryd.prog (Tryd.f4.params.toList ++ Rows.rowSolvesSpec.plain.varTypes Tryd.prog) (ds ++ gs)).all (· ≤ reachBytes) = true)
    : Calls Tryd.prog 4 args W fun e W' => ∃ v, e = .returned v ∧ Rows.rowSolvesSpec.post enc Tryd.prog Tryd.f4 false true false false W args v W' := by
  have hval : ∀ (j : Nat) t v, Tryd.f4.params[j]? = some t → args[j]? = some v → Value.okWide Tryd.prog W .any base t v := hval0
  have hsz : (DataW.weightsEach Tryd.prog (Tryd.f4.params.toList ++ Rows.rowSolvesSpec.plain.varTypes Tryd.prog) (ds ++ gs)).all (· ≤ reachBytes) = true := hsz0
  have hW' := hW
  obtain ⟨p, q, hA0, hV, rfl, hfz, hnd⟩ := hW
  have hA : DataW.TrodAll enc Tryd.prog W 0 (fun _ => true) true Tryd.f4.params.toList args.toList ds p := hA0
  rw [Tryd.params4] at hA hval hsz
  obtain ⟨v0, vs0, d0, ds0, p0, q0, hargs, rfl, rfl, h0, r0⟩ := trodAll_cons hA
  obtain ⟨v1, vs1, d1, ds1, p1, q1, rfl, rfl, rfl, h1, r1⟩ := trodAll_cons r0
  obtain ⟨rfl, rfl, rfl⟩ := trodAll_nil r1
  obtain rfl : args = #[v0, v1] := by cases args; simp_all
  obtain ⟨rfl, rfl⟩ := trodVars_none hV
  have k0 := h0
  have lt0 : ∀ x ∈ p0, x.block < W.heap.size := by obtain ⟨m, hm⟩ := k0; exact DataW.trod_lt m _ _ _ hm
  obtain ⟨cs0_0, rfl, fit0_0⟩ := open_struct Tryd.underlying24 (f := 6) (by kernel_rfl : flat Tryd.prog 6 24 = some [.i .i64, .i .i64, .i .i64, .i .i64, .i .i64]) (hval 0 24 v0 rfl rfl) h0 (sized_of hsz (j := 0) (t := 24) rfl rfl)
  obtain ⟨_, cs0_1, rfl, ⟨a0_0, rfl, b0_0⟩, fit0_1⟩ := fit_i fit0_0
  obtain ⟨_, cs0_2, rfl, ⟨a0_1, rfl, b0_1⟩, fit0_2⟩ := fit_i fit0_1
  obtain ⟨_, cs0_3, rfl, ⟨a0_2, rfl, b0_2⟩, fit0_3⟩ := fit_i fit0_2
  obtain ⟨_, cs0_4, rfl, ⟨a0_3, rfl, b0_3⟩, fit0_4⟩ := fit_i fit0_3
  obtain ⟨_, cs0_5, rfl, ⟨a0_4, rfl, b0_4⟩, fit0_5⟩ := fit_i fit0_4
  obtain rfl := fit_nil fit0_5
  have k1 := h1
  have lt1 : ∀ x ∈ p1, x.block < W.heap.size := by obtain ⟨m, hm⟩ := k1; exact DataW.trod_lt m _ _ _ hm
  obtain ⟨cs1_0, rfl, fit1_0⟩ := open_struct Tryd.underlying24 (f := 6) (by kernel_rfl : flat Tryd.prog 6 24 = some [.i .i64, .i .i64, .i .i64, .i .i64, .i .i64]) (hval 1 24 v1 rfl rfl) h1 (sized_of hsz (j := 1) (t := 24) rfl rfl)
  obtain ⟨_, cs1_1, rfl, ⟨a1_0, rfl, b1_0⟩, fit1_1⟩ := fit_i fit1_0
  obtain ⟨_, cs1_2, rfl, ⟨a1_1, rfl, b1_1⟩, fit1_2⟩ := fit_i fit1_1
  obtain ⟨_, cs1_3, rfl, ⟨a1_2, rfl, b1_2⟩, fit1_3⟩ := fit_i fit1_2
  obtain ⟨_, cs1_4, rfl, ⟨a1_3, rfl, b1_3⟩, fit1_4⟩ := fit_i fit1_3
  obtain ⟨_, cs1_5, rfl, ⟨a1_4, rfl, b1_4⟩, fit1_5⟩ := fit_i fit1_4
  obtain rfl := fit_nil fit1_5
  clear hA0 hval0
  refine (walk a0_0 a0_1 a0_2 a0_3 a0_4 a1_0 a1_1 a1_2 a1_3 a1_4 W (bd_i64 b0_0) (bd_i64 b0_1) (bd_i64 b0_2) (bd_i64 b0_3) (bd_i64 b0_4) (bd_i64 b1_0) (bd_i64 b1_1) (bd_i64 b1_2) (bd_i64 b1_3) (bd_i64 b1_4)).mono fun e W' ⟨he, bel⟩ => ?_
  subst he
  exact ⟨_, rfl, _, _, _, [], _, [], hW', trodAll_mk1 (shut_bool Tryd.underlying4 _), (trodAll_cons_mk (Below.trod laidOut (by kernel_rfl) (of_decide_eq_true (by kernel_rfl)) k0 bel lt0) (trodAll_cons_mk (Below.trod laidOut (by kernel_rfl) (of_decide_eq_true (by kernel_rfl)) k1 bel lt1) trodAll_mk0)), rfl, bel.frame _, fun h => by cases h⟩
noncomputable def laidWorld (os : Os) : World := { World.holding Tryd.prog os ⟨#[], #[], []⟩ with heap := layAll Tryd.prog Rows.rowSolvesRow.laid (World.holding Tryd.prog os ⟨#[], #[], []⟩).heap }
theorem laid_met (os : Os) : laidMet Tryd.prog Rows.rowSolvesRow.laid ((laidWorld os).forCall (fun _ _ => 0) ⟨#[], #[.agg #[.int .i64 0, .int .i64 0, .int .i64 0, .int .i64 0, .int .i64 0], .agg #[.int .i64 0, .int .i64 0, .int .i64 0, .int .i64 0, .int .i64 0]], []⟩).memory := laidMet_of_run' 8 (by kernel_rfl) (by kernel_rfl)
theorem reads (os : Os) {H : Type} (enc : TypeId × Value → H) : ∃ places, DataW.whole enc Tryd.prog ((laidWorld os).forCall (fun _ _ => 0) ⟨#[], #[.agg #[.int .i64 0, .int .i64 0, .int .i64 0, .int .i64 0, .int .i64 0], .agg #[.int .i64 0, .int .i64 0, .int .i64 0, .int .i64 0, .int .i64 0]], []⟩).memory Tryd.f4.params.toList Rows.rowSolvesSpec.vars false #[(.agg #[.int .i64 0, .int .i64 0, .int .i64 0, .int .i64 0, .int .i64 0] : Value), (.agg #[.int .i64 0, .int .i64 0, .int .i64 0, .int .i64 0, .int .i64 0] : Value)].toList 8 = some ([.agg [.agg [.lit (.int .i64 0), .lit (.int .i64 0), .lit (.int .i64 0), .lit (.int .i64 0)], .lit (.int .i64 0)], .agg [.agg [.lit (.int .i64 0), .lit (.int .i64 0), .lit (.int .i64 0), .lit (.int .i64 0)], .lit (.int .i64 0)]], [], places) := ⟨[], by kernel_rfl⟩
set_option maxRecDepth 100000 in
theorem lifted (os : Os) (started : os.Started) (H : Type) (enc : TypeId × Value → H) (F : Stop.Interp) :
    ReturnsInHanded {} Tryd.checked os 4 .any ((OpenSpec.ofChange Rows.rowSolvesSpec).preRow enc Tryd.prog Tryd.f4 Rows.rowSolvesRow.domain false Rows.rowSolvesRow.laid) (((OpenSpec.ofChange Rows.rowSolvesSpec).at F).post enc Tryd.prog Tryd.f4 false true false false) := by
  obtain ⟨places, hx⟩ := reads os enc
  refine returnsInHanded_of_row (C := Tryd.checked) (s := (OpenSpec.ofChange Rows.rowSolvesSpec)) own started (by kernel_rfl) Tryd.func4
    (witness_row_at (enc := enc) (C := Tryd.checked) false (laidWorld os) #[.agg #[.int .i64 0, .int .i64 0, .int .i64 0, .int .i64 0, .int .i64 0], .agg #[.int .i64 0, .int .i64 0, .int .i64 0, .int .i64 0, .int .i64 0]] rfl (by kernel_rfl) (by kernel_rfl) (by kernel_rfl)
      (OpenSpec.preRow_of_cond 8 hx (by kernel_rfl) (fun k hk => by cases hk) (by kernel_rfl) (laid_met os))) ?_
  intro W base args ds gs before hval hW _ hcnd hsz hL _ _
  exact contract H enc W base args ds gs before hval hW hsz  
theorem said : Rows.RowSolvesSaid :=
  OpenClaim.holds_of_cond 4 Tryd.f4 rfl rfl rfl rfl rfl rfl rfl ⟨rfl, rfl, rfl, rfl, rfl⟩ rfl rfl rfl rfl rfl (by kernel_rfl) Tryd.func4 (by kernel_rfl)
    (of_decide_eq_true (by kernel_rfl)) (by unfold Func.isWrapper; first | (rw [if_pos (by decide +kernel)]; kernel_rfl) | (rw [if_neg (by decide +kernel)]; exact ⟨rfl, rfl⟩))
    (fun os started H enc _ F => by rw [OpenClaim.pre_eq_preRow]; exact lifted os started H enc F)
theorem plain (f : FuncId) (fn : Func) (hf : Tryd.pinned.checked.prog.funcNamed "trammel/trammellaw8.RowSolves" = some f) (hfn : Tryd.pinned.checked.prog.funcs[f]? = some fn) :
    false = Tryd.pinned.checked.prog.looks [] ∧ ∀ (j : Nat) t, fn.params[j]? = some t → Tryd.pinned.checked.prog.wantsStandIn t = false := by
  obtain rfl : f = 4 := Option.some.inj ((show Tryd.prog.funcNamed "trammel/trammellaw8.RowSolves" = some 4 by kernel_rfl).symm.trans hf) |>.symm
  obtain rfl : fn = Tryd.f4 := (Option.some.inj (Tryd.func4.symm.trans hfn)).symm
  refine ⟨by kernel_rfl, fun j t ht => ?_⟩
  rw [Tryd.params4] at ht
  have hm := Array.mem_of_getElem? ht
  have hm2 : t ∈ ([24] : List Nat) := by simpa using hm
  simp only [List.mem_cons, List.not_mem_nil, or_false] at hm2
  subst hm2; exact (show Tryd.prog.wantsStandIn 24 = false by kernel_rfl)
theorem proved : Rows.RowSolvesCardSaid :=
  Claim7.holds_tied_plain_at .later [] _ _ _ _ said (fun _ h => by cases h) (by kernel_rfl) (fun _ h => by cases h) rowSolves_row_tie rfl ⟨rfl, rfl⟩ (by kernel_rfl) rfl plain (by kernel_rfl)
end Go.Proofs.YtlbopoidjnaokaaDoor.rowSolves
