/- RowSwap holds for every two rows and every number. No condition but that the listed package variables hold what the program's text lays. -/
import Derived.Test.YtlbopoidjnaokaaDoorRwS
import Derived.Test.YtlbopoidjnaokaaDoorAid
import Derived.Test.YtlbopoidjnaokaaDoorCards
import Derived.Test.YtlbopoidjnaokaaDoorTie
import Derived.Test.YtlbopoidjnaokaaDoorOpn
import Derived.Test.YtlbopoidjnaokaaDoorCrd
import Derived.WalkKit
import Derived.ProofKit
import Derived.Deep.DeepHandedRow
namespace Go.Proofs.YtlbopoidjnaokaaDoor.rowSwap
open Go.ChangeShapes Go.WideShapes Go.ChangeAt Go.RowKit
open Go.ChangeMaps (open_string shut_string)
set_option linter.unusedVariables false

theorem e_bd (a b c d t a' b' c' d' t' f : Int) : 0 ≤ ruE a b c d t a' b' c' d' t' f ∧ ruE a b c d t a' b' c' d' t' f ≤ 9223372036854775807 := by
  unfold ruE; (repeat' split) <;> omega
theorem form_of {B n : Nat} {w : World} {v : Value} {l : List Bd} (h : BdsIs B w v l) (hl : l.length = n) : (v = .slice none 0 0 ∧ n = 0) ∨ ∃ g, v = .slice (some ⟨g, 0, none⟩) n n := by
  subst hl
  rcases h with ⟨h, rfl⟩ | ⟨g, _, _, h3, _⟩
  · exact .inl ⟨h, rfl⟩
  · exact .inr ⟨g, h3⟩

set_option maxRecDepth 100000 in
set_option maxHeartbeats 8000000 in
theorem walk (a b c d t a' b' c' d' t' op : Int) (w : World) (b0 : -9223372036854775808 ≤ a ∧ a ≤ 9223372036854775807) (b1 : -9223372036854775808 ≤ b ∧ b ≤ 9223372036854775807) (b2 : -9223372036854775808 ≤ c ∧ c ≤ 9223372036854775807) (b3 : -9223372036854775808 ≤ d ∧ d ≤ 9223372036854775807) (b4 : -9223372036854775808 ≤ t ∧ t ≤ 9223372036854775807)
    (b0' : -9223372036854775808 ≤ a' ∧ a' ≤ 9223372036854775807) (b1' : -9223372036854775808 ≤ b' ∧ b' ≤ 9223372036854775807) (b2' : -9223372036854775808 ≤ c' ∧ c' ≤ 9223372036854775807) (b3' : -9223372036854775808 ≤ d' ∧ d' ≤ 9223372036854775807) (b4' : -9223372036854775808 ≤ t' ∧ t' ≤ 9223372036854775807) (b5 : -9223372036854775808 ≤ op ∧ op ≤ 9223372036854775807) :
    Calls Tryd.prog 6 #[.agg #[.int .i64 a, .int .i64 b, .int .i64 c, .int .i64 d, .int .i64 t], .agg #[.int .i64 a', .int .i64 b', .int .i64 c', .int .i64 d', .int .i64 t'], .int .i64 op] w fun e w' => e = .returned (.bool true) ∧ Below w.heap.size w w' := by
  clear b0 b1 b2 b3 b4 b0' b1' b2' b3' b4'
  have hk := and3 op
  generalize op % 4 = m at hk
  have hsw := ru_swap a b c d t a' b' c' d' t' 50
  have hE := e_bd a b c d t a' b' c' d' t' 50
  have hlen := ruL_len a b c d t a' b' c' d' t' 50
  have hpl := fun (h : withOk a b c d t m = true) (h' : withOk a' b' c' d' t' m = true) => ru_plus (f := 50) h h'
  generalize hL1 : ruL a b c d t a' b' c' d' t' 50 = L1 at *
  generalize hE1 : ruE a b c d t a' b' c' d' t' 50 = E1 at *
  generalize hL2 : ruL a' b' c' d' t' a b c d t 50 = L2 at *
  generalize hE2 : ruE a' b' c' d' t' a b c d t 50 = E2 at *
  obtain ⟨rfl, hlen2⟩ := hsw
  obtain ⟨n, hn⟩ : ∃ n, L1.length = n := ⟨_, rfl⟩
  have hn2 : L2.length = n := by omega
  have hL1' := Lib.hid hL1; have hE1' := Lib.hid hE1; have hL2' := Lib.hid hL2; have hE2' := Lib.hid hE2; have hpl' := Lib.hid hpl; have hn' := Lib.hid hn; have hn2' := Lib.hid hn2; have hlen' := Lib.hid hlen
  clear hL1 hE1 hL2 hE2 hlen2 hn hn2 hpl hlen
  go_enter Tryd.func6, Tryd.ntmps6
  go_wp2_with fail
  refine (awake_any _).mono ?_
  rintro e w1 ⟨rfl, hw1⟩
  have z1 : w.heap.size + 1 < w1.heap.size := by have := hw1.size; (try simp at this); omega
  have z1' : w.heap.size < w1.heap.size := by omega
  have r0_1 : w1.cell? ⟨w.heap.size, 0, none⟩ = some (.int .i64 a) := carry hw1 (by first | omega | (simp; done) | (simp; omega)) (by simp)
  have r1_1 : w1.cell? ⟨w.heap.size, 1, none⟩ = some (.int .i64 b) := carry hw1 (by first | omega | (simp; done) | (simp; omega)) (by simp)
  have r2_1 : w1.cell? ⟨w.heap.size, 2, none⟩ = some (.int .i64 c) := carry hw1 (by first | omega | (simp; done) | (simp; omega)) (by simp)
  have r3_1 : w1.cell? ⟨w.heap.size, 3, none⟩ = some (.int .i64 d) := carry hw1 (by first | omega | (simp; done) | (simp; omega)) (by simp)
  have r4_1 : w1.cell? ⟨w.heap.size, 4, none⟩ = some (.int .i64 t) := carry hw1 (by first | omega | (simp; done) | (simp; omega)) (by simp)
  have s0_1 : w1.cell? ⟨w.heap.size + 1, 0, none⟩ = some (.int .i64 a') := carry hw1 (by first | omega | (simp; done) | (simp; omega)) (by simp)
  have s1_1 : w1.cell? ⟨w.heap.size + 1, 1, none⟩ = some (.int .i64 b') := carry hw1 (by first | omega | (simp; done) | (simp; omega)) (by simp)
  have s2_1 : w1.cell? ⟨w.heap.size + 1, 2, none⟩ = some (.int .i64 c') := carry hw1 (by first | omega | (simp; done) | (simp; omega)) (by simp)
  have s3_1 : w1.cell? ⟨w.heap.size + 1, 3, none⟩ = some (.int .i64 d') := carry hw1 (by first | omega | (simp; done) | (simp; omega)) (by simp)
  have s4_1 : w1.cell? ⟨w.heap.size + 1, 4, none⟩ = some (.int .i64 t') := carry hw1 (by first | omega | (simp; done) | (simp; omega)) (by simp)
  have hB1 : Below w.heap.size w w1 := belT (by (repeat' (first | with_reducible exact Below.refl _ _ | with_reducible assumption | with_reducible apply Below.setCell | with_reducible apply Below.alloc | with_reducible apply Below.drew | with_reducible apply below_drewN | with_reducible exact Nat.le_refl _ | (simp; done) | (simp; omega) | omega | exact Nat.le_refl _))) hw1
  clear hw1
  go_wp2_with fail
  refine (rowUnify_any _ _ _ _ _ _ _ _ _ _ _ _).mono ?_
  rintro e w2 ⟨v1, rfl, hbd1, hw2⟩
  rw [hE1'.out]
  rw [hL1'.out] at hbd1
  have z2 : w.heap.size + 1 < w2.heap.size := by have := hw2.size; (try simp at this); omega
  have z2' : w.heap.size < w2.heap.size := by omega
  have r0_2 : w2.cell? ⟨w.heap.size, 0, none⟩ = some (.int .i64 a) := carry hw2 (by first | omega | (simp; done) | (simp; omega)) (r0_1)
  have r1_2 : w2.cell? ⟨w.heap.size, 1, none⟩ = some (.int .i64 b) := carry hw2 (by first | omega | (simp; done) | (simp; omega)) (r1_1)
  have r2_2 : w2.cell? ⟨w.heap.size, 2, none⟩ = some (.int .i64 c) := carry hw2 (by first | omega | (simp; done) | (simp; omega)) (r2_1)
  have r3_2 : w2.cell? ⟨w.heap.size, 3, none⟩ = some (.int .i64 d) := carry hw2 (by first | omega | (simp; done) | (simp; omega)) (r3_1)
  have r4_2 : w2.cell? ⟨w.heap.size, 4, none⟩ = some (.int .i64 t) := carry hw2 (by first | omega | (simp; done) | (simp; omega)) (r4_1)
  have s0_2 : w2.cell? ⟨w.heap.size + 1, 0, none⟩ = some (.int .i64 a') := carry hw2 (by first | omega | (simp; done) | (simp; omega)) (s0_1)
  have s1_2 : w2.cell? ⟨w.heap.size + 1, 1, none⟩ = some (.int .i64 b') := carry hw2 (by first | omega | (simp; done) | (simp; omega)) (s1_1)
  have s2_2 : w2.cell? ⟨w.heap.size + 1, 2, none⟩ = some (.int .i64 c') := carry hw2 (by first | omega | (simp; done) | (simp; omega)) (s2_1)
  have s3_2 : w2.cell? ⟨w.heap.size + 1, 3, none⟩ = some (.int .i64 d') := carry hw2 (by first | omega | (simp; done) | (simp; omega)) (s3_1)
  have s4_2 : w2.cell? ⟨w.heap.size + 1, 4, none⟩ = some (.int .i64 t') := carry hw2 (by first | omega | (simp; done) | (simp; omega)) (s4_1)
  clear r0_1 s0_1 r1_1 s1_1 r2_1 s2_1 r3_1 s3_1 r4_1 s4_1
  have hB2 : Below w.heap.size w w2 := belT hB1 hw2
  clear hw2
  have hbd1' := Lib.hid hbd1; clear hbd1
  go_wp2_with fail
  refine (rowUnify_any _ _ _ _ _ _ _ _ _ _ _ _).mono ?_
  rintro e w3 ⟨v2, rfl, hbd2, hw3⟩
  rw [hE2'.out]
  rw [hL2'.out] at hbd2
  have z3 : w.heap.size + 1 < w3.heap.size := by have := hw3.size; (try simp at this); omega
  have z3' : w.heap.size < w3.heap.size := by omega
  have r0_3 : w3.cell? ⟨w.heap.size, 0, none⟩ = some (.int .i64 a) := carry hw3 (by first | omega | (simp; done) | (simp; omega)) (r0_2)
  have r1_3 : w3.cell? ⟨w.heap.size, 1, none⟩ = some (.int .i64 b) := carry hw3 (by first | omega | (simp; done) | (simp; omega)) (r1_2)
  have r2_3 : w3.cell? ⟨w.heap.size, 2, none⟩ = some (.int .i64 c) := carry hw3 (by first | omega | (simp; done) | (simp; omega)) (r2_2)
  have r3_3 : w3.cell? ⟨w.heap.size, 3, none⟩ = some (.int .i64 d) := carry hw3 (by first | omega | (simp; done) | (simp; omega)) (r3_2)
  have r4_3 : w3.cell? ⟨w.heap.size, 4, none⟩ = some (.int .i64 t) := carry hw3 (by first | omega | (simp; done) | (simp; omega)) (r4_2)
  have s0_3 : w3.cell? ⟨w.heap.size + 1, 0, none⟩ = some (.int .i64 a') := carry hw3 (by first | omega | (simp; done) | (simp; omega)) (s0_2)
  have s1_3 : w3.cell? ⟨w.heap.size + 1, 1, none⟩ = some (.int .i64 b') := carry hw3 (by first | omega | (simp; done) | (simp; omega)) (s1_2)
  have s2_3 : w3.cell? ⟨w.heap.size + 1, 2, none⟩ = some (.int .i64 c') := carry hw3 (by first | omega | (simp; done) | (simp; omega)) (s2_2)
  have s3_3 : w3.cell? ⟨w.heap.size + 1, 3, none⟩ = some (.int .i64 d') := carry hw3 (by first | omega | (simp; done) | (simp; omega)) (s3_2)
  have s4_3 : w3.cell? ⟨w.heap.size + 1, 4, none⟩ = some (.int .i64 t') := carry hw3 (by first | omega | (simp; done) | (simp; omega)) (s4_2)
  clear r0_2 s0_2 r1_2 s1_2 r2_2 s2_2 r3_2 s3_2 r4_2 s4_2
  have hB3 : Below w.heap.size w w3 := belT hB2 hw3
  have hbd1'' := Lib.hid (bdsIs_below hbd1'.out hw3)
  clear hw3 hbd1'
  have hbd2' := Lib.hid hbd2; clear hbd2
  go_wp2_with fail
  refine (with_any _ _ _ _ _ _ _).mono ?_
  rintro e w4 ⟨rfl, hw4⟩
  have z4 : w.heap.size + 1 < w4.heap.size := by have := hw4.size; (try simp at this); omega
  have z4' : w.heap.size < w4.heap.size := by omega
  have r0_4 : w4.cell? ⟨w.heap.size, 0, none⟩ = some (.int .i64 a) := carry hw4 (by first | omega | (simp; done) | (simp; omega)) (r0_3)
  have r1_4 : w4.cell? ⟨w.heap.size, 1, none⟩ = some (.int .i64 b) := carry hw4 (by first | omega | (simp; done) | (simp; omega)) (r1_3)
  have r2_4 : w4.cell? ⟨w.heap.size, 2, none⟩ = some (.int .i64 c) := carry hw4 (by first | omega | (simp; done) | (simp; omega)) (r2_3)
  have r3_4 : w4.cell? ⟨w.heap.size, 3, none⟩ = some (.int .i64 d) := carry hw4 (by first | omega | (simp; done) | (simp; omega)) (r3_3)
  have r4_4 : w4.cell? ⟨w.heap.size, 4, none⟩ = some (.int .i64 t) := carry hw4 (by first | omega | (simp; done) | (simp; omega)) (r4_3)
  have s0_4 : w4.cell? ⟨w.heap.size + 1, 0, none⟩ = some (.int .i64 a') := carry hw4 (by first | omega | (simp; done) | (simp; omega)) (s0_3)
  have s1_4 : w4.cell? ⟨w.heap.size + 1, 1, none⟩ = some (.int .i64 b') := carry hw4 (by first | omega | (simp; done) | (simp; omega)) (s1_3)
  have s2_4 : w4.cell? ⟨w.heap.size + 1, 2, none⟩ = some (.int .i64 c') := carry hw4 (by first | omega | (simp; done) | (simp; omega)) (s2_3)
  have s3_4 : w4.cell? ⟨w.heap.size + 1, 3, none⟩ = some (.int .i64 d') := carry hw4 (by first | omega | (simp; done) | (simp; omega)) (s3_3)
  have s4_4 : w4.cell? ⟨w.heap.size + 1, 4, none⟩ = some (.int .i64 t') := carry hw4 (by first | omega | (simp; done) | (simp; omega)) (s4_3)
  clear r0_3 s0_3 r1_3 s1_3 r2_3 s2_3 r3_3 s3_3 r4_3 s4_3
  have hB4 : Below w.heap.size w w4 := belT hB3 hw4
  have hbd1a := Lib.hid (bdsIs_below hbd1''.out hw4)
  clear hw4 hbd1''
  have hvf := form_of hbd1a.out hn'.out
  have hvg := form_of hbd2'.out hn2'.out
  have hvf' := Lib.hid hvf; have hvg' := Lib.hid hvg
  clear hvf hvg
  cases hwa0 : withOk a b c d t m
  · have hwa := Lib.hid hwa0; clear hwa0
    cases hwb0 : withOk a' b' c' d' t' m
    · have hwb := Lib.hid hwb0; clear hwb0
      rw [show withV a b c d t m = .agg #[.int .i64 0, .int .i64 0, .int .i64 0, .int .i64 0, .int .i64 0] from by unfold withV; rw [hwa.out]; rfl, show withE a b c d t m = 800 from by unfold withE; rw [hwa.out]; rfl]
      go_wp2_with fail
      refine (with_any _ _ _ _ _ _ _).mono ?_
      rintro e w5 ⟨rfl, hw5⟩
      have z5c : w4.heap.size < w5.heap.size := by have := hw5.size; simp at this; omega
      have hB5 : Below w.heap.size w w5 := belT (by (repeat' (first | with_reducible exact Below.refl _ _ | with_reducible assumption | with_reducible apply Below.setCell | with_reducible apply Below.alloc | with_reducible apply Below.drew | with_reducible apply below_drewN | with_reducible exact Nat.le_refl _ | (simp; done) | (simp; omega) | omega | exact Nat.le_refl _))) hw5
      rw [show withV a' b' c' d' t' m = .agg #[.int .i64 0, .int .i64 0, .int .i64 0, .int .i64 0, .int .i64 0] from by unfold withV; rw [hwb.out]; rfl, show withE a' b' c' d' t' m = 800 from by unfold withE; rw [hwb.out]; rfl]
      rcases hvf'.out with ⟨rfl, hn0⟩ | ⟨g1, rfl⟩ <;> rcases hvg'.out with ⟨rfl, hm0⟩ | ⟨g2, rfl⟩
      all_goals
        (try subst hn0)
        (try subst hm0)
        go_wp2_with (go_at_call 16; refine (num_any _ _ (by omega) (by omega)).mono ?_; rintro e w' ⟨rfl, rfl⟩)
        go_ret
        exact ⟨rfl, by (repeat' (first | with_reducible exact Below.refl _ _ | with_reducible assumption | with_reducible apply Below.setCell | with_reducible apply Below.alloc | with_reducible apply Below.drew | with_reducible apply below_drewN | with_reducible exact Nat.le_refl _ | (simp; done) | (simp; omega) | omega | exact Nat.le_refl _))⟩
    · have hwb := Lib.hid hwb0; clear hwb0
      rw [show withV a b c d t m = .agg #[.int .i64 0, .int .i64 0, .int .i64 0, .int .i64 0, .int .i64 0] from by unfold withV; rw [hwa.out]; rfl, show withE a b c d t m = 800 from by unfold withE; rw [hwa.out]; rfl]
      go_wp2_with fail
      refine (with_any _ _ _ _ _ _ _).mono ?_
      rintro e w5 ⟨rfl, hw5⟩
      have z5c : w4.heap.size < w5.heap.size := by have := hw5.size; simp at this; omega
      have hB5 : Below w.heap.size w w5 := belT (by (repeat' (first | with_reducible exact Below.refl _ _ | with_reducible assumption | with_reducible apply Below.setCell | with_reducible apply Below.alloc | with_reducible apply Below.drew | with_reducible apply below_drewN | with_reducible exact Nat.le_refl _ | (simp; done) | (simp; omega) | omega | exact Nat.le_refl _))) hw5
      rw [show withV a' b' c' d' t' m = .agg #[.int .i64 (plus a' m 0), .int .i64 (plus b' m 1), .int .i64 (plus c' m 2), .int .i64 (plus d' m 3), .int .i64 t'] from by unfold withV; rw [hwb.out]; rfl, show withE a' b' c' d' t' m = 0 from by unfold withE; rw [hwb.out]; rfl]
      rcases hvf'.out with ⟨rfl, hn0⟩ | ⟨g1, rfl⟩ <;> rcases hvg'.out with ⟨rfl, hm0⟩ | ⟨g2, rfl⟩
      all_goals
        (try subst hn0)
        (try subst hm0)
        go_wp2_with (go_at_call 16; refine (num_any _ _ (by omega) (by omega)).mono ?_; rintro e w' ⟨rfl, rfl⟩)
        go_ret
        exact ⟨rfl, by (repeat' (first | with_reducible exact Below.refl _ _ | with_reducible assumption | with_reducible apply Below.setCell | with_reducible apply Below.alloc | with_reducible apply Below.drew | with_reducible apply below_drewN | with_reducible exact Nat.le_refl _ | (simp; done) | (simp; omega) | omega | exact Nat.le_refl _))⟩
  · have hwa := Lib.hid hwa0; clear hwa0
    cases hwb0 : withOk a' b' c' d' t' m
    · have hwb := Lib.hid hwb0; clear hwb0
      rw [show withV a b c d t m = .agg #[.int .i64 (plus a m 0), .int .i64 (plus b m 1), .int .i64 (plus c m 2), .int .i64 (plus d m 3), .int .i64 t] from by unfold withV; rw [hwa.out]; rfl, show withE a b c d t m = 0 from by unfold withE; rw [hwa.out]; rfl]
      go_wp2_with fail
      refine (with_any _ _ _ _ _ _ _).mono ?_
      rintro e w5 ⟨rfl, hw5⟩
      have z5c : w4.heap.size < w5.heap.size := by have := hw5.size; simp at this; omega
      have hB5 : Below w.heap.size w w5 := belT (by (repeat' (first | with_reducible exact Below.refl _ _ | with_reducible assumption | with_reducible apply Below.setCell | with_reducible apply Below.alloc | with_reducible apply Below.drew | with_reducible apply below_drewN | with_reducible exact Nat.le_refl _ | (simp; done) | (simp; omega) | omega | exact Nat.le_refl _))) hw5
      rw [show withV a' b' c' d' t' m = .agg #[.int .i64 0, .int .i64 0, .int .i64 0, .int .i64 0, .int .i64 0] from by unfold withV; rw [hwb.out]; rfl, show withE a' b' c' d' t' m = 800 from by unfold withE; rw [hwb.out]; rfl]
      rcases hvf'.out with ⟨rfl, hn0⟩ | ⟨g1, rfl⟩ <;> rcases hvg'.out with ⟨rfl, hm0⟩ | ⟨g2, rfl⟩
      all_goals
        (try subst hn0)
        (try subst hm0)
        go_wp2_with (go_at_call 16; refine (num_any _ _ (by omega) (by omega)).mono ?_; rintro e w' ⟨rfl, rfl⟩)
        go_ret
        exact ⟨rfl, by (repeat' (first | with_reducible exact Below.refl _ _ | with_reducible assumption | with_reducible apply Below.setCell | with_reducible apply Below.alloc | with_reducible apply Below.drew | with_reducible apply below_drewN | with_reducible exact Nat.le_refl _ | (simp; done) | (simp; omega) | omega | exact Nat.le_refl _))⟩
    · have hwb := Lib.hid hwb0; clear hwb0
      rw [show withV a b c d t m = .agg #[.int .i64 (plus a m 0), .int .i64 (plus b m 1), .int .i64 (plus c m 2), .int .i64 (plus d m 3), .int .i64 t] from by unfold withV; rw [hwa.out]; rfl, show withE a b c d t m = 0 from by unfold withE; rw [hwa.out]; rfl]
      go_wp2_with fail
      refine (with_any _ _ _ _ _ _ _).mono ?_
      rintro e w5 ⟨rfl, hw5⟩
      have z5c : w4.heap.size < w5.heap.size := by have := hw5.size; simp at this; omega
      have hB5 : Below w.heap.size w w5 := belT (by (repeat' (first | with_reducible exact Below.refl _ _ | with_reducible assumption | with_reducible apply Below.setCell | with_reducible apply Below.alloc | with_reducible apply Below.drew | with_reducible apply below_drewN | with_reducible exact Nat.le_refl _ | (simp; done) | (simp; omega) | omega | exact Nat.le_refl _))) hw5
      rw [show withV a' b' c' d' t' m = .agg #[.int .i64 (plus a' m 0), .int .i64 (plus b' m 1), .int .i64 (plus c' m 2), .int .i64 (plus d' m 3), .int .i64 t'] from by unfold withV; rw [hwb.out]; rfl, show withE a' b' c' d' t' m = 0 from by unfold withE; rw [hwb.out]; rfl]
      have c0_5 : w5.cell? ⟨w4.heap.size, 0, none⟩ = some (.int .i64 (plus a m 0)) := carry hw5 (by simp) (by simp)
      have c1_5 : w5.cell? ⟨w4.heap.size, 1, none⟩ = some (.int .i64 (plus b m 1)) := carry hw5 (by simp) (by simp)
      have c2_5 : w5.cell? ⟨w4.heap.size, 2, none⟩ = some (.int .i64 (plus c m 2)) := carry hw5 (by simp) (by simp)
      have c3_5 : w5.cell? ⟨w4.heap.size, 3, none⟩ = some (.int .i64 (plus d m 3)) := carry hw5 (by simp) (by simp)
      have c4_5 : w5.cell? ⟨w4.heap.size, 4, none⟩ = some (.int .i64 (t)) := carry hw5 (by simp) (by simp)
      have hbd5 := Lib.hid (bdsIs_below (bdsIs_below hbd1a.out (Joins.below_alloc1 w4 _)) hw5)
      rcases hvf'.out with ⟨rfl, hn0⟩ | ⟨g1, rfl⟩ <;> rcases hvg'.out with ⟨rfl, hm0⟩ | ⟨g2, rfl⟩
      all_goals
        (try subst hn0)
        (try subst hm0)
        go_wp2_with (go_at_call 16; refine (num_any _ _ (by omega) (by omega)).mono ?_; rintro e w' ⟨rfl, rfl⟩)
        refine (rowUnify_any _ _ _ _ _ _ _ _ _ _ _ _).mono ?_
        rintro e w6 ⟨v3, rfl, hbd3, hw6⟩
        rw [(hpl'.out hwa.out hwb.out).1] at hbd3
        rw [(hpl'.out hwa.out hwb.out).2]
        have hbd6 := Lib.hid (bdsIs_below (bdsIs_below hbd5.out (Joins.below_alloc1 w5 _)) hw6)
        have hbd3' := Lib.hid hbd3; clear hbd3
        have hB6 : Below w.heap.size w w6 := belT (by (repeat' (first | with_reducible exact Below.refl _ _ | with_reducible assumption | with_reducible apply Below.setCell | with_reducible apply Below.alloc | with_reducible apply Below.drew | with_reducible apply below_drewN | with_reducible exact Nat.le_refl _ | (simp; done) | (simp; omega) | omega | exact Nat.le_refl _))) hw6
        go_wp2_with (go_at_call 16; refine (num_any _ _ (by omega) (by omega)).mono ?_; rintro e w' ⟨rfl, rfl⟩)
        refine (sameBinds_any _ hbd3'.out hbd6.out hlen'.out).mono ?_
        rintro e w7 ⟨rfl, hw7⟩
        go_wp2_with fail
        go_ret
        exact ⟨rfl, belT hB6 hw7⟩

theorem own : ownKnob Tryd.prog.godebug = none := by kernel_rfl
theorem laidOut : laidOutB Tryd.prog = true := by kernel_rfl
set_option maxRecDepth 100000 in
theorem contract (H : Type) (enc : TypeId × Value → H) (W : World) (base : Nat) (args : Array Value) (ds gs : List (DataW H)) (before : List MemPlace)
    (hval0 : ∀ (j : Nat) t v, Tryd.f6.params[j]? = some t → args[j]? = some v → Value.okWide Tryd.prog W .any base t v)
    (hW : DataW.Whole enc Tryd.prog Tryd.f6.params.toList Rows.rowSwapSpec.vars false W args.toList ds gs before)
    (hsz0 : (DataW.weightsEach Tryd.prog (Tryd.f6.params.toList ++ Rows.rowSwapSpec.plain.varTypes Tryd.prog) (ds ++ gs)).all (· ≤ reachBytes) = true)
    : Calls Tryd.prog 6 args W fun e W' => ∃ v, e = .returned v ∧ Rows.rowSwapSpec.post enc Tryd.prog Tryd.f6 false true false false W args v W' := by
  have hval : ∀ (j : Nat) t v, Tryd.f6.params[j]? = some t → args[j]? = some v → Value.okWide Tryd.prog W .any base t v := hval0
  have hsz : (DataW.weightsEach Tryd.prog (Tryd.f6.params.toList ++ Rows.rowSwapSpec.plain.varTypes Tryd.prog) (ds ++ gs)).all (· ≤ reachBytes) = true := hsz0
  have hW' := hW
  obtain ⟨p, q, hA0, hV, rfl, hfz, hnd⟩ := hW
  have hA : DataW.TrodAll enc Tryd.prog W 0 (fun _ => true) true Tryd.f6.params.toList args.toList ds p := hA0
  rw [Tryd.params6] at hA hval hsz
  obtain ⟨v0, vs0, d0, ds0, p0, q0, hargs, rfl, rfl, h0, r0⟩ := trodAll_cons hA
  obtain ⟨v1, vs1, d1, ds1, p1, q1, rfl, rfl, rfl, h1, r1⟩ := trodAll_cons r0
  obtain ⟨v2, vs2, d2, ds2, p2, q2, rfl, rfl, rfl, h2, r2⟩ := trodAll_cons r1
  obtain ⟨rfl, rfl, rfl⟩ := trodAll_nil r2
  obtain rfl : args = #[v0, v1, v2] := by cases args; simp_all
  obtain ⟨rfl, rfl⟩ := trodVars_none hV
  have k0 := h0
  have lt0 : ∀ x ∈ p0, x.block < W.heap.size := by obtain ⟨m, hm⟩ := k0; exact DataW.trod_lt m _ _ _ hm
  obtain ⟨cs0_0, rfl, fit0_0⟩ := open_struct Tryd.underlying24 (f := 6) (by kernel_rfl : flat Tryd.prog 6 24 = some [.i .i64, .i .i64, .i .i64, .i .i64, .i .i64]) (hval 0 24 v0 rfl rfl) h0 (sized_of hsz (j := 0) (t := 24) rfl rfl)
  obtain ⟨_, cs0_1, rfl, ⟨a0_0, rfl, b0_0⟩, fit0_1⟩ := fit_i fit0_0
  obtain ⟨_, cs0_2, rfl, ⟨a0_1, rfl, b0_1⟩, fit0_2⟩ := fit_i fit0_1
  obtain ⟨_, cs0_3, rfl, ⟨a0_2, rfl, b0_2⟩, fit0_3⟩ := fit_i fit0_2
  obtain ⟨_, cs0_4, rfl, ⟨a0_3, rfl, b0_3⟩, fit0_4⟩ := fit_i fit0_3
  obtain ⟨_, cs0_5, rfl, ⟨a0_4, rfl, b0_4⟩, fit0_5⟩ := fit_i fit0_4
  obtain rfl := fit_nil fit0_5
  have k1 := h1
  have lt1 : ∀ x ∈ p1, x.block < W.heap.size := by obtain ⟨m, hm⟩ := k1; exact DataW.trod_lt m _ _ _ hm
  obtain ⟨cs1_0, rfl, fit1_0⟩ := open_struct Tryd.underlying24 (f := 6) (by kernel_rfl : flat Tryd.prog 6 24 = some [.i .i64, .i .i64, .i .i64, .i .i64, .i .i64]) (hval 1 24 v1 rfl rfl) h1 (sized_of hsz (j := 1) (t := 24) rfl rfl)
  obtain ⟨_, cs1_1, rfl, ⟨a1_0, rfl, b1_0⟩, fit1_1⟩ := fit_i fit1_0
  obtain ⟨_, cs1_2, rfl, ⟨a1_1, rfl, b1_1⟩, fit1_2⟩ := fit_i fit1_1
  obtain ⟨_, cs1_3, rfl, ⟨a1_2, rfl, b1_2⟩, fit1_3⟩ := fit_i fit1_2
  obtain ⟨_, cs1_4, rfl, ⟨a1_3, rfl, b1_3⟩, fit1_4⟩ := fit_i fit1_3
  obtain ⟨_, cs1_5, rfl, ⟨a1_4, rfl, b1_4⟩, fit1_5⟩ := fit_i fit1_4
  obtain rfl := fit_nil fit1_5
  have k2 := h2
  have lt2 : ∀ x ∈ p2, x.block < W.heap.size := by obtain ⟨m, hm⟩ := k2; exact DataW.trod_lt m _ _ _ hm
  obtain ⟨a2, rfl, rfl, rfl, m2⟩ := open_int Tryd.underlying3 (hval 2 3 v2 rfl rfl) h2
  clear hA0 hval0
  refine (walk a0_0 a0_1 a0_2 a0_3 a0_4 a1_0 a1_1 a1_2 a1_3 a1_4 a2 W (bd_i64 b0_0) (bd_i64 b0_1) (bd_i64 b0_2) (bd_i64 b0_3) (bd_i64 b0_4) (bd_i64 b1_0) (bd_i64 b1_1) (bd_i64 b1_2) (bd_i64 b1_3) (bd_i64 b1_4) (bd_i64 m2)).mono fun e W' ⟨he, bel⟩ => ?_
  subst he
  exact ⟨_, rfl, _, _, _, [], _, [], hW', trodAll_mk1 (shut_bool Tryd.underlying4 _), (trodAll_cons_mk (Below.trod laidOut (by kernel_rfl) (of_decide_eq_true (by kernel_rfl)) k0 bel lt0) (trodAll_cons_mk (Below.trod laidOut (by kernel_rfl) (of_decide_eq_true (by kernel_rfl)) k1 bel lt1) (trodAll_cons_mk (Below.trod laidOut (by kernel_rfl) (of_decide_eq_true (by kernel_rfl)) k2 bel lt2) trodAll_mk0))), rfl, bel.frame _, fun h => by cases h⟩
noncomputable def laidWorld (os : Os) : World := { World.holding Tryd.prog os ⟨#[], #[], []⟩ with heap := layAll Tryd.prog Rows.rowSwapRow.laid (World.holding Tryd.prog os ⟨#[], #[], []⟩).heap }
theorem laid_met (os : Os) : laidMet Tryd.prog Rows.rowSwapRow.laid ((laidWorld os).forCall (fun _ _ => 0) ⟨#[], #[.agg #[.int .i64 0, .int .i64 0, .int .i64 0, .int .i64 0, .int .i64 0], .agg #[.int .i64 0, .int .i64 0, .int .i64 0, .int .i64 0, .int .i64 0], .int .i64 0], []⟩).memory := laidMet_of_run' 8 (by kernel_rfl) (by kernel_rfl)
theorem reads (os : Os) {H : Type} (enc : TypeId × Value → H) : ∃ places, DataW.whole enc Tryd.prog ((laidWorld os).forCall (fun _ _ => 0) ⟨#[], #[.agg #[.int .i64 0, .int .i64 0, .int .i64 0, .int .i64 0, .int .i64 0], .agg #[.int .i64 0, .int .i64 0, .int .i64 0, .int .i64 0, .int .i64 0], .int .i64 0], []⟩).memory Tryd.f6.params.toList Rows.rowSwapSpec.vars false #[(.agg #[.int .i64 0, .int .i64 0, .int .i64 0, .int .i64 0, .int .i64 0] : Value), (.agg #[.int .i64 0, .int .i64 0, .int .i64 0, .int .i64 0, .int .i64 0] : Value), (.int .i64 0 : Value)].toList 8 = some ([.agg [.agg [.lit (.int .i64 0), .lit (.int .i64 0), .lit (.int .i64 0), .lit (.int .i64 0)], .lit (.int .i64 0)], .agg [.agg [.lit (.int .i64 0), .lit (.int .i64 0), .lit (.int .i64 0), .lit (.int .i64 0)], .lit (.int .i64 0)], .lit (.int .i64 0)], [], places) := ⟨[], by kernel_rfl⟩
set_option maxRecDepth 100000 in
theorem lifted (os : Os) (started : os.Started) (H : Type) (enc : TypeId × Value → H) (F : Stop.Interp) :
    ReturnsInHanded {} Tryd.checked os 6 .any ((OpenSpec.ofChange Rows.rowSwapSpec).preRow enc Tryd.prog Tryd.f6 Rows.rowSwapRow.domain false Rows.rowSwapRow.laid) (((OpenSpec.ofChange Rows.rowSwapSpec).at F).post enc Tryd.prog Tryd.f6 false true false false) := by
  obtain ⟨places, hx⟩ := reads os enc
  refine returnsInHanded_of_row (C := Tryd.checked) (s := (OpenSpec.ofChange Rows.rowSwapSpec)) own started (by kernel_rfl) Tryd.func6
    (witness_row_at (enc := enc) (C := Tryd.checked) false (laidWorld os) #[.agg #[.int .i64 0, .int .i64 0, .int .i64 0, .int .i64 0, .int .i64 0], .agg #[.int .i64 0, .int .i64 0, .int .i64 0, .int .i64 0, .int .i64 0], .int .i64 0] rfl (by kernel_rfl) (by kernel_rfl) (by kernel_rfl)
      (OpenSpec.preRow_of_cond 8 hx (by kernel_rfl) (fun k hk => by cases hk) (by kernel_rfl) (laid_met os))) ?_
  intro W base args ds gs before hval hW _ hcnd hsz hL _ _
  exact contract H enc W base args ds gs before hval hW hsz  
theorem said : Rows.RowSwapSaid :=
  OpenClaim.holds_of_cond 6 Tryd.f6 rfl rfl rfl rfl rfl rfl rfl ⟨rfl, rfl, rfl, rfl, rfl⟩ rfl rfl rfl rfl rfl (by kernel_rfl) Tryd.func6 (by kernel_rfl)
    (of_decide_eq_true (by kernel_rfl)) (by unfold Func.isWrapper; first | (rw [if_pos (by decide +kernel)]; kernel_rfl) | (rw [if_neg (by decide +kernel)]; exact ⟨rfl, rfl⟩))
    (fun os started H enc _ F => by rw [OpenClaim.pre_eq_preRow]; exact lifted os started H enc F)
theorem plain (f : FuncId) (fn : Func) (hf : Tryd.pinned.checked.prog.funcNamed "trammel/trammellaw8.RowSwap" = some f) (hfn : Tryd.pinned.checked.prog.funcs[f]? = some fn) :
    false = Tryd.pinned.checked.prog.looks [] ∧ ∀ (j : Nat) t, fn.params[j]? = some t → Tryd.pinned.checked.prog.wantsStandIn t = false := by
  obtain rfl : f = 6 := Option.some.inj ((show Tryd.prog.funcNamed "trammel/trammellaw8.RowSwap" = some 6 by kernel_rfl).symm.trans hf) |>.symm
  obtain rfl : fn = Tryd.f6 := (Option.some.inj (Tryd.func6.symm.trans hfn)).symm
  refine ⟨by kernel_rfl, fun j t ht => ?_⟩
  rw [Tryd.params6] at ht
  have hm := Array.mem_of_getElem? ht
  have hm2 : t ∈ ([24, 3] : List Nat) := by simpa using hm
  simp only [List.mem_cons, List.not_mem_nil, or_false] at hm2
  rcases hm2 with rfl | rfl
  · exact (show Tryd.prog.wantsStandIn 24 = false by kernel_rfl)
  · exact (show Tryd.prog.wantsStandIn 3 = false by kernel_rfl)
theorem proved : Rows.RowSwapCardSaid :=
  Claim7.holds_tied_plain_at .later [] _ _ _ _ said (fun _ h => by cases h) (by kernel_rfl) (fun _ h => by cases h) rowSwap_row_tie rfl ⟨rfl, rfl⟩ (by kernel_rfl) rfl plain (by kernel_rfl)
end Go.Proofs.YtlbopoidjnaokaaDoor.rowSwap
