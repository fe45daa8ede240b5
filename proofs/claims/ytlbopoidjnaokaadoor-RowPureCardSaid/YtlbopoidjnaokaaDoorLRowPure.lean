/- RowPure holds for every two rows. No condition but that the listed package variables hold what the program's text lays. -/
import Derived.Test.YtlbopoidjnaokaaDoorRwH
import Derived.Test.YtlbopoidjnaokaaDoorCards
import Derived.Test.YtlbopoidjnaokaaDoorTie
import Derived.Test.YtlbopoidjnaokaaDoorOpn
import Derived.Test.YtlbopoidjnaokaaDoorCrd
import Derived.WalkKit
import Derived.ProofKit
import Derived.Deep.DeepHandedRow
namespace Go.Proofs.YtlbopoidjnaokaaDoor.rowPure
open Go.ChangeShapes Go.WideShapes Go.ChangeAt Go.RowKit
open Go.ChangeMaps (open_string shut_string)
set_option linter.unusedVariables false

theorem num_q (e : Int) (w : World) (h0 : 0 ≤ e) (h1 : e ≤ 9223372036854775807) :
    Calls Tryd.prog 16 #[.int .i64 e] w fun r w' => r = .returned (.int .i64 e) ∧ w' = w := (num_any e w h0 h1).mono fun _ _ ⟨h, h'⟩ => ⟨h, h'.symm⟩
theorem mxz_pos {x : Int} (h : 0 ≤ x) : mxz x = x := by unfold mxz; rw [if_neg (by omega)]
theorem mxz_neg {x : Int} (h : x ≤ 0) : mxz x = 0 := by unfold mxz; split <;> omega
/-- the first k counts are none. -/
def zk (a b c d : Int) : Nat → Bool
  | 0 => true
  | 1 => a == 0
  | 2 => a == 0 && b == 0
  | 3 => a == 0 && b == 0 && c == 0
  | _ => a == 0 && b == 0 && c == 0 && d == 0
theorem may_of {a b c d t : Int} (h : mayR a b c d t = true) : 0 ≤ a ∧ a ≤ 32 ∧ 0 ≤ b ∧ b ≤ 32 ∧ 0 ≤ c ∧ c ≤ 32 ∧ 0 ≤ d ∧ d ≤ 32 ∧ -1 ≤ t ∧ t < 4096 := of_decide_eq_true h
theorem zk_no {a b c d : Int} : ∀ k, k < 4 → zk a b c d k = false → zk a b c d (k + 1) = false := by
  intro k hk h
  have : k = 0 ∨ k = 1 ∨ k = 2 ∨ k = 3 := by omega
  rcases this with rfl | rfl | rfl | rfl
  · cases h
  · show (a == 0 && b == 0) = false
    rw [show (a == 0) = false from h]; rfl
  · show (a == 0 && b == 0 && c == 0) = false
    rw [show (a == 0 && b == 0) = false from h]; rfl
  · show (a == 0 && b == 0 && c == 0 && d == 0) = false
    rw [show (a == 0 && b == 0 && c == 0) = false from h]; rfl
/-- with the empty row without a tail. -/
theorem first_no {a b c d t : Int} (h : mayR a b c d t = false ∨ 90 ≤ t) : ruE a b c d t 0 0 0 0 (-1) 90 = 800 := by
  refine (ru_no ?_).2
  unfold ruOk
  rcases h with h | h
  · rw [h]; rfl
  · rw [decide_eq_false (by omega : ¬ ((0 : Int) ≤ 90 ∧ (90 : Int) < 4096 ∧ t < 90 ∧ (-1 : Int) < 90))]; simp
theorem first_yes {a b c d t : Int} (h : mayR a b c d t = true) (ht : t < 90) :
    ruL a b c d t 0 0 0 0 (-1) 90 = (if zk a b c d 4 && decide (0 ≤ t) then [⟨t, 0, 0, 0, 0, -1⟩] else []) ∧ ruE a b c d t 0 0 0 0 (-1) 90 = (if zk a b c d 4 then 0 else 801) := by
  have hm := may_of h
  have hok : ruOk a b c d t 0 0 0 0 (-1) 90 = true := by
    unfold ruOk; rw [h, show mayR 0 0 0 0 (-1) = true from by decide, decide_eq_true (by omega : (0 : Int) ≤ 90 ∧ (90 : Int) < 4096 ∧ t < 90 ∧ (-1 : Int) < 90)]; rfl
  rw [(ru_yes hok).1, (ru_yes hok).2]
  have hu : uniR a b c d t 0 0 0 0 (-1) 90 = uniT a b c d 0 0 0 0 t (-1) 90 := by
    unfold uniR
    rw [mxz_pos (by omega : 0 ≤ a - 0), mxz_pos (by omega : 0 ≤ b - 0), mxz_pos (by omega : 0 ≤ c - 0), mxz_pos (by omega : 0 ≤ d - 0), mxz_neg (by omega : 0 - a ≤ 0), mxz_neg (by omega : 0 - b ≤ 0), mxz_neg (by omega : 0 - c ≤ 0), mxz_neg (by omega : 0 - d ≤ 0), Int.sub_zero, Int.sub_zero, Int.sub_zero, Int.sub_zero]
  rw [hu]
  cases hz : zk a b c d 4
  · have hz' : ¬ (a = 0 ∧ b = 0 ∧ c = 0 ∧ d = 0) := by
      rintro ⟨rfl, rfl, rfl, rfl⟩; simp [zk] at hz
    unfold uniT
    by_cases h1 : t = -1
    · rw [if_pos h1, if_neg (by omega)]; exact ⟨rfl, rfl⟩
    · rw [if_neg h1, if_pos (by omega)]; exact ⟨rfl, rfl⟩
  · have hz' : a = 0 ∧ b = 0 ∧ c = 0 ∧ d = 0 := by simp [zk] at hz; omega
    obtain ⟨rfl, rfl, rfl, rfl⟩ := hz'
    unfold uniT
    by_cases h1 : t = -1
    · rw [if_pos h1, if_pos (by omega), decide_eq_false (by omega : ¬ 0 ≤ t)]; exact ⟨rfl, rfl⟩
    · rw [if_neg h1, if_neg (by omega), if_pos (.inl (by omega)), decide_eq_true (by omega : 0 ≤ t)]; exact ⟨rfl, rfl⟩
theorem second_no {a b c d t : Int} (h : mayR a b c d t = false ∨ 90 ≤ t) : ruE 0 0 0 0 89 a b c d t 90 = 800 := by
  refine (ru_no ?_).2
  unfold ruOk
  rcases h with h | h
  · rw [h]; simp
  · rw [decide_eq_false (by omega : ¬ ((0 : Int) ≤ 90 ∧ (90 : Int) < 4096 ∧ (89 : Int) < 90 ∧ t < 90))]; simp
theorem second_yes {a b c d t : Int} (h : mayR a b c d t = true) (ht : t < 89) :
    ruL 0 0 0 0 89 a b c d t 90 = [⟨89, a, b, c, d, t⟩] ∧ ruE 0 0 0 0 89 a b c d t 90 = 0 := by
  have hm := may_of h
  have hok : ruOk 0 0 0 0 89 a b c d t 90 = true := by
    unfold ruOk; rw [h, show mayR 0 0 0 0 89 = true from by decide, decide_eq_true (by omega : (0 : Int) ≤ 90 ∧ (90 : Int) < 4096 ∧ (89 : Int) < 90 ∧ t < 90)]; rfl
  rw [(ru_yes hok).1, (ru_yes hok).2]
  have hu : uniR 0 0 0 0 89 a b c d t 90 = uniT 0 0 0 0 a b c d 89 t 90 := by
    unfold uniR
    rw [mxz_pos (by omega : 0 ≤ a - 0), mxz_pos (by omega : 0 ≤ b - 0), mxz_pos (by omega : 0 ≤ c - 0), mxz_pos (by omega : 0 ≤ d - 0), mxz_neg (by omega : 0 - a ≤ 0), mxz_neg (by omega : 0 - b ≤ 0), mxz_neg (by omega : 0 - c ≤ 0), mxz_neg (by omega : 0 - d ≤ 0), Int.sub_zero, Int.sub_zero, Int.sub_zero, Int.sub_zero]
  rw [hu]
  unfold uniT
  rw [if_neg (by omega), if_neg (by omega), if_pos (by omega)]
  exact ⟨rfl, rfl⟩
theorem e_bd (a b c d t a' b' c' d' t' f : Int) : 0 ≤ ruE a b c d t a' b' c' d' t' f ∧ ruE a b c d t a' b' c' d' t' f ≤ 9223372036854775807 := by
  unfold ruE; (repeat' split) <;> omega

set_option maxRecDepth 100000 in
set_option maxHeartbeats 4000000 in
theorem walk (a b c d t a' b' c' d' t' : Int) (w : World) (b0 : -9223372036854775808 ≤ a ∧ a ≤ 9223372036854775807) (b1 : -9223372036854775808 ≤ b ∧ b ≤ 9223372036854775807) (b2 : -9223372036854775808 ≤ c ∧ c ≤ 9223372036854775807) (b3 : -9223372036854775808 ≤ d ∧ d ≤ 9223372036854775807) (b4 : -9223372036854775808 ≤ t ∧ t ≤ 9223372036854775807)
    (b0' : -9223372036854775808 ≤ a' ∧ a' ≤ 9223372036854775807) (b1' : -9223372036854775808 ≤ b' ∧ b' ≤ 9223372036854775807) (b2' : -9223372036854775808 ≤ c' ∧ c' ≤ 9223372036854775807) (b3' : -9223372036854775808 ≤ d' ∧ d' ≤ 9223372036854775807) (b4' : -9223372036854775808 ≤ t' ∧ t' ≤ 9223372036854775807) :
    Calls Tryd.prog 8 #[.agg #[.int .i64 a, .int .i64 b, .int .i64 c, .int .i64 d, .int .i64 t], .agg #[.int .i64 a', .int .i64 b', .int .i64 c', .int .i64 d', .int .i64 t']] w fun e w' => e = .returned (.bool true) ∧ Below w.heap.size w w' := by
  clear b0 b1 b2 b3 b0' b1' b2' b3'
  obtain ⟨L1, hL1⟩ : ∃ l, ruL a b c d t 0 0 0 0 (-1) 90 = l := ⟨_, rfl⟩
  obtain ⟨E1, hE1⟩ : ∃ l, ruE a b c d t 0 0 0 0 (-1) 90 = l := ⟨_, rfl⟩
  obtain ⟨L2, hL2⟩ : ∃ l, ruL 0 0 0 0 89 a' b' c' d' t' 90 = l := ⟨_, rfl⟩
  obtain ⟨E2, hE2⟩ : ∃ l, ruE 0 0 0 0 89 a' b' c' d' t' 90 = l := ⟨_, rfl⟩
  have hb1 := e_bd a b c d t 0 0 0 0 (-1) 90
  have hb2 := e_bd 0 0 0 0 89 a' b' c' d' t' 90
  rw [hE1] at hb1
  rw [hE2] at hb2
  have hL1' := Lib.hid hL1; have hE1' := Lib.hid hE1; have hL2' := Lib.hid hL2; have hE2' := Lib.hid hE2
  clear hL1 hE1 hL2 hE2
  go_enter Tryd.func8, Tryd.ntmps8
  go_wp2_with fail
  refine (awake_any _).mono ?_
  rintro e w1 ⟨rfl, hw1⟩
  have z1 : w.heap.size + 1 < w1.heap.size := by have := hw1.size; simp at this; omega
  have z1' : w.heap.size < w1.heap.size := by omega
  have r0_1 : w1.cell? ⟨w.heap.size, 0, none⟩ = some (.int .i64 a) := carry hw1 (by first | omega | (simp; done) | (simp; omega)) (by simp)
  have r1_1 : w1.cell? ⟨w.heap.size, 1, none⟩ = some (.int .i64 b) := carry hw1 (by first | omega | (simp; done) | (simp; omega)) (by simp)
  have r2_1 : w1.cell? ⟨w.heap.size, 2, none⟩ = some (.int .i64 c) := carry hw1 (by first | omega | (simp; done) | (simp; omega)) (by simp)
  have r3_1 : w1.cell? ⟨w.heap.size, 3, none⟩ = some (.int .i64 d) := carry hw1 (by first | omega | (simp; done) | (simp; omega)) (by simp)
  have r4_1 : w1.cell? ⟨w.heap.size, 4, none⟩ = some (.int .i64 t) := carry hw1 (by first | omega | (simp; done) | (simp; omega)) (by simp)
  have s0_1 : w1.cell? ⟨w.heap.size + 1, 0, none⟩ = some (.int .i64 a') := carry hw1 (by first | omega | (simp; done) | (simp; omega)) (by simp)
  have s1_1 : w1.cell? ⟨w.heap.size + 1, 1, none⟩ = some (.int .i64 b') := carry hw1 (by first | omega | (simp; done) | (simp; omega)) (by simp)
  have s2_1 : w1.cell? ⟨w.heap.size + 1, 2, none⟩ = some (.int .i64 c') := carry hw1 (by first | omega | (simp; done) | (simp; omega)) (by simp)
  have s3_1 : w1.cell? ⟨w.heap.size + 1, 3, none⟩ = some (.int .i64 d') := carry hw1 (by first | omega | (simp; done) | (simp; omega)) (by simp)
  have s4_1 : w1.cell? ⟨w.heap.size + 1, 4, none⟩ = some (.int .i64 t') := carry hw1 (by first | omega | (simp; done) | (simp; omega)) (by simp)
  have hB1 : Below w.heap.size w w1 := belT (by (repeat' (first | with_reducible exact Below.refl _ _ | with_reducible assumption | with_reducible apply Below.setCell | with_reducible apply Below.alloc | with_reducible apply Below.drew | with_reducible apply below_drewN | with_reducible exact Nat.le_refl _ | (simp; done) | (simp; omega) | omega | exact Nat.le_refl _))) hw1
  clear hw1
  go_wp2_with fail
  refine (rowUnify_any _ _ _ _ _ _ _ _ _ _ _ _).mono ?_
  rintro e w2 ⟨v1, rfl, hbd1, hw2⟩
  rw [hE1'.out]
  rw [hL1'.out] at hbd1
  have z2 : w.heap.size + 1 < w2.heap.size := by have := hw2.size; omega
  have z2' : w.heap.size < w2.heap.size := by omega
  have r0_2 : w2.cell? ⟨w.heap.size, 0, none⟩ = some (.int .i64 a) := carry hw2 (by first | omega | (simp; done) | (simp; omega)) (r0_1)
  have r1_2 : w2.cell? ⟨w.heap.size, 1, none⟩ = some (.int .i64 b) := carry hw2 (by first | omega | (simp; done) | (simp; omega)) (r1_1)
  have r2_2 : w2.cell? ⟨w.heap.size, 2, none⟩ = some (.int .i64 c) := carry hw2 (by first | omega | (simp; done) | (simp; omega)) (r2_1)
  have r3_2 : w2.cell? ⟨w.heap.size, 3, none⟩ = some (.int .i64 d) := carry hw2 (by first | omega | (simp; done) | (simp; omega)) (r3_1)
  have r4_2 : w2.cell? ⟨w.heap.size, 4, none⟩ = some (.int .i64 t) := carry hw2 (by first | omega | (simp; done) | (simp; omega)) (r4_1)
  have s0_2 : w2.cell? ⟨w.heap.size + 1, 0, none⟩ = some (.int .i64 a') := carry hw2 (by first | omega | (simp; done) | (simp; omega)) (s0_1)
  have s1_2 : w2.cell? ⟨w.heap.size + 1, 1, none⟩ = some (.int .i64 b') := carry hw2 (by first | omega | (simp; done) | (simp; omega)) (s1_1)
  have s2_2 : w2.cell? ⟨w.heap.size + 1, 2, none⟩ = some (.int .i64 c') := carry hw2 (by first | omega | (simp; done) | (simp; omega)) (s2_1)
  have s3_2 : w2.cell? ⟨w.heap.size + 1, 3, none⟩ = some (.int .i64 d') := carry hw2 (by first | omega | (simp; done) | (simp; omega)) (s3_1)
  have s4_2 : w2.cell? ⟨w.heap.size + 1, 4, none⟩ = some (.int .i64 t') := carry hw2 (by first | omega | (simp; done) | (simp; omega)) (s4_1)
  clear r0_1 s0_1 r1_1 s1_1 r2_1 s2_1 r3_1 s3_1 r4_1 s4_1
  have hB2 : Below w.heap.size w w2 := belT hB1 hw2
  clear hw2
  have hbd1' := Lib.hid hbd1; clear hbd1
  go_wp2_with fail
  refine (rowUnify_any _ _ _ _ _ _ _ _ _ _ _ _).mono ?_
  rintro e w3 ⟨v2, rfl, hbd2, hw3⟩
  rw [hE2'.out]
  rw [hL2'.out] at hbd2
  have z3 : w.heap.size + 1 < w3.heap.size := by have := hw3.size; omega
  have z3' : w.heap.size < w3.heap.size := by omega
  have r0_3 : w3.cell? ⟨w.heap.size, 0, none⟩ = some (.int .i64 a) := carry hw3 (by first | omega | (simp; done) | (simp; omega)) (r0_2)
  have r1_3 : w3.cell? ⟨w.heap.size, 1, none⟩ = some (.int .i64 b) := carry hw3 (by first | omega | (simp; done) | (simp; omega)) (r1_2)
  have r2_3 : w3.cell? ⟨w.heap.size, 2, none⟩ = some (.int .i64 c) := carry hw3 (by first | omega | (simp; done) | (simp; omega)) (r2_2)
  have r3_3 : w3.cell? ⟨w.heap.size, 3, none⟩ = some (.int .i64 d) := carry hw3 (by first | omega | (simp; done) | (simp; omega)) (r3_2)
  have r4_3 : w3.cell? ⟨w.heap.size, 4, none⟩ = some (.int .i64 t) := carry hw3 (by first | omega | (simp; done) | (simp; omega)) (r4_2)
  have s0_3 : w3.cell? ⟨w.heap.size + 1, 0, none⟩ = some (.int .i64 a') := carry hw3 (by first | omega | (simp; done) | (simp; omega)) (s0_2)
  have s1_3 : w3.cell? ⟨w.heap.size + 1, 1, none⟩ = some (.int .i64 b') := carry hw3 (by first | omega | (simp; done) | (simp; omega)) (s1_2)
  have s2_3 : w3.cell? ⟨w.heap.size + 1, 2, none⟩ = some (.int .i64 c') := carry hw3 (by first | omega | (simp; done) | (simp; omega)) (s2_2)
  have s3_3 : w3.cell? ⟨w.heap.size + 1, 3, none⟩ = some (.int .i64 d') := carry hw3 (by first | omega | (simp; done) | (simp; omega)) (s3_2)
  have s4_3 : w3.cell? ⟨w.heap.size + 1, 4, none⟩ = some (.int .i64 t') := carry hw3 (by first | omega | (simp; done) | (simp; omega)) (s4_2)
  clear r0_2 s0_2 r1_2 s1_2 r2_2 s2_2 r3_2 s3_2 r4_2 s4_2
  have hB3 : Below w.heap.size w w3 := belT hB2 hw3
  clear hw3
  have hbd2' := Lib.hid hbd2; clear hbd2
  go_wp2_with fail
  refine (rowMay_any _ _ _ _ _ _).mono ?_
  rintro e w4 ⟨rfl, hw4⟩
  have z4 : w.heap.size + 1 < w4.heap.size := by have := hw4.size; omega
  have z4' : w.heap.size < w4.heap.size := by omega
  have r0_4 : w4.cell? ⟨w.heap.size, 0, none⟩ = some (.int .i64 a) := carry hw4 (by first | omega | (simp; done) | (simp; omega)) (r0_3)
  have r1_4 : w4.cell? ⟨w.heap.size, 1, none⟩ = some (.int .i64 b) := carry hw4 (by first | omega | (simp; done) | (simp; omega)) (r1_3)
  have r2_4 : w4.cell? ⟨w.heap.size, 2, none⟩ = some (.int .i64 c) := carry hw4 (by first | omega | (simp; done) | (simp; omega)) (r2_3)
  have r3_4 : w4.cell? ⟨w.heap.size, 3, none⟩ = some (.int .i64 d) := carry hw4 (by first | omega | (simp; done) | (simp; omega)) (r3_3)
  have r4_4 : w4.cell? ⟨w.heap.size, 4, none⟩ = some (.int .i64 t) := carry hw4 (by first | omega | (simp; done) | (simp; omega)) (r4_3)
  have s0_4 : w4.cell? ⟨w.heap.size + 1, 0, none⟩ = some (.int .i64 a') := carry hw4 (by first | omega | (simp; done) | (simp; omega)) (s0_3)
  have s1_4 : w4.cell? ⟨w.heap.size + 1, 1, none⟩ = some (.int .i64 b') := carry hw4 (by first | omega | (simp; done) | (simp; omega)) (s1_3)
  have s2_4 : w4.cell? ⟨w.heap.size + 1, 2, none⟩ = some (.int .i64 c') := carry hw4 (by first | omega | (simp; done) | (simp; omega)) (s2_3)
  have s3_4 : w4.cell? ⟨w.heap.size + 1, 3, none⟩ = some (.int .i64 d') := carry hw4 (by first | omega | (simp; done) | (simp; omega)) (s3_3)
  have s4_4 : w4.cell? ⟨w.heap.size + 1, 4, none⟩ = some (.int .i64 t') := carry hw4 (by first | omega | (simp; done) | (simp; omega)) (s4_3)
  clear r0_3 s0_3 r1_3 s1_3 r2_3 s2_3 r3_3 s3_3 r4_3 s4_3
  have hB4 : Below w.heap.size w w4 := belT hB3 hw4
  cases hm : mayR a b c d t
  · obtain rfl : E1 = 800 := by rw [← hE1'.out, first_no (.inl hm)]
    clear hm
    go_wp2_with (go_at_call 16; refine (num_any _ _ (by omega) (by omega)).mono ?_; rintro e w' ⟨rfl, rfl⟩)
    go_ret
    exact ⟨rfl, hB4⟩
  by_cases h90 : 90 ≤ t
  · obtain rfl : E1 = 800 := by rw [← hE1'.out, first_no (.inr h90)]
    clear hm
    go_wp2_with (go_at_call 16; refine (num_any _ _ (by omega) (by omega)).mono ?_; rintro e w' ⟨rfl, rfl⟩)
    go_ret
    exact ⟨rfl, hB4⟩
  have hyes := Lib.hid (first_yes hm (by omega))
  have hmb := may_of hm
  have ht1 : -1 ≤ t := by omega
  clear hmb
  have hm' := Lib.hid hm; clear hm
  go_wp2_with fail
  go_loop [9, 10] (fun nz i => ∃ (k : Nat) (z : Int), k ≤ 4 ∧ i = .int .i64 z ∧ z = k ∧ nz = .bool (zk a b c d k)) (fun _ i => 4 - (intOf i).toNat)
  case atStart => exact ⟨0, 0, by omega, rfl, rfl, rfl⟩
  case round =>
    obtain ⟨k, z, hk, rfl, hz, rfl⟩ := hrel
    have hk5 : k = 0 ∨ k = 1 ∨ k = 2 ∨ k = 3 ∨ k = 4 := by omega
    rcases hk5 with rfl | rfl | rfl | rfl | rfl
    · obtain rfl : z = 0 := by omega
      clear hz
      rw [show zk a b c d 0 = true from rfl]
      go_wp2_with fail
      go_round
      case rel => exact ⟨1, 1, by omega, rfl, rfl, rfl⟩
      case measure => simp [intOf] <;> omega
    · obtain rfl : z = 1 := by omega
      clear hz
      cases hzk : zk a b c d 1
      · have hnx := Lib.hid (zk_no 1 (by omega) hzk)
        go_wp2_with fail
        go_round
        case rel => exact ⟨2, 2, by omega, rfl, rfl, by rw [hnx.out]⟩
        case measure => simp [intOf] <;> omega
      · have hnx : Hid (zk a b c d 2 = (b == 0)) := Lib.hid (by
          show ((a == 0) && b == 0) = _
          rw [show (a == 0) = true from hzk]; rfl)
        go_wp2_with fail
        go_round
        case rel => exact ⟨2, 2, by omega, rfl, rfl, by rw [hnx.out]⟩
        case measure => simp [intOf] <;> omega
    · obtain rfl : z = 2 := by omega
      clear hz
      cases hzk : zk a b c d 2
      · have hnx := Lib.hid (zk_no 2 (by omega) hzk)
        go_wp2_with fail
        go_round
        case rel => exact ⟨3, 3, by omega, rfl, rfl, by rw [hnx.out]⟩
        case measure => simp [intOf] <;> omega
      · have hnx : Hid (zk a b c d 3 = (c == 0)) := Lib.hid (by
          show ((a == 0 && b == 0) && c == 0) = _
          rw [show (a == 0 && b == 0) = true from hzk]; rfl)
        go_wp2_with fail
        go_round
        case rel => exact ⟨3, 3, by omega, rfl, rfl, by rw [hnx.out]⟩
        case measure => simp [intOf] <;> omega
    · obtain rfl : z = 3 := by omega
      clear hz
      cases hzk : zk a b c d 3
      · have hnx := Lib.hid (zk_no 3 (by omega) hzk)
        go_wp2_with fail
        go_round
        case rel => exact ⟨4, 4, by omega, rfl, rfl, by rw [hnx.out]⟩
        case measure => simp [intOf] <;> omega
      · have hnx : Hid (zk a b c d 4 = (d == 0)) := Lib.hid (by
          show ((a == 0 && b == 0 && c == 0) && d == 0) = _
          rw [show (a == 0 && b == 0 && c == 0) = true from hzk]; rfl)
        go_wp2_with fail
        go_round
        case rel => exact ⟨4, 4, by omega, rfl, rfl, by rw [hnx.out]⟩
        case measure => simp [intOf] <;> omega
    · obtain rfl : z = 4 := by omega
      clear hz
      cases hz4 : zk a b c d 4
      · obtain rfl : E1 = 801 := by rw [← hE1'.out, hyes.out.2, hz4]; rfl
        go_wp2_with (go_at_call 16; refine (num_any _ _ (by omega) (by omega)).mono ?_; rintro e w' ⟨rfl, rfl⟩)
        refine (rowMay_any _ _ _ _ _ _).mono ?_
        rintro e w5 ⟨rfl, hw5⟩
        have z5 : w.heap.size + 1 < w5.heap.size := by have := hw5.size; omega
        have z5' : w.heap.size < w5.heap.size := by omega
        have s0_5 : w5.cell? ⟨w.heap.size + 1, 0, none⟩ = some (.int .i64 a') := carry hw5 z4 s0_4
        have s1_5 : w5.cell? ⟨w.heap.size + 1, 1, none⟩ = some (.int .i64 b') := carry hw5 z4 s1_4
        have s2_5 : w5.cell? ⟨w.heap.size + 1, 2, none⟩ = some (.int .i64 c') := carry hw5 z4 s2_4
        have s3_5 : w5.cell? ⟨w.heap.size + 1, 3, none⟩ = some (.int .i64 d') := carry hw5 z4 s3_4
        have s4_5 : w5.cell? ⟨w.heap.size + 1, 4, none⟩ = some (.int .i64 t') := carry hw5 z4 s4_4
        have hB5 : Below w.heap.size w w5 := belT hB4 hw5
        cases hm2 : mayR a' b' c' d' t'
        · obtain rfl : E2 = 800 := by rw [← hE2'.out, second_no (.inl hm2)]
          clear hm2
          go_wp2_with (go_at_call 16; refine (num_any _ _ (by omega) (by omega)).mono ?_; rintro e w' ⟨rfl, rfl⟩)
          go_ret
          exact ⟨rfl, hB5⟩
        by_cases h89 : 89 ≤ t'
        · have hm2' := Lib.hid hm2; clear hm2
          by_cases h90' : 90 ≤ t'
          · obtain rfl : E2 = 800 := by rw [← hE2'.out, second_no (.inr h90')]
            go_wp2_with (go_at_call 16; refine (num_any _ _ (by omega) (by omega)).mono ?_; rintro e w' ⟨rfl, rfl⟩)
            go_ret
            exact ⟨rfl, hB5⟩
          · obtain rfl : t' = 89 := by omega
            cases he2 : (E2 != 0)
            · go_wp2_with (go_at_call 16; refine (num_any _ _ (by omega) (by omega)).mono ?_; rintro e w' ⟨rfl, rfl⟩)
              go_ret
              exact ⟨rfl, hB5⟩
            · go_wp2_with (go_at_call 16; refine (num_any _ _ (by omega) (by omega)).mono ?_; rintro e w' ⟨rfl, rfl⟩)
              go_ret
              exact ⟨rfl, hB5⟩
        · have hy2 := second_yes hm2 (by omega)
          have hm2' := Lib.hid hm2; clear hm2
          obtain rfl : E2 = 0 := by rw [← hE2'.out, hy2.2]
          have hl2 : L2 = [⟨89, a', b', c', d', t'⟩] := by rw [← hL2'.out, hy2.1]
          clear hy2
          subst hl2
          obtain ⟨g, hg0, hg1, rfl, ⟨x0, x1, x2, x3, x4, x5, x6, x7⟩⟩ := bds_one hbd2'.out
          simp only [] at x0 x1 x2 x3 x4 x5 x6 x7
          have x0_5 : w5.cell? ⟨g, 0, none⟩ = some (.int .i64 89) := carry hw5 (by have := hw4.size; omega) (carry hw4 hg1 (by simpa using x0))
          have x3_5 : w5.cell? ⟨g, 3, none⟩ = some (.int .i64 a') := carry hw5 (by have := hw4.size; omega) (carry hw4 hg1 (by simpa using x3))
          have x4_5 : w5.cell? ⟨g, 4, none⟩ = some (.int .i64 b') := carry hw5 (by have := hw4.size; omega) (carry hw4 hg1 (by simpa using x4))
          have x5_5 : w5.cell? ⟨g, 5, none⟩ = some (.int .i64 c') := carry hw5 (by have := hw4.size; omega) (carry hw4 hg1 (by simpa using x5))
          have x6_5 : w5.cell? ⟨g, 6, none⟩ = some (.int .i64 d') := carry hw5 (by have := hw4.size; omega) (carry hw4 hg1 (by simpa using x6))
          have x7_5 : w5.cell? ⟨g, 7, none⟩ = some (.int .i64 t') := carry hw5 (by have := hw4.size; omega) (carry hw4 hg1 (by simpa using x7))
          clear x0 x1 x2 x3 x4 x5 x6 x7
          have hq : ∀ (x0 x1 x2 x3 y0 y1 y2 y3 : Int) (W : World), (Op.equalIn 9999 22 (.agg #[.int .i64 x0, .int .i64 x1, .int .i64 x2, .int .i64 x3]) (.agg #[.int .i64 y0, .int .i64 y1, .int .i64 y2, .int .i64 y3])).run Tryd.prog W = .ok (x0 == y0 && (x1 == y1 && (x2 == y2 && x3 == y3))) W := fun x0 x1 x2 x3 y0 y1 y2 y3 W => arr_in 9997 22 Tryd.underlying22 W x0 x1 x2 x3 y0 y1 y2 y3
          go_wp2_with fail
          go_quiet ((go_at_call 16; exact Calls.quiet_of_same (num_q _ _ (by omega) (by omega))))
          go_wp2_with fail
          go_ret
          exact ⟨rfl, below_drewN hB5 nq⟩
      · obtain rfl : E1 = 0 := by rw [← hE1'.out, hyes.out.2, hz4]; rfl
        by_cases h0t : 0 ≤ t
        · have hl1 : L1 = [⟨t, 0, 0, 0, 0, -1⟩] := by rw [← hL1'.out, hyes.out.1, hz4, decide_eq_true h0t]; rfl
          subst hl1
          obtain ⟨g1, _, _, rfl, _⟩ := bds_one hbd1'.out
          go_wp2_with (go_at_call 16; refine (num_any _ _ (by omega) (by omega)).mono ?_; rintro e w' ⟨rfl, rfl⟩)
          refine (rowMay_any _ _ _ _ _ _).mono ?_
          rintro e w5 ⟨rfl, hw5⟩
          have z5 : w.heap.size + 1 < w5.heap.size := by have := hw5.size; omega
          have z5' : w.heap.size < w5.heap.size := by omega
          have s0_5 : w5.cell? ⟨w.heap.size + 1, 0, none⟩ = some (.int .i64 a') := carry hw5 z4 s0_4
          have s1_5 : w5.cell? ⟨w.heap.size + 1, 1, none⟩ = some (.int .i64 b') := carry hw5 z4 s1_4
          have s2_5 : w5.cell? ⟨w.heap.size + 1, 2, none⟩ = some (.int .i64 c') := carry hw5 z4 s2_4
          have s3_5 : w5.cell? ⟨w.heap.size + 1, 3, none⟩ = some (.int .i64 d') := carry hw5 z4 s3_4
          have s4_5 : w5.cell? ⟨w.heap.size + 1, 4, none⟩ = some (.int .i64 t') := carry hw5 z4 s4_4
          have hB5 : Below w.heap.size w w5 := belT hB4 hw5
          cases hm2 : mayR a' b' c' d' t'
          · obtain rfl : E2 = 800 := by rw [← hE2'.out, second_no (.inl hm2)]
            clear hm2
            go_wp2_with (go_at_call 16; refine (num_any _ _ (by omega) (by omega)).mono ?_; rintro e w' ⟨rfl, rfl⟩)
            go_ret
            exact ⟨rfl, hB5⟩
          by_cases h89 : 89 ≤ t'
          · have hm2' := Lib.hid hm2; clear hm2
            by_cases h90' : 90 ≤ t'
            · obtain rfl : E2 = 800 := by rw [← hE2'.out, second_no (.inr h90')]
              go_wp2_with (go_at_call 16; refine (num_any _ _ (by omega) (by omega)).mono ?_; rintro e w' ⟨rfl, rfl⟩)
              go_ret
              exact ⟨rfl, hB5⟩
            · obtain rfl : t' = 89 := by omega
              cases he2 : (E2 != 0)
              · go_wp2_with (go_at_call 16; refine (num_any _ _ (by omega) (by omega)).mono ?_; rintro e w' ⟨rfl, rfl⟩)
                go_ret
                exact ⟨rfl, hB5⟩
              · go_wp2_with (go_at_call 16; refine (num_any _ _ (by omega) (by omega)).mono ?_; rintro e w' ⟨rfl, rfl⟩)
                go_ret
                exact ⟨rfl, hB5⟩
          · have hy2 := second_yes hm2 (by omega)
            have hm2' := Lib.hid hm2; clear hm2
            obtain rfl : E2 = 0 := by rw [← hE2'.out, hy2.2]
            have hl2 : L2 = [⟨89, a', b', c', d', t'⟩] := by rw [← hL2'.out, hy2.1]
            clear hy2
            subst hl2
            obtain ⟨g, hg0, hg1, rfl, ⟨x0, x1, x2, x3, x4, x5, x6, x7⟩⟩ := bds_one hbd2'.out
            simp only [] at x0 x1 x2 x3 x4 x5 x6 x7
            have x0_5 : w5.cell? ⟨g, 0, none⟩ = some (.int .i64 89) := carry hw5 (by have := hw4.size; omega) (carry hw4 hg1 (by simpa using x0))
            have x3_5 : w5.cell? ⟨g, 3, none⟩ = some (.int .i64 a') := carry hw5 (by have := hw4.size; omega) (carry hw4 hg1 (by simpa using x3))
            have x4_5 : w5.cell? ⟨g, 4, none⟩ = some (.int .i64 b') := carry hw5 (by have := hw4.size; omega) (carry hw4 hg1 (by simpa using x4))
            have x5_5 : w5.cell? ⟨g, 5, none⟩ = some (.int .i64 c') := carry hw5 (by have := hw4.size; omega) (carry hw4 hg1 (by simpa using x5))
            have x6_5 : w5.cell? ⟨g, 6, none⟩ = some (.int .i64 d') := carry hw5 (by have := hw4.size; omega) (carry hw4 hg1 (by simpa using x6))
            have x7_5 : w5.cell? ⟨g, 7, none⟩ = some (.int .i64 t') := carry hw5 (by have := hw4.size; omega) (carry hw4 hg1 (by simpa using x7))
            clear x0 x1 x2 x3 x4 x5 x6 x7
            have hq : ∀ (x0 x1 x2 x3 y0 y1 y2 y3 : Int) (W : World), (Op.equalIn 9999 22 (.agg #[.int .i64 x0, .int .i64 x1, .int .i64 x2, .int .i64 x3]) (.agg #[.int .i64 y0, .int .i64 y1, .int .i64 y2, .int .i64 y3])).run Tryd.prog W = .ok (x0 == y0 && (x1 == y1 && (x2 == y2 && x3 == y3))) W := fun x0 x1 x2 x3 y0 y1 y2 y3 W => arr_in 9997 22 Tryd.underlying22 W x0 x1 x2 x3 y0 y1 y2 y3
            go_wp2_with fail
            go_quiet ((go_at_call 16; exact Calls.quiet_of_same (num_q _ _ (by omega) (by omega))))
            go_wp2_with fail
            go_ret
            exact ⟨rfl, below_drewN hB5 nq⟩
        · have hl1 : L1 = [] := by rw [← hL1'.out, hyes.out.1, hz4, decide_eq_false h0t]; rfl
          subst hl1
          rcases bds_nil hbd1'.out with rfl | ⟨g1, rfl⟩
          all_goals
            go_wp2_with (go_at_call 16; refine (num_any _ _ (by omega) (by omega)).mono ?_; rintro e w' ⟨rfl, rfl⟩)
            refine (rowMay_any _ _ _ _ _ _).mono ?_
            rintro e w5 ⟨rfl, hw5⟩
            have z5 : w.heap.size + 1 < w5.heap.size := by have := hw5.size; omega
            have z5' : w.heap.size < w5.heap.size := by omega
            have s0_5 : w5.cell? ⟨w.heap.size + 1, 0, none⟩ = some (.int .i64 a') := carry hw5 z4 s0_4
            have s1_5 : w5.cell? ⟨w.heap.size + 1, 1, none⟩ = some (.int .i64 b') := carry hw5 z4 s1_4
            have s2_5 : w5.cell? ⟨w.heap.size + 1, 2, none⟩ = some (.int .i64 c') := carry hw5 z4 s2_4
            have s3_5 : w5.cell? ⟨w.heap.size + 1, 3, none⟩ = some (.int .i64 d') := carry hw5 z4 s3_4
            have s4_5 : w5.cell? ⟨w.heap.size + 1, 4, none⟩ = some (.int .i64 t') := carry hw5 z4 s4_4
            have hB5 : Below w.heap.size w w5 := belT hB4 hw5
            cases hm2 : mayR a' b' c' d' t'
            · obtain rfl : E2 = 800 := by rw [← hE2'.out, second_no (.inl hm2)]
              clear hm2
              go_wp2_with (go_at_call 16; refine (num_any _ _ (by omega) (by omega)).mono ?_; rintro e w' ⟨rfl, rfl⟩)
              go_ret
              exact ⟨rfl, hB5⟩
            by_cases h89 : 89 ≤ t'
            · have hm2' := Lib.hid hm2; clear hm2
              by_cases h90' : 90 ≤ t'
              · obtain rfl : E2 = 800 := by rw [← hE2'.out, second_no (.inr h90')]
                go_wp2_with (go_at_call 16; refine (num_any _ _ (by omega) (by omega)).mono ?_; rintro e w' ⟨rfl, rfl⟩)
                go_ret
                exact ⟨rfl, hB5⟩
              · obtain rfl : t' = 89 := by omega
                cases he2 : (E2 != 0)
                · go_wp2_with (go_at_call 16; refine (num_any _ _ (by omega) (by omega)).mono ?_; rintro e w' ⟨rfl, rfl⟩)
                  go_ret
                  exact ⟨rfl, hB5⟩
                · go_wp2_with (go_at_call 16; refine (num_any _ _ (by omega) (by omega)).mono ?_; rintro e w' ⟨rfl, rfl⟩)
                  go_ret
                  exact ⟨rfl, hB5⟩
            · have hy2 := second_yes hm2 (by omega)
              have hm2' := Lib.hid hm2; clear hm2
              obtain rfl : E2 = 0 := by rw [← hE2'.out, hy2.2]
              have hl2 : L2 = [⟨89, a', b', c', d', t'⟩] := by rw [← hL2'.out, hy2.1]
              clear hy2
              subst hl2
              obtain ⟨g, hg0, hg1, rfl, ⟨x0, x1, x2, x3, x4, x5, x6, x7⟩⟩ := bds_one hbd2'.out
              simp only [] at x0 x1 x2 x3 x4 x5 x6 x7
              have x0_5 : w5.cell? ⟨g, 0, none⟩ = some (.int .i64 89) := carry hw5 (by have := hw4.size; omega) (carry hw4 hg1 (by simpa using x0))
              have x3_5 : w5.cell? ⟨g, 3, none⟩ = some (.int .i64 a') := carry hw5 (by have := hw4.size; omega) (carry hw4 hg1 (by simpa using x3))
              have x4_5 : w5.cell? ⟨g, 4, none⟩ = some (.int .i64 b') := carry hw5 (by have := hw4.size; omega) (carry hw4 hg1 (by simpa using x4))
              have x5_5 : w5.cell? ⟨g, 5, none⟩ = some (.int .i64 c') := carry hw5 (by have := hw4.size; omega) (carry hw4 hg1 (by simpa using x5))
              have x6_5 : w5.cell? ⟨g, 6, none⟩ = some (.int .i64 d') := carry hw5 (by have := hw4.size; omega) (carry hw4 hg1 (by simpa using x6))
              have x7_5 : w5.cell? ⟨g, 7, none⟩ = some (.int .i64 t') := carry hw5 (by have := hw4.size; omega) (carry hw4 hg1 (by simpa using x7))
              clear x0 x1 x2 x3 x4 x5 x6 x7
              have hq : ∀ (x0 x1 x2 x3 y0 y1 y2 y3 : Int) (W : World), (Op.equalIn 9999 22 (.agg #[.int .i64 x0, .int .i64 x1, .int .i64 x2, .int .i64 x3]) (.agg #[.int .i64 y0, .int .i64 y1, .int .i64 y2, .int .i64 y3])).run Tryd.prog W = .ok (x0 == y0 && (x1 == y1 && (x2 == y2 && x3 == y3))) W := fun x0 x1 x2 x3 y0 y1 y2 y3 W => arr_in 9997 22 Tryd.underlying22 W x0 x1 x2 x3 y0 y1 y2 y3
              go_wp2_with fail
              go_quiet ((go_at_call 16; exact Calls.quiet_of_same (num_q _ _ (by omega) (by omega))))
              go_wp2_with fail
              go_ret
              exact ⟨rfl, below_drewN hB5 nq⟩
theorem own : ownKnob Tryd.prog.godebug = none := by kernel_rfl
theorem laidOut : laidOutB Tryd.prog = true := by kernel_rfl
set_option maxRecDepth 100000 in
theorem contract (H : Type) (enc : TypeId × Value → H) (W : World) (base : Nat) (args : Array Value) (ds gs : List (DataW H)) (before : List MemPlace)
    (hval0 : ∀ (j : Nat) t v, Tryd.f8.params[j]? = some t → args[j]? = some v → Value.okWide Tryd.prog W .any base t v)
    (hW : DataW.Whole enc Tryd.prog Tryd.f8.params.toList Rows.rowPureSpec.vars false W args.toList ds gs before)
    (hsz0 : (DataW.weightsEach Tryd.prog (Tryd.f8.params.toList ++ Rows.rowPureSpec.plain.varTypes Tryd.prog) (ds ++ gs)).all (· ≤ reachBytes) = true)
    : Calls Tryd.prog 8 args W fun e W' => ∃ v, e = .returned v ∧ Rows.rowPureSpec.post enc Tryd.prog Tryd.f8 false true false false W args v W' := by
  have hval : ∀ (j : Nat) t v, Tryd.f8.params[j]? = some t → args[j]? = some v → Value.okWide Tryd.prog W .any base t v := hval0
  have hsz : (DataW.weightsEach Tryd.prog (Tryd.f8.params.toList ++ Rows.rowPureSpec.plain.varTypes Tryd.prog) (ds ++ gs)).all (· ≤ reachBytes) = true := hsz0
  have hW' := hW
  obtain ⟨p, q, hA0, hV, rfl, hfz, hnd⟩ := hW
  have hA : DataW.TrodAll enc Tryd.prog W 0 (fun _ => true) true Tryd.f8.params.toList args.toList ds p := hA0
  rw [Tryd.params8] at hA hval hsz
  obtain ⟨v0, vs0, d0, ds0, p0, q0, hargs, rfl, rfl, h0, r0⟩ := trodAll_cons hA
  obtain ⟨v1, vs1, d1, ds1, p1, q1, rfl, rfl, rfl, h1, r1⟩ := trodAll_cons r0
  obtain ⟨rfl, rfl, rfl⟩ := trodAll_nil r1
  obtain rfl : args = #[v0, v1] := by cases args; simp_all
  obtain ⟨rfl, rfl⟩ := trodVars_none hV
  have k0 := h0
  have lt0 : ∀ x ∈ p0, x.block < W.heap.size := by obtain ⟨m, hm⟩ := k0; exact DataW.trod_lt m _ _ _ hm
  obtain ⟨cs0_0, rfl, fit0_0⟩ := open_struct Tryd.underlying24 (f := 6) (by kernel_rfl : flat Tryd.prog 6 24 = some [.i .i64, .i .i64, .i .i64, .i .i64, .i .i64]) (hval 0 24 v0 rfl rfl) h0 (sized_of hsz (j := 0) (t := 24) rfl rfl)
  obtain ⟨_, cs0_1, rfl, ⟨a0_0, rfl, b0_0⟩, fit0_1⟩ := fit_i fit0_0
  obtain ⟨_, cs0_2, rfl, ⟨a0_1, rfl, b0_1⟩, fit0_2⟩ := fit_i fit0_1
  obtain ⟨_, cs0_3, rfl, ⟨a0_2, rfl, b0_2⟩, fit0_3⟩ := fit_i fit0_2
  obtain ⟨_, cs0_4, rfl, ⟨a0_3, rfl, b0_3⟩, fit0_4⟩ := fit_i fit0_3
  obtain ⟨_, cs0_5, rfl, ⟨a0_4, rfl, b0_4⟩, fit0_5⟩ := fit_i fit0_4
  obtain rfl := fit_nil fit0_5
  have k1 := h1
  have lt1 : ∀ x ∈ p1, x.block < W.heap.size := by obtain ⟨m, hm⟩ := k1; exact DataW.trod_lt m _ _ _ hm
  obtain ⟨cs1_0, rfl, fit1_0⟩ := open_struct Tryd.underlying24 (f := 6) (by kernel_rfl : flat Tryd.prog 6 24 = some [.i .i64, .i .i64, .i .i64, .i .i64, .i .i64]) (hval 1 24 v1 rfl rfl) h1 (sized_of hsz (j := 1) (t := 24) rfl rfl)
  obtain ⟨_, cs1_1, rfl, ⟨a1_0, rfl, b1_0⟩, fit1_1⟩ := fit_i fit1_0
  obtain ⟨_, cs1_2, rfl, ⟨a1_1, rfl, b1_1⟩, fit1_2⟩ := fit_i fit1_1
  obtain ⟨_, cs1_3, rfl, ⟨a1_2, rfl, b1_2⟩, fit1_3⟩ := fit_i fit1_2
  obtain ⟨_, cs1_4, rfl, ⟨a1_3, rfl, b1_3⟩, fit1_4⟩ := fit_i fit1_3
  obtain ⟨_, cs1_5, rfl, ⟨a1_4, rfl, b1_4⟩, fit1_5⟩ := fit_i fit1_4
  obtain rfl := fit_nil fit1_5
  clear hA0 hval0
  refine (walk a0_0 a0_1 a0_2 a0_3 a0_4 a1_0 a1_1 a1_2 a1_3 a1_4 W (bd_i64 b0_0) (bd_i64 b0_1) (bd_i64 b0_2) (bd_i64 b0_3) (bd_i64 b0_4) (bd_i64 b1_0) (bd_i64 b1_1) (bd_i64 b1_2) (bd_i64 b1_3) (bd_i64 b1_4)).mono fun e W' ⟨he, bel⟩ => ?_
  subst he
  exact ⟨_, rfl, _, _, _, [], _, [], hW', trodAll_mk1 (shut_bool Tryd.underlying4 _), (trodAll_cons_mk (Below.trod laidOut (by kernel_rfl) (of_decide_eq_true (by kernel_rfl)) k0 bel lt0) (trodAll_cons_mk (Below.trod laidOut (by kernel_rfl) (of_decide_eq_true (by kernel_rfl)) k1 bel lt1) trodAll_mk0)), rfl, bel.frame _, fun h => by cases h⟩
noncomputable def laidWorld (os : Os) : World := { World.holding Tryd.prog os ⟨#[], #[], []⟩ with heap := layAll Tryd.prog Rows.rowPureRow.laid (World.holding Tryd.prog os ⟨#[], #[], []⟩).heap }
theorem laid_met (os : Os) : laidMet Tryd.prog Rows.rowPureRow.laid ((laidWorld os).forCall (fun _ _ => 0) ⟨#[], #[.agg #[.int .i64 0, .int .i64 0, .int .i64 0, .int .i64 0, .int .i64 0], .agg #[.int .i64 0, .int .i64 0, .int .i64 0, .int .i64 0, .int .i64 0]], []⟩).memory := laidMet_of_run' 8 (by kernel_rfl) (by kernel_rfl)
theorem reads (os : Os) {H : Type} (enc : TypeId × Value → H) : ∃ places, DataW.whole enc Tryd.prog ((laidWorld os).forCall (fun _ _ => 0) ⟨#[], #[.agg #[.int .i64 0, .int .i64 0, .int .i64 0, .int .i64 0, .int .i64 0], .agg #[.int .i64 0, .int .i64 0, .int .i64 0, .int .i64 0, .int .i64 0]], []⟩).memory Tryd.f8.params.toList Rows.rowPureSpec.vars false #[(.agg #[.int .i64 0, .int .i64 0, .int .i64 0, .int .i64 0, .int .i64 0] : Value), (.agg #[.int .i64 0, .int .i64 0, .int .i64 0, .int .i64 0, .int .i64 0] : Value)].toList 8 = some ([.agg [.agg [.lit (.int .i64 0), .lit (.int .i64 0), .lit (.int .i64 0), .lit (.int .i64 0)], .lit (.int .i64 0)], .agg [.agg [.lit (.int .i64 0), .lit (.int .i64 0), .lit (.int .i64 0), .lit (.int .i64 0)], .lit (.int .i64 0)]], [], places) := ⟨[], by kernel_rfl⟩
set_option maxRecDepth 100000 in
theorem lifted (os : Os) (started : os.Started) (H : Type) (enc : TypeId × Value → H) (F : Stop.Interp) :
    ReturnsInHanded {} Tryd.checked os 8 .any ((OpenSpec.ofChange Rows.rowPureSpec).preRow enc Tryd.prog Tryd.f8 Rows.rowPureRow.domain false Rows.rowPureRow.laid) (((OpenSpec.ofChange Rows.rowPureSpec).at F).post enc Tryd.prog Tryd.f8 false true false false) := by
  obtain ⟨places, hx⟩ := reads os enc
  refine returnsInHanded_of_row (C := Tryd.checked) (s := (OpenSpec.ofChange Rows.rowPureSpec)) own started (by kernel_rfl) Tryd.func8
    (witness_row_at (enc := enc) (C := Tryd.checked) false (laidWorld os) #[.agg #[.int .i64 0, .int .i64 0, .int .i64 0, .int .i64 0, .int .i64 0], .agg #[.int .i64 0, .int .i64 0, .int .i64 0, .int .i64 0, .int .i64 0]] rfl (by kernel_rfl) (by kernel_rfl) (by kernel_rfl)
      (OpenSpec.preRow_of_cond 8 hx (by kernel_rfl) (fun k hk => by cases hk) (by kernel_rfl) (laid_met os))) ?_
  intro W base args ds gs before hval hW _ hcnd hsz hL _ _
  exact contract H enc W base args ds gs before hval hW hsz  
theorem said : Rows.RowPureSaid :=
  OpenClaim.holds_of_cond 8 Tryd.f8 rfl rfl rfl rfl rfl rfl rfl ⟨rfl, rfl, rfl, rfl, rfl⟩ rfl rfl rfl rfl rfl (by kernel_rfl) Tryd.func8 (by kernel_rfl)
    (of_decide_eq_true (by kernel_rfl)) (by unfold Func.isWrapper; first | (rw [if_pos (by decide +kernel)]; kernel_rfl) | (rw [if_neg (by decide +kernel)]; exact ⟨rfl, rfl⟩))
    (fun os started H enc _ F => by rw [OpenClaim.pre_eq_preRow]; exact lifted os started H enc F)
theorem plain (f : FuncId) (fn : Func) (hf : Tryd.pinned.checked.prog.funcNamed "trammel/trammellaw8.RowPure" = some f) (hfn : Tryd.pinned.checked.prog.funcs[f]? = some fn) :
    false = Tryd.pinned.checked.prog.looks [] ∧ ∀ (j : Nat) t, fn.params[j]? = some t → Tryd.pinned.checked.prog.wantsStandIn t = false := by
  obtain rfl : f = 8 := Option.some.inj ((show Tryd.prog.funcNamed "trammel/trammellaw8.RowPure" = some 8 by kernel_rfl).symm.trans hf) |>.symm
  obtain rfl : fn = Tryd.f8 := (Option.some.inj (Tryd.func8.symm.trans hfn)).symm
  refine ⟨by kernel_rfl, fun j t ht => ?_⟩
  rw [Tryd.params8] at ht
  have hm := Array.mem_of_getElem? ht
  have hm2 : t ∈ ([24] : List Nat) := by simpa using hm
  simp only [List.mem_cons, List.not_mem_nil, or_false] at hm2
  subst hm2; exact (show Tryd.prog.wantsStandIn 24 = false by kernel_rfl)
theorem proved : Rows.RowPureCardSaid :=
  Claim7.holds_tied_plain_at .later [] _ _ _ _ said (fun _ h => by cases h) (by kernel_rfl) (fun _ h => by cases h) rowPure_row_tie rfl ⟨rfl, rfl⟩ (by kernel_rfl) rfl plain (by kernel_rfl)
end Go.Proofs.YtlbopoidjnaokaaDoor.rowPure
