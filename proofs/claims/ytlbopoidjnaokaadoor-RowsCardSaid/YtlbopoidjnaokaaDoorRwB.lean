/- Rows of effects: With. -/
import Derived.Test.YtlbopoidjnaokaaDoorRwA
namespace Go.Proofs.YtlbopoidjnaokaaDoor
open Go.RowKit
set_option linter.unusedVariables false
set_option linter.unusedSimpArgs false

def rowV (a b c d t : Int) : Value := .agg #[.int .i64 a, .int .i64 b, .int .i64 c, .int .i64 d, .int .i64 t]
def cntAt (a b c d op : Int) : Int := if op = 0 then a else if op = 1 then b else if op = 2 then c else d
def withOk (a b c d t op : Int) : Bool := mayR a b c d t && decide (0 ≤ op ∧ op < 4) && decide (cntAt a b c d op ≠ 32)
def plus (x op k : Int) : Int := if op = k then x + 1 else x
/-- With's answer and its error. -/
def withV (a b c d t op : Int) : Value := if withOk a b c d t op then rowV (plus a op 0) (plus b op 1) (plus c op 2) (plus d op 3) t else rowV 0 0 0 0 0
def withE (a b c d t op : Int) : Int := if withOk a b c d t op then 0 else 800

theorem with_no {a b c d t op : Int} (h : withOk a b c d t op = false) : withV a b c d t op = rowV 0 0 0 0 0 ∧ withE a b c d t op = 800 := by
  unfold withV withE; rw [h]; exact ⟨rfl, rfl⟩

set_option maxHeartbeats 2000000 in
set_option maxRecDepth 100000 in
theorem with_any (a b c d t op : Int) (w : World) :
    Calls Tryd.prog 13 #[.agg #[.int .i64 a, .int .i64 b, .int .i64 c, .int .i64 d, .int .i64 t], .int .i64 op] w fun e w' => e = .returned (.tuple #[withV a b c d t op, .int .i64 (withE a b c d t op)]) ∧ Below w.heap.size w w' := by
  go_enter Tryd.func13, Tryd.ntmps13
  go_wp2_with fail
  refine (rowsMay_any _ _ _ _ _ _).mono ?_
  rintro e w1 ⟨rfl, hb1⟩
  obtain ⟨hc1, hf1⟩ := bcell hb1
  have hz1_0 : w.heap.size < w1.heap.size := by have := hb1.size; (try simp at this); omega
  have hz1_1 : w.heap.size + 1 < w1.heap.size := by have := hb1.size; (try simp at this); omega
  have hcl1_0_0 : w1.cell? ⟨w.heap.size, 0, none⟩ = some (.int .i64 a) := by rw [hc1 _ _ (by simp; try omega)]; simp
  have hfl1_0_0 : w1.frozen? ⟨w.heap.size, 0, none⟩ = false := by rw [hf1 _ _ (by simp; try omega)]; simp
  have hcl1_0_1 : w1.cell? ⟨w.heap.size, 1, none⟩ = some (.int .i64 b) := by rw [hc1 _ _ (by simp; try omega)]; simp
  have hfl1_0_1 : w1.frozen? ⟨w.heap.size, 1, none⟩ = false := by rw [hf1 _ _ (by simp; try omega)]; simp
  have hcl1_0_2 : w1.cell? ⟨w.heap.size, 2, none⟩ = some (.int .i64 c) := by rw [hc1 _ _ (by simp; try omega)]; simp
  have hfl1_0_2 : w1.frozen? ⟨w.heap.size, 2, none⟩ = false := by rw [hf1 _ _ (by simp; try omega)]; simp
  have hcl1_0_3 : w1.cell? ⟨w.heap.size, 3, none⟩ = some (.int .i64 d) := by rw [hc1 _ _ (by simp; try omega)]; simp
  have hfl1_0_3 : w1.frozen? ⟨w.heap.size, 3, none⟩ = false := by rw [hf1 _ _ (by simp; try omega)]; simp
  have hcl1_0_4 : w1.cell? ⟨w.heap.size, 4, none⟩ = some (.int .i64 t) := by rw [hc1 _ _ (by simp; try omega)]; simp
  have hfl1_0_4 : w1.frozen? ⟨w.heap.size, 4, none⟩ = false := by rw [hf1 _ _ (by simp; try omega)]; simp
  have hcl1_1_0 : w1.cell? ⟨w.heap.size + 1, 0, none⟩ = some (.int .i64 0) := by rw [hc1 _ _ (by simp; try omega)]; simp
  have hfl1_1_0 : w1.frozen? ⟨w.heap.size + 1, 0, none⟩ = false := by rw [hf1 _ _ (by simp; try omega)]; simp
  have hcl1_1_1 : w1.cell? ⟨w.heap.size + 1, 1, none⟩ = some (.int .i64 0) := by rw [hc1 _ _ (by simp; try omega)]; simp
  have hfl1_1_1 : w1.frozen? ⟨w.heap.size + 1, 1, none⟩ = false := by rw [hf1 _ _ (by simp; try omega)]; simp
  have hcl1_1_2 : w1.cell? ⟨w.heap.size + 1, 2, none⟩ = some (.int .i64 0) := by rw [hc1 _ _ (by simp; try omega)]; simp
  have hfl1_1_2 : w1.frozen? ⟨w.heap.size + 1, 2, none⟩ = false := by rw [hf1 _ _ (by simp; try omega)]; simp
  have hcl1_1_3 : w1.cell? ⟨w.heap.size + 1, 3, none⟩ = some (.int .i64 0) := by rw [hc1 _ _ (by simp; try omega)]; simp
  have hfl1_1_3 : w1.frozen? ⟨w.heap.size + 1, 3, none⟩ = false := by rw [hf1 _ _ (by simp; try omega)]; simp
  have hcl1_1_4 : w1.cell? ⟨w.heap.size + 1, 4, none⟩ = some (.int .i64 0) := by rw [hc1 _ _ (by simp; try omega)]; simp
  have hfl1_1_4 : w1.frozen? ⟨w.heap.size + 1, 4, none⟩ = false := by rw [hf1 _ _ (by simp; try omega)]; simp
  clear hc1 hf1
  cases hx : mayR a b c d t
  · have hv := Lib.hid (with_no (op := op) (show withOk a b c d t op = false by unfold withOk; rw [hx]; rfl)); clear hx
    go_wp2_with fail
    exact bodyPost_ret (v := .tuple #[rowV 0 0 0 0 0, .int .i64 800]) (by simp [results, Tryd.results13, go_sem, rowV, *]) rfl ⟨by rw [hv.out.1, hv.out.2], by (repeat' (first | with_reducible exact Below.refl _ _ | with_reducible assumption | with_reducible apply Below.setCell | with_reducible apply Below.alloc | with_reducible apply Below.drew | with_reducible apply below_drewN | with_reducible exact Nat.le_refl _ | (simp; done) | (simp; omega) | omega | exact Nat.le_refl _)); exact belT (by (repeat' (first | with_reducible exact Below.refl _ _ | with_reducible assumption | with_reducible apply Below.setCell | with_reducible apply Below.alloc | with_reducible apply Below.drew | with_reducible apply below_drewN | with_reducible exact Nat.le_refl _ | (simp; done) | (simp; omega) | omega | exact Nat.le_refl _))) hb1⟩
  have hm : 0 ≤ a ∧ a ≤ 32 ∧ 0 ≤ b ∧ b ≤ 32 ∧ 0 ≤ c ∧ c ≤ 32 ∧ 0 ≤ d ∧ d ≤ 32 := by have := of_decide_eq_true hx; omega
  by_cases h0 : op < 0
  · have hv := Lib.hid (with_no (op := op) (show withOk a b c d t op = false by unfold withOk; rw [decide_eq_false (by omega : ¬ (0 ≤ op ∧ op < 4))]; simp)); clear hx
    go_wp2_with fail
    exact bodyPost_ret (v := .tuple #[rowV 0 0 0 0 0, .int .i64 800]) (by simp [results, Tryd.results13, go_sem, rowV, *]) rfl ⟨by rw [hv.out.1, hv.out.2], by (repeat' (first | with_reducible exact Below.refl _ _ | with_reducible assumption | with_reducible apply Below.setCell | with_reducible apply Below.alloc | with_reducible apply Below.drew | with_reducible apply below_drewN | with_reducible exact Nat.le_refl _ | (simp; done) | (simp; omega) | omega | exact Nat.le_refl _)); exact belT (by (repeat' (first | with_reducible exact Below.refl _ _ | with_reducible assumption | with_reducible apply Below.setCell | with_reducible apply Below.alloc | with_reducible apply Below.drew | with_reducible apply below_drewN | with_reducible exact Nat.le_refl _ | (simp; done) | (simp; omega) | omega | exact Nat.le_refl _))) hb1⟩
  by_cases h4 : 4 ≤ op
  · have hv := Lib.hid (with_no (op := op) (show withOk a b c d t op = false by unfold withOk; rw [decide_eq_false (by omega : ¬ (0 ≤ op ∧ op < 4))]; simp)); clear hx
    go_wp2_with fail
    exact bodyPost_ret (v := .tuple #[rowV 0 0 0 0 0, .int .i64 800]) (by simp [results, Tryd.results13, go_sem, rowV, *]) rfl ⟨by rw [hv.out.1, hv.out.2], by (repeat' (first | with_reducible exact Below.refl _ _ | with_reducible assumption | with_reducible apply Below.setCell | with_reducible apply Below.alloc | with_reducible apply Below.drew | with_reducible apply below_drewN | with_reducible exact Nat.le_refl _ | (simp; done) | (simp; omega) | omega | exact Nat.le_refl _)); exact belT (by (repeat' (first | with_reducible exact Below.refl _ _ | with_reducible assumption | with_reducible apply Below.setCell | with_reducible apply Below.alloc | with_reducible apply Below.drew | with_reducible apply below_drewN | with_reducible exact Nat.le_refl _ | (simp; done) | (simp; omega) | omega | exact Nat.le_refl _))) hb1⟩
  have hop : op = 0 ∨ op = 1 ∨ op = 2 ∨ op = 3 := by omega
  rcases hop with rfl | rfl | rfl | rfl
  · by_cases he : a = 32
    · have hv := Lib.hid (with_no (op := 0) (show withOk a b c d t 0 = false by unfold withOk; simp [cntAt, he])); clear hx
      have heb : (a == 32) = true := by simpa using he
      have hge : 32 ≤ a := by omega
      clear he
      go_wp2_with fail
      exact bodyPost_ret (v := .tuple #[rowV 0 0 0 0 0, .int .i64 800]) (by simp [results, Tryd.results13, go_sem, rowV, *]) rfl ⟨by rw [hv.out.1, hv.out.2], by (repeat' (first | with_reducible exact Below.refl _ _ | with_reducible assumption | with_reducible apply Below.setCell | with_reducible apply Below.alloc | with_reducible apply Below.drew | with_reducible apply below_drewN | with_reducible exact Nat.le_refl _ | (simp; done) | (simp; omega) | omega | exact Nat.le_refl _)); exact belT (by (repeat' (first | with_reducible exact Below.refl _ _ | with_reducible assumption | with_reducible apply Below.setCell | with_reducible apply Below.alloc | with_reducible apply Below.drew | with_reducible apply below_drewN | with_reducible exact Nat.le_refl _ | (simp; done) | (simp; omega) | omega | exact Nat.le_refl _))) hb1⟩
    · have hv : Hid (withV a b c d t 0 = rowV (a + 1) b c d t ∧ withE a b c d t 0 = 0) := Lib.hid (by
        have hok : withOk a b c d t 0 = true := by unfold withOk; rw [hx]; simp [cntAt, he]
        unfold withV withE; rw [hok]; simp [plus])
      have heb : (a == 32) = false := by simpa using he
      have hlt : a < 32 := by omega
      clear hx
      go_wp2_with fail
      exact bodyPost_ret (v := .tuple #[rowV (a + 1) b c d t, .int .i64 0]) (by simp [results, Tryd.results13, go_sem, rowV, *]) rfl ⟨by rw [hv.out.1, hv.out.2], by (repeat' (first | with_reducible exact Below.refl _ _ | with_reducible assumption | with_reducible apply Below.setCell | with_reducible apply Below.alloc | with_reducible apply Below.drew | with_reducible apply below_drewN | with_reducible exact Nat.le_refl _ | (simp; done) | (simp; omega) | omega | exact Nat.le_refl _)); exact belT (by (repeat' (first | with_reducible exact Below.refl _ _ | with_reducible assumption | with_reducible apply Below.setCell | with_reducible apply Below.alloc | with_reducible apply Below.drew | with_reducible apply below_drewN | with_reducible exact Nat.le_refl _ | (simp; done) | (simp; omega) | omega | exact Nat.le_refl _))) hb1⟩
  · by_cases he : b = 32
    · have hv := Lib.hid (with_no (op := 1) (show withOk a b c d t 1 = false by unfold withOk; simp [cntAt, he])); clear hx
      have heb : (b == 32) = true := by simpa using he
      have hge : 32 ≤ b := by omega
      clear he
      go_wp2_with fail
      exact bodyPost_ret (v := .tuple #[rowV 0 0 0 0 0, .int .i64 800]) (by simp [results, Tryd.results13, go_sem, rowV, *]) rfl ⟨by rw [hv.out.1, hv.out.2], by (repeat' (first | with_reducible exact Below.refl _ _ | with_reducible assumption | with_reducible apply Below.setCell | with_reducible apply Below.alloc | with_reducible apply Below.drew | with_reducible apply below_drewN | with_reducible exact Nat.le_refl _ | (simp; done) | (simp; omega) | omega | exact Nat.le_refl _)); exact belT (by (repeat' (first | with_reducible exact Below.refl _ _ | with_reducible assumption | with_reducible apply Below.setCell | with_reducible apply Below.alloc | with_reducible apply Below.drew | with_reducible apply below_drewN | with_reducible exact Nat.le_refl _ | (simp; done) | (simp; omega) | omega | exact Nat.le_refl _))) hb1⟩
    · have hv : Hid (withV a b c d t 1 = rowV a (b + 1) c d t ∧ withE a b c d t 1 = 0) := Lib.hid (by
        have hok : withOk a b c d t 1 = true := by unfold withOk; rw [hx]; simp [cntAt, he]
        unfold withV withE; rw [hok]; simp [plus])
      have heb : (b == 32) = false := by simpa using he
      have hlt : b < 32 := by omega
      clear hx
      go_wp2_with fail
      exact bodyPost_ret (v := .tuple #[rowV a (b + 1) c d t, .int .i64 0]) (by simp [results, Tryd.results13, go_sem, rowV, *]) rfl ⟨by rw [hv.out.1, hv.out.2], by (repeat' (first | with_reducible exact Below.refl _ _ | with_reducible assumption | with_reducible apply Below.setCell | with_reducible apply Below.alloc | with_reducible apply Below.drew | with_reducible apply below_drewN | with_reducible exact Nat.le_refl _ | (simp; done) | (simp; omega) | omega | exact Nat.le_refl _)); exact belT (by (repeat' (first | with_reducible exact Below.refl _ _ | with_reducible assumption | with_reducible apply Below.setCell | with_reducible apply Below.alloc | with_reducible apply Below.drew | with_reducible apply below_drewN | with_reducible exact Nat.le_refl _ | (simp; done) | (simp; omega) | omega | exact Nat.le_refl _))) hb1⟩
  · by_cases he : c = 32
    · have hv := Lib.hid (with_no (op := 2) (show withOk a b c d t 2 = false by unfold withOk; simp [cntAt, he])); clear hx
      have heb : (c == 32) = true := by simpa using he
      have hge : 32 ≤ c := by omega
      clear he
      go_wp2_with fail
      exact bodyPost_ret (v := .tuple #[rowV 0 0 0 0 0, .int .i64 800]) (by simp [results, Tryd.results13, go_sem, rowV, *]) rfl ⟨by rw [hv.out.1, hv.out.2], by (repeat' (first | with_reducible exact Below.refl _ _ | with_reducible assumption | with_reducible apply Below.setCell | with_reducible apply Below.alloc | with_reducible apply Below.drew | with_reducible apply below_drewN | with_reducible exact Nat.le_refl _ | (simp; done) | (simp; omega) | omega | exact Nat.le_refl _)); exact belT (by (repeat' (first | with_reducible exact Below.refl _ _ | with_reducible assumption | with_reducible apply Below.setCell | with_reducible apply Below.alloc | with_reducible apply Below.drew | with_reducible apply below_drewN | with_reducible exact Nat.le_refl _ | (simp; done) | (simp; omega) | omega | exact Nat.le_refl _))) hb1⟩
    · have hv : Hid (withV a b c d t 2 = rowV a b (c + 1) d t ∧ withE a b c d t 2 = 0) := Lib.hid (by
        have hok : withOk a b c d t 2 = true := by unfold withOk; rw [hx]; simp [cntAt, he]
        unfold withV withE; rw [hok]; simp [plus])
      have heb : (c == 32) = false := by simpa using he
      have hlt : c < 32 := by omega
      clear hx
      go_wp2_with fail
      exact bodyPost_ret (v := .tuple #[rowV a b (c + 1) d t, .int .i64 0]) (by simp [results, Tryd.results13, go_sem, rowV, *]) rfl ⟨by rw [hv.out.1, hv.out.2], by (repeat' (first | with_reducible exact Below.refl _ _ | with_reducible assumption | with_reducible apply Below.setCell | with_reducible apply Below.alloc | with_reducible apply Below.drew | with_reducible apply below_drewN | with_reducible exact Nat.le_refl _ | (simp; done) | (simp; omega) | omega | exact Nat.le_refl _)); exact belT (by (repeat' (first | with_reducible exact Below.refl _ _ | with_reducible assumption | with_reducible apply Below.setCell | with_reducible apply Below.alloc | with_reducible apply Below.drew | with_reducible apply below_drewN | with_reducible exact Nat.le_refl _ | (simp; done) | (simp; omega) | omega | exact Nat.le_refl _))) hb1⟩
  · by_cases he : d = 32
    · have hv := Lib.hid (with_no (op := 3) (show withOk a b c d t 3 = false by unfold withOk; simp [cntAt, he])); clear hx
      have heb : (d == 32) = true := by simpa using he
      have hge : 32 ≤ d := by omega
      clear he
      go_wp2_with fail
      exact bodyPost_ret (v := .tuple #[rowV 0 0 0 0 0, .int .i64 800]) (by simp [results, Tryd.results13, go_sem, rowV, *]) rfl ⟨by rw [hv.out.1, hv.out.2], by (repeat' (first | with_reducible exact Below.refl _ _ | with_reducible assumption | with_reducible apply Below.setCell | with_reducible apply Below.alloc | with_reducible apply Below.drew | with_reducible apply below_drewN | with_reducible exact Nat.le_refl _ | (simp; done) | (simp; omega) | omega | exact Nat.le_refl _)); exact belT (by (repeat' (first | with_reducible exact Below.refl _ _ | with_reducible assumption | with_reducible apply Below.setCell | with_reducible apply Below.alloc | with_reducible apply Below.drew | with_reducible apply below_drewN | with_reducible exact Nat.le_refl _ | (simp; done) | (simp; omega) | omega | exact Nat.le_refl _))) hb1⟩
    · have hv : Hid (withV a b c d t 3 = rowV a b c (d + 1) t ∧ withE a b c d t 3 = 0) := Lib.hid (by
        have hok : withOk a b c d t 3 = true := by unfold withOk; rw [hx]; simp [cntAt, he]
        unfold withV withE; rw [hok]; simp [plus])
      have heb : (d == 32) = false := by simpa using he
      have hlt : d < 32 := by omega
      clear hx
      go_wp2_with fail
      exact bodyPost_ret (v := .tuple #[rowV a b c (d + 1) t, .int .i64 0]) (by simp [results, Tryd.results13, go_sem, rowV, *]) rfl ⟨by rw [hv.out.1, hv.out.2], by (repeat' (first | with_reducible exact Below.refl _ _ | with_reducible assumption | with_reducible apply Below.setCell | with_reducible apply Below.alloc | with_reducible apply Below.drew | with_reducible apply below_drewN | with_reducible exact Nat.le_refl _ | (simp; done) | (simp; omega) | omega | exact Nat.le_refl _)); exact belT (by (repeat' (first | with_reducible exact Below.refl _ _ | with_reducible assumption | with_reducible apply Below.setCell | with_reducible apply Below.alloc | with_reducible apply Below.drew | with_reducible apply below_drewN | with_reducible exact Nat.le_refl _ | (simp; done) | (simp; omega) | omega | exact Nat.le_refl _))) hb1⟩

set_option maxHeartbeats 2000000 in
set_option maxRecDepth 100000 in
theorem rwith_any (a b c d t op : Int) (w : World) :
    Calls Tryd.prog 14 #[.agg #[.int .i64 a, .int .i64 b, .int .i64 c, .int .i64 d, .int .i64 t], .int .i64 op] w fun e w' => e = .returned (.tuple #[withV a b c d t op, .int .i64 (withE a b c d t op)]) ∧ Below w.heap.size w w' := by
  go_enter Tryd.func14, Tryd.ntmps14
  go_wp2_with fail
  refine (rRowMay_any _ _ _ _ _ _).mono ?_
  rintro e w1 ⟨rfl, hb1⟩
  obtain ⟨hc1, hf1⟩ := bcell hb1
  have hz1_0 : w.heap.size < w1.heap.size := by have := hb1.size; (try simp at this); omega
  have hz1_1 : w.heap.size + 1 < w1.heap.size := by have := hb1.size; (try simp at this); omega
  have hcl1_0_0 : w1.cell? ⟨w.heap.size, 0, none⟩ = some (.int .i64 a) := by rw [hc1 _ _ (by simp; try omega)]; simp
  have hfl1_0_0 : w1.frozen? ⟨w.heap.size, 0, none⟩ = false := by rw [hf1 _ _ (by simp; try omega)]; simp
  have hcl1_0_1 : w1.cell? ⟨w.heap.size, 1, none⟩ = some (.int .i64 b) := by rw [hc1 _ _ (by simp; try omega)]; simp
  have hfl1_0_1 : w1.frozen? ⟨w.heap.size, 1, none⟩ = false := by rw [hf1 _ _ (by simp; try omega)]; simp
  have hcl1_0_2 : w1.cell? ⟨w.heap.size, 2, none⟩ = some (.int .i64 c) := by rw [hc1 _ _ (by simp; try omega)]; simp
  have hfl1_0_2 : w1.frozen? ⟨w.heap.size, 2, none⟩ = false := by rw [hf1 _ _ (by simp; try omega)]; simp
  have hcl1_0_3 : w1.cell? ⟨w.heap.size, 3, none⟩ = some (.int .i64 d) := by rw [hc1 _ _ (by simp; try omega)]; simp
  have hfl1_0_3 : w1.frozen? ⟨w.heap.size, 3, none⟩ = false := by rw [hf1 _ _ (by simp; try omega)]; simp
  have hcl1_0_4 : w1.cell? ⟨w.heap.size, 4, none⟩ = some (.int .i64 t) := by rw [hc1 _ _ (by simp; try omega)]; simp
  have hfl1_0_4 : w1.frozen? ⟨w.heap.size, 4, none⟩ = false := by rw [hf1 _ _ (by simp; try omega)]; simp
  have hcl1_1_0 : w1.cell? ⟨w.heap.size + 1, 0, none⟩ = some (.int .i64 0) := by rw [hc1 _ _ (by simp; try omega)]; simp
  have hfl1_1_0 : w1.frozen? ⟨w.heap.size + 1, 0, none⟩ = false := by rw [hf1 _ _ (by simp; try omega)]; simp
  have hcl1_1_1 : w1.cell? ⟨w.heap.size + 1, 1, none⟩ = some (.int .i64 0) := by rw [hc1 _ _ (by simp; try omega)]; simp
  have hfl1_1_1 : w1.frozen? ⟨w.heap.size + 1, 1, none⟩ = false := by rw [hf1 _ _ (by simp; try omega)]; simp
  have hcl1_1_2 : w1.cell? ⟨w.heap.size + 1, 2, none⟩ = some (.int .i64 0) := by rw [hc1 _ _ (by simp; try omega)]; simp
  have hfl1_1_2 : w1.frozen? ⟨w.heap.size + 1, 2, none⟩ = false := by rw [hf1 _ _ (by simp; try omega)]; simp
  have hcl1_1_3 : w1.cell? ⟨w.heap.size + 1, 3, none⟩ = some (.int .i64 0) := by rw [hc1 _ _ (by simp; try omega)]; simp
  have hfl1_1_3 : w1.frozen? ⟨w.heap.size + 1, 3, none⟩ = false := by rw [hf1 _ _ (by simp; try omega)]; simp
  have hcl1_1_4 : w1.cell? ⟨w.heap.size + 1, 4, none⟩ = some (.int .i64 0) := by rw [hc1 _ _ (by simp; try omega)]; simp
  have hfl1_1_4 : w1.frozen? ⟨w.heap.size + 1, 4, none⟩ = false := by rw [hf1 _ _ (by simp; try omega)]; simp
  clear hc1 hf1
  cases hx : mayR a b c d t
  · have hv := Lib.hid (with_no (op := op) (show withOk a b c d t op = false by unfold withOk; rw [hx]; rfl)); clear hx
    go_wp2_with fail
    exact bodyPost_ret (v := .tuple #[rowV 0 0 0 0 0, .int .i64 800]) (by simp [results, Tryd.results14, go_sem, rowV, *]) rfl ⟨by rw [hv.out.1, hv.out.2], by (repeat' (first | with_reducible exact Below.refl _ _ | with_reducible assumption | with_reducible apply Below.setCell | with_reducible apply Below.alloc | with_reducible apply Below.drew | with_reducible apply below_drewN | with_reducible exact Nat.le_refl _ | (simp; done) | (simp; omega) | omega | exact Nat.le_refl _)); exact belT (by (repeat' (first | with_reducible exact Below.refl _ _ | with_reducible assumption | with_reducible apply Below.setCell | with_reducible apply Below.alloc | with_reducible apply Below.drew | with_reducible apply below_drewN | with_reducible exact Nat.le_refl _ | (simp; done) | (simp; omega) | omega | exact Nat.le_refl _))) hb1⟩
  have hm : 0 ≤ a ∧ a ≤ 32 ∧ 0 ≤ b ∧ b ≤ 32 ∧ 0 ≤ c ∧ c ≤ 32 ∧ 0 ≤ d ∧ d ≤ 32 := by have := of_decide_eq_true hx; omega
  by_cases h0 : op < 0
  · have hv := Lib.hid (with_no (op := op) (show withOk a b c d t op = false by unfold withOk; rw [decide_eq_false (by omega : ¬ (0 ≤ op ∧ op < 4))]; simp)); clear hx
    go_wp2_with fail
    exact bodyPost_ret (v := .tuple #[rowV 0 0 0 0 0, .int .i64 800]) (by simp [results, Tryd.results14, go_sem, rowV, *]) rfl ⟨by rw [hv.out.1, hv.out.2], by (repeat' (first | with_reducible exact Below.refl _ _ | with_reducible assumption | with_reducible apply Below.setCell | with_reducible apply Below.alloc | with_reducible apply Below.drew | with_reducible apply below_drewN | with_reducible exact Nat.le_refl _ | (simp; done) | (simp; omega) | omega | exact Nat.le_refl _)); exact belT (by (repeat' (first | with_reducible exact Below.refl _ _ | with_reducible assumption | with_reducible apply Below.setCell | with_reducible apply Below.alloc | with_reducible apply Below.drew | with_reducible apply below_drewN | with_reducible exact Nat.le_refl _ | (simp; done) | (simp; omega) | omega | exact Nat.le_refl _))) hb1⟩
  by_cases h4 : 4 ≤ op
  · have hv := Lib.hid (with_no (op := op) (show withOk a b c d t op = false by unfold withOk; rw [decide_eq_false (by omega : ¬ (0 ≤ op ∧ op < 4))]; simp)); clear hx
    go_wp2_with fail
    exact bodyPost_ret (v := .tuple #[rowV 0 0 0 0 0, .int .i64 800]) (by simp [results, Tryd.results14, go_sem, rowV, *]) rfl ⟨by rw [hv.out.1, hv.out.2], by (repeat' (first | with_reducible exact Below.refl _ _ | with_reducible assumption | with_reducible apply Below.setCell | with_reducible apply Below.alloc | with_reducible apply Below.drew | with_reducible apply below_drewN | with_reducible exact Nat.le_refl _ | (simp; done) | (simp; omega) | omega | exact Nat.le_refl _)); exact belT (by (repeat' (first | with_reducible exact Below.refl _ _ | with_reducible assumption | with_reducible apply Below.setCell | with_reducible apply Below.alloc | with_reducible apply Below.drew | with_reducible apply below_drewN | with_reducible exact Nat.le_refl _ | (simp; done) | (simp; omega) | omega | exact Nat.le_refl _))) hb1⟩
  have hop : op = 0 ∨ op = 1 ∨ op = 2 ∨ op = 3 := by omega
  rcases hop with rfl | rfl | rfl | rfl
  · by_cases he : a = 32
    · have hv := Lib.hid (with_no (op := 0) (show withOk a b c d t 0 = false by unfold withOk; simp [cntAt, he])); clear hx
      have heb : (a == 32) = true := by simpa using he
      have hge : 32 ≤ a := by omega
      clear he
      go_wp2_with fail
      exact bodyPost_ret (v := .tuple #[rowV 0 0 0 0 0, .int .i64 800]) (by simp [results, Tryd.results14, go_sem, rowV, *]) rfl ⟨by rw [hv.out.1, hv.out.2], by (repeat' (first | with_reducible exact Below.refl _ _ | with_reducible assumption | with_reducible apply Below.setCell | with_reducible apply Below.alloc | with_reducible apply Below.drew | with_reducible apply below_drewN | with_reducible exact Nat.le_refl _ | (simp; done) | (simp; omega) | omega | exact Nat.le_refl _)); exact belT (by (repeat' (first | with_reducible exact Below.refl _ _ | with_reducible assumption | with_reducible apply Below.setCell | with_reducible apply Below.alloc | with_reducible apply Below.drew | with_reducible apply below_drewN | with_reducible exact Nat.le_refl _ | (simp; done) | (simp; omega) | omega | exact Nat.le_refl _))) hb1⟩
    · have hv : Hid (withV a b c d t 0 = rowV (a + 1) b c d t ∧ withE a b c d t 0 = 0) := Lib.hid (by
        have hok : withOk a b c d t 0 = true := by unfold withOk; rw [hx]; simp [cntAt, he]
        unfold withV withE; rw [hok]; simp [plus])
      have heb : (a == 32) = false := by simpa using he
      have hlt : a < 32 := by omega
      clear hx
      go_wp2_with fail
      exact bodyPost_ret (v := .tuple #[rowV (a + 1) b c d t, .int .i64 0]) (by simp [results, Tryd.results14, go_sem, rowV, *]) rfl ⟨by rw [hv.out.1, hv.out.2], by (repeat' (first | with_reducible exact Below.refl _ _ | with_reducible assumption | with_reducible apply Below.setCell | with_reducible apply Below.alloc | with_reducible apply Below.drew | with_reducible apply below_drewN | with_reducible exact Nat.le_refl _ | (simp; done) | (simp; omega) | omega | exact Nat.le_refl _)); exact belT (by (repeat' (first | with_reducible exact Below.refl _ _ | with_reducible assumption | with_reducible apply Below.setCell | with_reducible apply Below.alloc | with_reducible apply Below.drew | with_reducible apply below_drewN | with_reducible exact Nat.le_refl _ | (simp; done) | (simp; omega) | omega | exact Nat.le_refl _))) hb1⟩
  · by_cases he : b = 32
    · have hv := Lib.hid (with_no (op := 1) (show withOk a b c d t 1 = false by unfold withOk; simp [cntAt, he])); clear hx
      have heb : (b == 32) = true := by simpa using he
      have hge : 32 ≤ b := by omega
      clear he
      go_wp2_with fail
      exact bodyPost_ret (v := .tuple #[rowV 0 0 0 0 0, .int .i64 800]) (by simp [results, Tryd.results14, go_sem, rowV, *]) rfl ⟨by rw [hv.out.1, hv.out.2], by (repeat' (first | with_reducible exact Below.refl _ _ | with_reducible assumption | with_reducible apply Below.setCell | with_reducible apply Below.alloc | with_reducible apply Below.drew | with_reducible apply below_drewN | with_reducible exact Nat.le_refl _ | (simp; done) | (simp; omega) | omega | exact Nat.le_refl _)); exact belT (by (repeat' (first | with_reducible exact Below.refl _ _ | with_reducible assumption | with_reducible apply Below.setCell | with_reducible apply Below.alloc | with_reducible apply Below.drew | with_reducible apply below_drewN | with_reducible exact Nat.le_refl _ | (simp; done) | (simp; omega) | omega | exact Nat.le_refl _))) hb1⟩
    · have hv : Hid (withV a b c d t 1 = rowV a (b + 1) c d t ∧ withE a b c d t 1 = 0) := Lib.hid (by
        have hok : withOk a b c d t 1 = true := by unfold withOk; rw [hx]; simp [cntAt, he]
        unfold withV withE; rw [hok]; simp [plus])
      have heb : (b == 32) = false := by simpa using he
      have hlt : b < 32 := by omega
      clear hx
      go_wp2_with fail
      exact bodyPost_ret (v := .tuple #[rowV a (b + 1) c d t, .int .i64 0]) (by simp [results, Tryd.results14, go_sem, rowV, *]) rfl ⟨by rw [hv.out.1, hv.out.2], by (repeat' (first | with_reducible exact Below.refl _ _ | with_reducible assumption | with_reducible apply Below.setCell | with_reducible apply Below.alloc | with_reducible apply Below.drew | with_reducible apply below_drewN | with_reducible exact Nat.le_refl _ | (simp; done) | (simp; omega) | omega | exact Nat.le_refl _)); exact belT (by (repeat' (first | with_reducible exact Below.refl _ _ | with_reducible assumption | with_reducible apply Below.setCell | with_reducible apply Below.alloc | with_reducible apply Below.drew | with_reducible apply below_drewN | with_reducible exact Nat.le_refl _ | (simp; done) | (simp; omega) | omega | exact Nat.le_refl _))) hb1⟩
  · by_cases he : c = 32
    · have hv := Lib.hid (with_no (op := 2) (show withOk a b c d t 2 = false by unfold withOk; simp [cntAt, he])); clear hx
      have heb : (c == 32) = true := by simpa using he
      have hge : 32 ≤ c := by omega
      clear he
      go_wp2_with fail
      exact bodyPost_ret (v := .tuple #[rowV 0 0 0 0 0, .int .i64 800]) (by simp [results, Tryd.results14, go_sem, rowV, *]) rfl ⟨by rw [hv.out.1, hv.out.2], by (repeat' (first | with_reducible exact Below.refl _ _ | with_reducible assumption | with_reducible apply Below.setCell | with_reducible apply Below.alloc | with_reducible apply Below.drew | with_reducible apply below_drewN | with_reducible exact Nat.le_refl _ | (simp; done) | (simp; omega) | omega | exact Nat.le_refl _)); exact belT (by (repeat' (first | with_reducible exact Below.refl _ _ | with_reducible assumption | with_reducible apply Below.setCell | with_reducible apply Below.alloc | with_reducible apply Below.drew | with_reducible apply below_drewN | with_reducible exact Nat.le_refl _ | (simp; done) | (simp; omega) | omega | exact Nat.le_refl _))) hb1⟩
    · have hv : Hid (withV a b c d t 2 = rowV a b (c + 1) d t ∧ withE a b c d t 2 = 0) := Lib.hid (by
        have hok : withOk a b c d t 2 = true := by unfold withOk; rw [hx]; simp [cntAt, he]
        unfold withV withE; rw [hok]; simp [plus])
      have heb : (c == 32) = false := by simpa using he
      have hlt : c < 32 := by omega
      clear hx
      go_wp2_with fail
      exact bodyPost_ret (v := .tuple #[rowV a b (c + 1) d t, .int .i64 0]) (by simp [results, Tryd.results14, go_sem, rowV, *]) rfl ⟨by rw [hv.out.1, hv.out.2], by (repeat' (first | with_reducible exact Below.refl _ _ | with_reducible assumption | with_reducible apply Below.setCell | with_reducible apply Below.alloc | with_reducible apply Below.drew | with_reducible apply below_drewN | with_reducible exact Nat.le_refl _ | (simp; done) | (simp; omega) | omega | exact Nat.le_refl _)); exact belT (by (repeat' (first | with_reducible exact Below.refl _ _ | with_reducible assumption | with_reducible apply Below.setCell | with_reducible apply Below.alloc | with_reducible apply Below.drew | with_reducible apply below_drewN | with_reducible exact Nat.le_refl _ | (simp; done) | (simp; omega) | omega | exact Nat.le_refl _))) hb1⟩
  · by_cases he : d = 32
    · have hv := Lib.hid (with_no (op := 3) (show withOk a b c d t 3 = false by unfold withOk; simp [cntAt, he])); clear hx
      have heb : (d == 32) = true := by simpa using he
      have hge : 32 ≤ d := by omega
      clear he
      go_wp2_with fail
      exact bodyPost_ret (v := .tuple #[rowV 0 0 0 0 0, .int .i64 800]) (by simp [results, Tryd.results14, go_sem, rowV, *]) rfl ⟨by rw [hv.out.1, hv.out.2], by (repeat' (first | with_reducible exact Below.refl _ _ | with_reducible assumption | with_reducible apply Below.setCell | with_reducible apply Below.alloc | with_reducible apply Below.drew | with_reducible apply below_drewN | with_reducible exact Nat.le_refl _ | (simp; done) | (simp; omega) | omega | exact Nat.le_refl _)); exact belT (by (repeat' (first | with_reducible exact Below.refl _ _ | with_reducible assumption | with_reducible apply Below.setCell | with_reducible apply Below.alloc | with_reducible apply Below.drew | with_reducible apply below_drewN | with_reducible exact Nat.le_refl _ | (simp; done) | (simp; omega) | omega | exact Nat.le_refl _))) hb1⟩
    · have hv : Hid (withV a b c d t 3 = rowV a b c (d + 1) t ∧ withE a b c d t 3 = 0) := Lib.hid (by
        have hok : withOk a b c d t 3 = true := by unfold withOk; rw [hx]; simp [cntAt, he]
        unfold withV withE; rw [hok]; simp [plus])
      have heb : (d == 32) = false := by simpa using he
      have hlt : d < 32 := by omega
      clear hx
      go_wp2_with fail
      exact bodyPost_ret (v := .tuple #[rowV a b c (d + 1) t, .int .i64 0]) (by simp [results, Tryd.results14, go_sem, rowV, *]) rfl ⟨by rw [hv.out.1, hv.out.2], by (repeat' (first | with_reducible exact Below.refl _ _ | with_reducible assumption | with_reducible apply Below.setCell | with_reducible apply Below.alloc | with_reducible apply Below.drew | with_reducible apply below_drewN | with_reducible exact Nat.le_refl _ | (simp; done) | (simp; omega) | omega | exact Nat.le_refl _)); exact belT (by (repeat' (first | with_reducible exact Below.refl _ _ | with_reducible assumption | with_reducible apply Below.setCell | with_reducible apply Below.alloc | with_reducible apply Below.drew | with_reducible apply below_drewN | with_reducible exact Nat.le_refl _ | (simp; done) | (simp; omega) | omega | exact Nat.le_refl _))) hb1⟩
end Go.Proofs.YtlbopoidjnaokaaDoor
