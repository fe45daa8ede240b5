/- Target nodes as plain data; contracts of the small functions of layer 19. -/
import Derived.Test.YtnjalpcmjkahkaaChecked
import Derived.WalkKit
import Derived.ProofKit
import Derived.Below
import Derived.Lib.Hide
import Derived.IntWalk
import Derived.Outline
import Derived.BigQuiet
import Derived.RegionTactic
import Derived.BigRegion
import Derived.Deep.QuietTactic
namespace Go.Proofs.Ytnjalpcmjkahkaa
open Go.RowKit
set_option linter.unusedVariables false
set_option linter.unusedSimpArgs false

structure Tg where
  k : Int
  a : Int
  b : Int
  c : Int
  n : Int
  x : Int
  y : Int
  z : Int
  w : Int
  deriving DecidableEq

def Tg.val (t : Tg) : Value := .agg #[.int .i64 t.k, .int .i64 t.a, .int .i64 t.b, .int .i64 t.c, .int .i64 t.n, .int .i64 t.x, .int .i64 t.y, .int .i64 t.z, .int .i64 t.w]

theorem bcell {W w1 : World} (hb : Below W.heap.size W w1) : (∀ b o, b < W.heap.size → w1.cell? ⟨b, o, none⟩ = W.cell? ⟨b, o, none⟩) ∧ (∀ b o, b < W.heap.size → w1.frozen? ⟨b, o, none⟩ = W.frozen? ⟨b, o, none⟩) :=
  ⟨fun b o h => hb.cell (p := ⟨b, o, none⟩) h, fun b o h => hb.frozen (p := ⟨b, o, none⟩) h⟩
theorem belT {a b c : World} (h : Below a.heap.size a b) (k : Below b.heap.size b c) : Below a.heap.size a c := h.trans (k.mono h.size)
theorem ret_i {k : IntKind} {a b : Int} (h : a = b) : Ending.returned (.int k a) = .returned (.int k b) := by rw [h]
theorem ret_b {a b : Bool} (h : a = b) : Ending.returned (.bool a) = .returned (.bool b) := by rw [h]
theorem ret_ii {k : IntKind} {a b c d : Int} (h : a = b) (h' : c = d) : Ending.returned (.tuple #[.int k a, .int k c]) = .returned (.tuple #[.int k b, .int k d]) := by rw [h, h']

def kidsT (k : Int) : Int := if k = 3 ∨ k = 4 ∨ k = 9 then 1 else if k = 5 ∨ k = 6 ∨ k = 8 ∨ k = 10 ∨ k = 11 then 2 else if k = 7 ∨ k = 12 then 3 else if k = 0 ∨ k = 1 ∨ k = 2 then 0 else -1

theorem tkids_any (k : Int) (w : World) :
    Calls Try.prog 40 #[.int .i64 k] w fun e w' => e = .returned (.int .i64 (kidsT k)) ∧ w = w' := by
  go_enter Try.func40, Try.ntmps40
  go_wp2_with fail
  all_goals go_ret
  all_goals exact ⟨ret_i (by unfold kidsT; (try simp only [beq_iff_eq, beq_eq_false_iff_ne, bne_iff_ne, decide_eq_true_eq, decide_eq_false_iff_not] at *); (repeat' split) <;> omega), rfl⟩

def nameT (x : Int) : Bool := decide (0 ≤ x ∧ x < 8192)
theorem name_any (x : Int) (w : World) :
    Calls Try.prog 41 #[.int .i64 x] w fun e w' => e = .returned (.bool (nameT x)) ∧ w = w' := by
  go_enter Try.func41, Try.ntmps41
  go_wp2_with fail
  all_goals go_ret
  all_goals exact ⟨ret_b (by unfold nameT; (try simp only [beq_iff_eq, beq_eq_false_iff_ne, bne_iff_ne, ne_eq] at *); (first | rfl | exact decide_eq_decide.2 (by omega) | exact (decide_eq_false (by omega)).symm | exact (decide_eq_true (by omega)).symm | (rw [Bool.eq_iff_iff]; simp; omega))), rfl⟩

def numT (k n : Int) : Bool := decide ((k = 1 → 0 ≤ n ∧ n ≤ 1073741823) ∧ (k = 2 → n = 0 ∨ n = 1) ∧ (k = 8 → 0 ≤ n ∧ n ≤ 5) ∧ (k = 10 ∨ k = 12 → 0 ≤ n ∧ n < 4))
def plainT (k a b c n x y z w : Int) : Bool :=
  if k = 0 ∨ k = 1 ∨ k = 2 then decide (a = 0 ∧ b = 0 ∧ c = 0 ∧ x = 0 ∧ y = 0 ∧ z = 0 ∧ w = 0)
  else if k = 3 then decide (b = 0 ∧ c = 0 ∧ n = 0 ∧ y = 0 ∧ z = 0 ∧ w = 0)
  else if k = 4 then decide (b = 0 ∧ c = 0 ∧ n = 0 ∧ z = 0 ∧ w = 0)
  else if k = 5 then decide (c = 0 ∧ n = 0 ∧ x = 0 ∧ y = 0 ∧ z = 0 ∧ w = 0)
  else if k = 6 ∨ k = 11 then decide (c = 0 ∧ n = 0 ∧ y = 0 ∧ z = 0 ∧ w = 0)
  else if k = 7 then decide (n = 0 ∧ x = 0 ∧ y = 0 ∧ z = 0 ∧ w = 0)
  else if k = 8 ∨ k = 10 then decide (c = 0 ∧ x = 0 ∧ y = 0 ∧ z = 0 ∧ w = 0)
  else if k = 9 then decide (b = 0 ∧ c = 0 ∧ n = 0 ∧ x = 0 ∧ y = 0 ∧ z = 0 ∧ w = 0)
  else decide (k = 12)

set_option maxHeartbeats 400000 in
theorem isNum_any (k a b c n x y z ww : Int) (w : World) :
    Calls Try.prog 25 #[.agg #[.int .i64 k, .int .i64 a, .int .i64 b, .int .i64 c, .int .i64 n, .int .i64 x, .int .i64 y, .int .i64 z, .int .i64 ww]] w fun e w' => e = .returned (.bool (numT k n)) ∧ Below w.heap.size w w' := by
  go_enter Try.func25, Try.ntmps25
  go_wp2_with fail
  all_goals go_ret
  all_goals exact ⟨ret_b (by unfold numT; (try simp only [beq_iff_eq, beq_eq_false_iff_ne, bne_iff_ne, ne_eq] at *); (first | rfl | exact decide_eq_decide.2 (by omega) | exact (decide_eq_false (by omega)).symm | exact (decide_eq_true (by omega)).symm | (rw [Bool.eq_iff_iff]; simp; omega))), by (repeat' (first | with_reducible exact Below.refl _ _ | with_reducible assumption | with_reducible apply Below.setCell | with_reducible apply Below.alloc | with_reducible apply Below.drew | with_reducible apply below_drewN | with_reducible exact Nat.le_refl _ | (simp; done) | (simp; omega) | omega | exact Nat.le_refl _))⟩

end Go.Proofs.Ytnjalpcmjkahkaa
