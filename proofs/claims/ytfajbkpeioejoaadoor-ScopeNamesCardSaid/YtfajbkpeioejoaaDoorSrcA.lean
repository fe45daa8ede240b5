/- Contracts of package source's small functions: lead, second. Conditions: a byte. -/
import Derived.Test.YtfajbkpeioejoaaDoorChecked
import Derived.WalkKit
import Derived.ProofKit
import Derived.Below
import Derived.Lib.Hide
namespace Go.Proofs.YtfajbkpeioejoaaDoor
open Go.RowKit
set_option linter.unusedVariables false
set_option linter.unusedSimpArgs false

def leadF (b : Int) : Int := if 245 ≤ b then 0 else if 240 ≤ b then 4 else if 224 ≤ b then 3 else if 194 ≤ b then 2 else if b < 128 then 1 else 0

def lowF (b : Int) : Int := if b = 224 then 160 else if b = 240 then 144 else 128
def highF (b : Int) : Int := if b = 237 then 159 else if b = 244 then 143 else 191

theorem ret_i {k : IntKind} {a b : Int} (h : a = b) : Ending.returned (.int k a) = .returned (.int k b) := by rw [h]
theorem ret_ii {k : IntKind} {a b c d : Int} (h : a = b) (h' : c = d) : Ending.returned (.tuple #[.int k a, .int k c]) = .returned (.tuple #[.int k b, .int k d]) := by rw [h, h']

theorem lead_any (b : Int) (w : World) (h0 : 0 ≤ b) (h1 : b ≤ 255) :
    Calls Tryd.prog 60 #[.int .u8 b] w fun e w' => e = .returned (.int .i64 (leadF b)) ∧ w = w' := by
  go_enter Tryd.func60, Tryd.ntmps60
  go_wp2
  all_goals go_ret
  all_goals exact ⟨ret_i (by unfold leadF; (try simp only [beq_iff_eq, beq_eq_false_iff_ne, bne_iff_ne, decide_eq_true_eq, decide_eq_false_iff_not] at *); (repeat' split) <;> omega), rfl⟩

theorem second_any (b : Int) (w : World) (h0 : 0 ≤ b) (h1 : b ≤ 255) :
    Calls Tryd.prog 61 #[.int .u8 b] w fun e w' => e = .returned (.tuple #[.int .u8 (lowF b), .int .u8 (highF b)]) ∧ w = w' := by
  go_enter Tryd.func61, Tryd.ntmps61
  go_wp2
  all_goals go_ret2
  all_goals exact ⟨ret_ii (by unfold lowF; (try simp only [beq_iff_eq, beq_eq_false_iff_ne, bne_iff_ne, decide_eq_true_eq, decide_eq_false_iff_not] at *); (repeat' split) <;> omega) (by unfold highF; (try simp only [beq_iff_eq, beq_eq_false_iff_ne, bne_iff_ne, decide_eq_true_eq, decide_eq_false_iff_not] at *); (repeat' split) <;> omega), rfl⟩
end Go.Proofs.YtfajbkpeioejoaaDoor
