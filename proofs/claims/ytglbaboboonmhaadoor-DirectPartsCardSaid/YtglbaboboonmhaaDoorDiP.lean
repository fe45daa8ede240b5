/- The answer of Direct at a place. -/
import Derived.Test.YtglbaboboonmhaaDoorNaG
import Derived.Test.YtglbaboboonmhaaDoorDiA
namespace Go.Proofs.YtglbaboboonmhaaDoor
set_option linter.unusedVariables false
set_option linter.unusedSimpArgs false

/-- the answer at a place of a row of nodes. -/
def dirP (ts : List Nd) (at_ : Int) : Bool × Int := if hasV ts at_ then (dirV ts at_.toNat, 0) else (false, 1800)
theorem dirP_no {ts : List Nd} {at_ : Int} (h : hasV ts at_ = false) : dirP ts at_ = (false, 1800) := by unfold dirP; rw [h]; rfl
theorem dirP_yes {ts : List Nd} {at_ : Int} (h : hasV ts at_ = true) : dirP ts at_ = (dirV ts at_.toNat, 0) := by unfold dirP; rw [h]; rfl
end Go.Proofs.YtglbaboboonmhaaDoor
