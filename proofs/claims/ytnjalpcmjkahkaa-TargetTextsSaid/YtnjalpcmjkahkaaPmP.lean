/- What comes of a prim. Plain. -/
import Derived.Test.YtnjalpcmjkahkaaChecked
namespace Go.Proofs.Ytnjalpcmjkahkaa
set_option linter.unusedVariables false
set_option linter.unusedSimpArgs false

def numO (n : Int) : Int × Int := if n < -1073741824 ∨ 1073741823 < n then (3, 0) else (0, n)
def truO (b : Bool) : Int × Int := if b then (1, 1) else (1, 0)
/-- what comes of a prim: a kind (0 a number, 1 a truth, 3 a fault) and its number. -/
def prmV (p u v : Int) : Int × Int :=
  if p = 0 then numO (u + v) else if p = 1 then numO (u - v) else if p = 2 then numO (u * v)
  else if p = 3 then (if v = 0 then (3, 1) else numO (u.tdiv v)) else if p = 4 then truO (decide (u = v)) else truO (decide (u < v))
end Go.Proofs.Ytnjalpcmjkahkaa
