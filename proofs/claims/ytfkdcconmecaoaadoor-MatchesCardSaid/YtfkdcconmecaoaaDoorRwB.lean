/- Rows of effects: With. -/
import Derived.Test.YtfkdcconmecaoaaDoorRwA
namespace Go.Proofs.YtfkdcconmecaoaaDoor
open Go.RowKit
set_option linter.unusedVariables false
set_option linter.unusedSimpArgs false

def rowV (a b c d t : Int) : Value := .agg #[.int .i64 a, .int .i64 b, .int .i64 c, .int .i64 d, .int .i64 t]
def cntAt (a b c d op : Int) : Int := if op = 0 then a else if op = 1 then b else if op = 2 then c else d
def withOk (a b c d t op : Int) : Bool := mayR a b c d t && decide (0 ≤ op ∧ op < 4) && decide (cntAt a b c d op ≠ 32)
def plus (x op k : Int) : Int := if op = k then x + 1 else x
/-- With's answer and its error. -/
def withV (a b c d t op : Int) : Value := if withOk a b c d t op then rowV (plus a op 0) (plus b op 1) (plus c op 2) (plus d op 3) t else rowV 0 0 0 0 0
def withE (a b c d t op : Int) : Int := if withOk a b c d t op then 0 else 800

theorem with_no {a b c d t op : Int} (h : withOk a b c d t op = false) : withV a b c d t op = rowV 0 0 0 0 0 ∧ withE a b c d t op = 800 := by
  unfold withV withE; rw [h]; exact ⟨rfl, rfl⟩

end Go.Proofs.YtfkdcconmecaoaaDoor
