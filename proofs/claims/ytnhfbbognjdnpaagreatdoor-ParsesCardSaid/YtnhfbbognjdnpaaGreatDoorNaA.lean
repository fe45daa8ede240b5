/- Nodes: plain facts, and contracts of tree's and the reference's functions on one node (numbers, kinds). -/
import Derived.Test.YtnhfbbognjdnpaaGreatDoorLxH
import Derived.Laws.CopyRow
import Derived.Deep.WholeRow
import Derived.Deep.DeepCutAuto
/- Nodes: plain facts, and contracts of tree's and the reference's functions on one node (numbers, kinds). -/
namespace Go.Proofs.YtnhfbbognjdnpaaGreatDoor
open Go.RowKit
set_option linter.unusedVariables false
set_option linter.unusedSimpArgs false

/-- may a node's number be? -/
def numB (kd nm : Int) : Bool := if kd = 1 then decide (0 ≤ nm ∧ nm ≤ 1073741823) else if kd = 2 then decide (nm = 0 ∨ nm = 1) else if kd = 8 then decide (0 ≤ nm ∧ nm ≤ 5) else true
/-- how many children has a kind? -/
def kidsI (kd : Int) : Int := if kd = 0 ∨ kd = 1 ∨ kd = 2 then 0 else if kd = 3 ∨ kd = 9 then 1 else if kd = 4 ∨ kd = 5 ∨ kd = 6 ∨ kd = 8 then 2 else if kd = 7 ∨ kd = 10 then 3 else -1
def baseB (k : Int) : Bool := decide (k = 0 ∨ k = 1)
theorem ret_bb {a b : Bool} (h : a = b) : Ending.returned (.bool a) = .returned (.bool b) := by rw [h]
theorem ret_ii0 {a b : Int} (h : a = b) : Ending.returned (.int .i64 a) = .returned (.int .i64 b) := by rw [h]

end Go.Proofs.YtnhfbbognjdnpaaGreatDoor

/- Children of a node: parts.Of and tree.children. -/
namespace Go.Proofs.YtnhfbbognjdnpaaGreatDoor
open Go.RowKit
set_option linter.unusedVariables false
set_option linter.unusedSimpArgs false

theorem lit_cells (W : World) (g : Nat) (l : List Int) (T : TypeId) (hg : g = W.heap.size) {arr : Array Value} (ha : arr = (l.map (Value.int .i64)).toArray) : ∀ i, i < l.length → (W.alloc (.cells arr T)).cell? ⟨g, i, none⟩ = some (.int .i64 (l.getD i 0)) := by
  intro i hi
  subst hg ha
  rw [World.cell?_alloc_new]
  simp [hi]
def kidV (l : List Int) : Value := .agg #[.int .i64 l.length, .int .i64 (l.getD 0 0), .int .i64 (l.getD 1 0), .int .i64 (l.getD 2 0)]

theorem kidV_eq (l : List Int) : kidV l = .agg #[.int .i64 l.length, .int .i64 (l.getD 0 0), .int .i64 (l.getD 1 0), .int .i64 (l.getD 2 0)] := rfl

def kidsL (k a b c : Int) : List Int := if k = 3 ∨ k = 9 then [a] else if k = 4 ∨ k = 5 ∨ k = 6 ∨ k = 8 then [a, b] else if k = 7 ∨ k = 10 then [a, b, c] else []

end Go.Proofs.YtnhfbbognjdnpaaGreatDoor

/- A node's fields: isPlain. -/
namespace Go.Proofs.YtnhfbbognjdnpaaGreatDoor
open Go.RowKit
set_option linter.unusedVariables false
set_option linter.unusedSimpArgs false

/-- are all fields zero that a kind has not? -/
def plainB (kd a b c nm : Int) (s1 s2 s3 s4 : ByteArray) : Bool :=
  if kd = 0 then decide (a = 0 ∧ b = 0 ∧ c = 0 ∧ s2.toList = [] ∧ s3.toList = [] ∧ s4.toList = [])
  else if kd = 1 ∨ kd = 2 then decide (a = 0 ∧ b = 0 ∧ c = 0 ∧ s1.toList = [] ∧ s2.toList = [] ∧ s3.toList = [] ∧ s4.toList = [])
  else if kd = 3 then decide (b = 0 ∧ c = 0 ∧ nm = 0 ∧ s1.toList = [] ∧ s3.toList = [] ∧ s4.toList = [])
  else if kd = 4 then decide (c = 0 ∧ nm = 0 ∧ s1.toList = [] ∧ s2.toList = [] ∧ s3.toList = [] ∧ s4.toList = [])
  else if kd = 5 then decide (c = 0 ∧ nm = 0 ∧ s1.toList = [] ∧ s3.toList = [] ∧ s4.toList = [])
  else if kd = 6 then decide (c = 0 ∧ nm = 0 ∧ s1.toList = [] ∧ s4.toList = [])
  else if kd = 7 then decide (nm = 0 ∧ s1.toList = [] ∧ s2.toList = [] ∧ s3.toList = [] ∧ s4.toList = [])
  else if kd = 8 then decide (c = 0 ∧ s1.toList = [] ∧ s2.toList = [] ∧ s3.toList = [] ∧ s4.toList = [])
  else if kd = 9 then decide (b = 0 ∧ c = 0 ∧ s2.toList = [] ∧ s3.toList = [] ∧ s4.toList = [])
  else decide (kd = 10)

end Go.Proofs.YtnhfbbognjdnpaaGreatDoor
