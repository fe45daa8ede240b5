/-
  NARROWER THAN 'FOR EVERY INPUT', by the rows' own cells (each row's printed sentence says how): Tidies: laid · TidyTexts: laid · TidyParts: laid · TidyDeep: laid.
  DERIVED. THE GIVEN ROWS OF THIS SEAT. 4 by the template 'for every input the law returns true; each argument reads behind the call as it read before'; 0 by the template 'total and deterministic' (their statements: YthpcbgljbpmafaaGreatDoorTotals.lean).
  GIVEN WITH THE SEED: the statements are not yours to turn. If you find one false, say at which input.
  Laid BY PROGRAM, IN A SANDBOX (cutbox-rows.mjs): the forced cells as the released guide's own fill.sh prints them over the translation 36a59bf1debcf3f1… (all of the seat's roots in one cut). By AI agents, Wed Nov 11 2026. No macro, syntax, notation, axiom, sorry.
-/
import Derived.Test.YthpcbgljbpmafaaGreatDoorChecked
import GoSem.Claim
import GoSem.ClaimJoined
import GoSem.ClaimMapViews
import Derived.JoinedTies
import Derived.KernelRfl
namespace Go.Proofs.YthpcbgljbpmafaaGreatDoor
/- THE CELL 'sum', in the pinned program and in every row, IS THE sha256 OF THE DUMP (.gsa) THAT YthpcbgljbpmafaaGreatDoorProg.lean LOADS. Nothing in Lean hashes anything: it is a label: what it is worth is what the hold of that sum in a sandbox is worth. -/
noncomputable def Tryz.pinned : Pinned := { name := "ythpcbgljbpmafaagreatdoor", sum := "36a59bf1debcf3f1c38ec1e49cdb791b9edcc90ce4a00b7c4ecf8bb829c11a0b", checked := Tryz.checked }
namespace Rows
def none {H : Type} : Left H := { results := [], args := [] }

/- WHAT THE LISTED PACKAGE-LEVEL VARIABLES READ AS WHEN THE CALL BEGINS. Each datum BY PROGRAM (the guide's laid-datum.mjs) off the statement by which the dump's own 'gosem.cut.vars' lays the variable. In a bare row this is a premise. The card (YthpcbgljbpmafaaGreatDoorCards.lean) ties it to the program's text. -/
def laid_errors_errorType {H : Type} : DataW H := .iface "internal/reflectlite.rtype" (.agg [.ptr (.lit (.string [101, 114, 114, 111, 114]))])

/-- 'trammellaw25.Tidies': WHATEVER THE INPUT: true; the input reads as it did. -/
def tidiesSpec : ChangeSpec := { name := "tidies", fn := fun _ => fun
  | [d] => { results := [.lit (.bool true)], args := [d] }
  | _ => none }
def tidiesRow : OpenClaim := { program := "ythpcbgljbpmafaagreatdoor", sum := "36a59bf1debcf3f1c38ec1e49cdb791b9edcc90ce4a00b7c4ecf8bb829c11a0b", func := "trammel/trammellaw25.Tidies", spec := "tidies", inPlace := ["internal/reflectlite.ValueOf", "(internal/reflectlite.Value).Type", "(internal/reflectlite.Value).IsNil", "internal/reflectlite.TypeOf", "(internal/reflectlite.Value).Elem", "(internal/reflectlite.Value).Set"], unfollowed := true, recurses := true, named := ["errors.errorType"], apart := false, laid := [("errors.errorType", laid_errors_errorType)] }
def TidiesSaid : Prop := tidiesRow.holds Tryz.pinned (OpenSpec.ofChange tidiesSpec)

/-- ITS FALSE NEIGHBOUR: 'it returns false'. Refute it at one input. -/
def tidiesWrong : ChangeSpec := { name := "tidies", fn := fun _ => fun
  | [d] => { results := [.lit (.bool false)], args := [d] }
  | _ => none }
def TidiesWrongFalsely : Prop := tidiesRow.holds Tryz.pinned (OpenSpec.ofChange tidiesWrong)

/-- 'trammellaw25.TidyTexts': WHATEVER THE INPUT: true; the input reads as it did. -/
def tidyTextsSpec : ChangeSpec := { name := "tidyTexts", fn := fun _ => fun
  | [d] => { results := [.lit (.bool true)], args := [d] }
  | _ => none }
def tidyTextsRow : OpenClaim := { program := "ythpcbgljbpmafaagreatdoor", sum := "36a59bf1debcf3f1c38ec1e49cdb791b9edcc90ce4a00b7c4ecf8bb829c11a0b", func := "trammel/trammellaw25.TidyTexts", spec := "tidyTexts", inPlace := ["internal/reflectlite.ValueOf", "(internal/reflectlite.Value).Type", "(internal/reflectlite.Value).IsNil", "internal/reflectlite.TypeOf", "(internal/reflectlite.Value).Elem", "(internal/reflectlite.Value).Set"], unfollowed := true, recurses := true, named := ["errors.errorType"], apart := false, laid := [("errors.errorType", laid_errors_errorType)] }
def TidyTextsSaid : Prop := tidyTextsRow.holds Tryz.pinned (OpenSpec.ofChange tidyTextsSpec)

/-- ITS FALSE NEIGHBOUR: 'it returns false'. Refute it at one input. -/
def tidyTextsWrong : ChangeSpec := { name := "tidyTexts", fn := fun _ => fun
  | [d] => { results := [.lit (.bool false)], args := [d] }
  | _ => none }
def TidyTextsWrongFalsely : Prop := tidyTextsRow.holds Tryz.pinned (OpenSpec.ofChange tidyTextsWrong)

/-- 'trammellaw25.TidyParts': WHATEVER THE INPUT: true; the input reads as it did. -/
def tidyPartsSpec : ChangeSpec := { name := "tidyParts", fn := fun _ => fun
  | [d1, d2] => { results := [.lit (.bool true)], args := [d1, d2] }
  | _ => none }
def tidyPartsRow : OpenClaim := { program := "ythpcbgljbpmafaagreatdoor", sum := "36a59bf1debcf3f1c38ec1e49cdb791b9edcc90ce4a00b7c4ecf8bb829c11a0b", func := "trammel/trammellaw25.TidyParts", spec := "tidyParts", inPlace := ["internal/reflectlite.ValueOf", "(internal/reflectlite.Value).Type", "(internal/reflectlite.Value).IsNil", "internal/reflectlite.TypeOf", "(internal/reflectlite.Value).Elem", "(internal/reflectlite.Value).Set"], unfollowed := true, recurses := true, named := ["errors.errorType"], apart := false, laid := [("errors.errorType", laid_errors_errorType)] }
def TidyPartsSaid : Prop := tidyPartsRow.holds Tryz.pinned (OpenSpec.ofChange tidyPartsSpec)

/-- ITS FALSE NEIGHBOUR: 'it returns false'. Refute it at one input. -/
def tidyPartsWrong : ChangeSpec := { name := "tidyParts", fn := fun _ => fun
  | [d1, d2] => { results := [.lit (.bool false)], args := [d1, d2] }
  | _ => none }
def TidyPartsWrongFalsely : Prop := tidyPartsRow.holds Tryz.pinned (OpenSpec.ofChange tidyPartsWrong)

/-- 'trammellaw25.TidyDeep': WHATEVER THE INPUT: true; the input reads as it did. -/
def tidyDeepSpec : ChangeSpec := { name := "tidyDeep", fn := fun _ => fun
  | [d] => { results := [.lit (.bool true)], args := [d] }
  | _ => none }
def tidyDeepRow : OpenClaim := { program := "ythpcbgljbpmafaagreatdoor", sum := "36a59bf1debcf3f1c38ec1e49cdb791b9edcc90ce4a00b7c4ecf8bb829c11a0b", func := "trammel/trammellaw25.TidyDeep", spec := "tidyDeep", inPlace := ["internal/reflectlite.ValueOf", "(internal/reflectlite.Value).Type", "(internal/reflectlite.Value).IsNil", "internal/reflectlite.TypeOf", "(internal/reflectlite.Value).Elem", "(internal/reflectlite.Value).Set"], unfollowed := true, recurses := true, named := ["errors.errorType"], apart := false, laid := [("errors.errorType", laid_errors_errorType)] }
def TidyDeepSaid : Prop := tidyDeepRow.holds Tryz.pinned (OpenSpec.ofChange tidyDeepSpec)

/-- ITS FALSE NEIGHBOUR: 'it returns false'. Refute it at one input. -/
def tidyDeepWrong : ChangeSpec := { name := "tidyDeep", fn := fun _ => fun
  | [d] => { results := [.lit (.bool false)], args := [d] }
  | _ => none }
def TidyDeepWrongFalsely : Prop := tidyDeepRow.holds Tryz.pinned (OpenSpec.ofChange tidyDeepWrong)

/- THE SECOND FORM. 'bulk': how many values and letters a reading holds, each counted each time it is reached (what is shared counts as often as it is met; a slice's spare places count too). A statement '..UptoSaid' is the law's where the arguments, and the package variables that the reading takes, are together of bulk at most 1048576: NARROWER than '..Said'. Prove '..Said' where nothing that the law and all that it calls make is longer than what came in: it says more and counts as full. Else prove '..UptoSaid'. A law counts once. -/
mutual
def uptoBulk {H : Type} : DataW H → Nat
  | .lit (.string bytes) => bytes.length + 1
  | .lit _ => 1
  | .nil => 1
  | .ptr d => uptoBulk d + 1
  | .slice elems spare => uptoBulkAll elems + uptoBulkAll spare + 1
  | .agg parts => uptoBulkAll parts + 1
  | .iface _ d => uptoBulk d + 1
  | .map entries => uptoBulkEntries entries + 1
  | .held _ => 1
def uptoBulkAll {H : Type} : List (DataW H) → Nat
  | [] => 0
  | d :: r => uptoBulk d + uptoBulkAll r
def uptoBulkEntries {H : Type} : List (Lit × DataW H) → Nat
  | [] => 0
  | x :: r => uptoBulkEntry x + uptoBulkEntries r
def uptoBulkEntry {H : Type} : Lit × DataW H → Nat
  | (.string bytes, d) => bytes.length + uptoBulk d + 1
  | (_, d) => uptoBulk d + 1
 end
def uptoSmall : (H : Type) → List (DataW H) → Bool := fun _ ds => decide (uptoBulkAll ds ≤ 1048576)
def OpenSpec.upto (s : _root_.Go.ChangeSpec) : _root_.Go.OpenSpec := { _root_.Go.OpenSpec.ofChange s with cond := some uptoSmall }

/-- 'trammellaw25.Tidies', WHERE WHAT IT READS IS OF BULK AT MOST 1048576: true; the input reads as it did. -/
def tidiesUptoRow : OpenClaim := { program := "ythpcbgljbpmafaagreatdoor", sum := "36a59bf1debcf3f1c38ec1e49cdb791b9edcc90ce4a00b7c4ecf8bb829c11a0b", func := "trammel/trammellaw25.Tidies", spec := "tidies", inPlace := ["internal/reflectlite.ValueOf", "(internal/reflectlite.Value).Type", "(internal/reflectlite.Value).IsNil", "internal/reflectlite.TypeOf", "(internal/reflectlite.Value).Elem", "(internal/reflectlite.Value).Set"], unfollowed := true, recurses := true, named := ["errors.errorType"], apart := false, laid := [("errors.errorType", laid_errors_errorType)], narrowed := true }
def TidiesUptoSaid : Prop := tidiesUptoRow.holds Tryz.pinned (OpenSpec.upto tidiesSpec)

/-- 'trammellaw25.TidyTexts', WHERE WHAT IT READS IS OF BULK AT MOST 1048576: true; the input reads as it did. -/
def tidyTextsUptoRow : OpenClaim := { program := "ythpcbgljbpmafaagreatdoor", sum := "36a59bf1debcf3f1c38ec1e49cdb791b9edcc90ce4a00b7c4ecf8bb829c11a0b", func := "trammel/trammellaw25.TidyTexts", spec := "tidyTexts", inPlace := ["internal/reflectlite.ValueOf", "(internal/reflectlite.Value).Type", "(internal/reflectlite.Value).IsNil", "internal/reflectlite.TypeOf", "(internal/reflectlite.Value).Elem", "(internal/reflectlite.Value).Set"], unfollowed := true, recurses := true, named := ["errors.errorType"], apart := false, laid := [("errors.errorType", laid_errors_errorType)], narrowed := true }
def TidyTextsUptoSaid : Prop := tidyTextsUptoRow.holds Tryz.pinned (OpenSpec.upto tidyTextsSpec)

/-- 'trammellaw25.TidyParts', WHERE WHAT IT READS IS OF BULK AT MOST 1048576: true; the input reads as it did. -/
def tidyPartsUptoRow : OpenClaim := { program := "ythpcbgljbpmafaagreatdoor", sum := "36a59bf1debcf3f1c38ec1e49cdb791b9edcc90ce4a00b7c4ecf8bb829c11a0b", func := "trammel/trammellaw25.TidyParts", spec := "tidyParts", inPlace := ["internal/reflectlite.ValueOf", "(internal/reflectlite.Value).Type", "(internal/reflectlite.Value).IsNil", "internal/reflectlite.TypeOf", "(internal/reflectlite.Value).Elem", "(internal/reflectlite.Value).Set"], unfollowed := true, recurses := true, named := ["errors.errorType"], apart := false, laid := [("errors.errorType", laid_errors_errorType)], narrowed := true }
def TidyPartsUptoSaid : Prop := tidyPartsUptoRow.holds Tryz.pinned (OpenSpec.upto tidyPartsSpec)

/-- 'trammellaw25.TidyDeep', WHERE WHAT IT READS IS OF BULK AT MOST 1048576: true; the input reads as it did. -/
def tidyDeepUptoRow : OpenClaim := { program := "ythpcbgljbpmafaagreatdoor", sum := "36a59bf1debcf3f1c38ec1e49cdb791b9edcc90ce4a00b7c4ecf8bb829c11a0b", func := "trammel/trammellaw25.TidyDeep", spec := "tidyDeep", inPlace := ["internal/reflectlite.ValueOf", "(internal/reflectlite.Value).Type", "(internal/reflectlite.Value).IsNil", "internal/reflectlite.TypeOf", "(internal/reflectlite.Value).Elem", "(internal/reflectlite.Value).Set"], unfollowed := true, recurses := true, named := ["errors.errorType"], apart := false, laid := [("errors.errorType", laid_errors_errorType)], narrowed := true }
def TidyDeepUptoSaid : Prop := tidyDeepUptoRow.holds Tryz.pinned (OpenSpec.upto tidyDeepSpec)

end Rows
end Go.Proofs.YthpcbgljbpmafaaGreatDoor
