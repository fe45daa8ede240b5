/-
  DERIVED. GIVEN WITH THE SEED: THE CARDS: each row of YtidlljookjicpaaGreatDoorRows.lean that lists a variable, with what it lists TIED to the program's text (the seventh form; the later family's looks); each row that meets fmt, with fmt's text TOLD by the authors' own Lean function (tested against real Go, not proved from fmt's source: count such statements apart). THE CARD IS WHAT COUNTS. Prove the row's statement (the work); the ties are given (YtidlljookjicpaaGreatDoorTie.lean); close each card by the builder's one call (the guide's Derived/Test/ToyasCard.lean, 'card_holds'). Laid BY PROGRAM, IN A SANDBOX (cutbox-door.mjs). By AI agents, Wed Nov 11 2026. No macro, syntax, notation, axiom, sorry.
-/
import Derived.Test.YtidlljookjicpaaGreatDoorRows
import GoSem.ClaimSeven
namespace Go.Proofs.YtidlljookjicpaaGreatDoor
namespace Rows

/-- THE TIED CARD OF 'trammellaw5.Shows'. -/
def showsCard : Claim7 := { stood := { row := showsRow, standIns := [], harness := (true, "09272aeb13989e2a9b58eec0bf29c0a0eff22fef3cd57d0cfa25eb8d1fd50dff"), looks := true }, kinds := [], alts := [], laidByText := true, laidKinds := [.data, .data, .data, .handle], laidTests := true, laidLooks := .later }
def ShowsCardSaid : Prop := Claim7.holds Tryz.pinned (.plain (OpenSpec.ofChange showsSpec)) showsCard

/-- THE TIED CARD OF 'trammellaw5.ShowBack'. -/
def showBackCard : Claim7 := { stood := { row := showBackRow, standIns := [], harness := (true, "09272aeb13989e2a9b58eec0bf29c0a0eff22fef3cd57d0cfa25eb8d1fd50dff"), looks := true }, kinds := [], alts := [], laidByText := true, laidKinds := [.data, .data, .data, .handle], laidTests := true, laidLooks := .later }
def ShowBackCardSaid : Prop := Claim7.holds Tryz.pinned (.plain (OpenSpec.ofChange showBackSpec)) showBackCard

/-- THE TIED CARD OF 'trammellaw5.ShowRead'. -/
def showReadCard : Claim7 := { stood := { row := showReadRow, standIns := [], harness := (true, "09272aeb13989e2a9b58eec0bf29c0a0eff22fef3cd57d0cfa25eb8d1fd50dff"), looks := true }, kinds := [], alts := [], laidByText := true, laidKinds := [.data, .data, .data, .handle], laidTests := true, laidLooks := .later }
def ShowReadCardSaid : Prop := Claim7.holds Tryz.pinned (.plain (OpenSpec.ofChange showReadSpec)) showReadCard

/-- THE TIED CARD OF 'trammellaw5.ShowTexts'. -/
def showTextsCard : Claim7 := { stood := { row := showTextsRow, standIns := [], harness := (true, "09272aeb13989e2a9b58eec0bf29c0a0eff22fef3cd57d0cfa25eb8d1fd50dff"), looks := true }, kinds := [], alts := [], laidByText := true, laidKinds := [.data, .data, .data, .handle], laidTests := true, laidLooks := .later }
def ShowTextsCardSaid : Prop := Claim7.holds Tryz.pinned (.plain (OpenSpec.ofChange showTextsSpec)) showTextsCard

/-- THE TIED CARD OF 'trammellaw5.ShowOps'. -/
def showOpsCard : Claim7 := { stood := { row := showOpsRow, standIns := [], harness := (true, "09272aeb13989e2a9b58eec0bf29c0a0eff22fef3cd57d0cfa25eb8d1fd50dff"), looks := true }, kinds := [], alts := [], laidByText := true, laidKinds := [.data, .data, .data, .handle], laidTests := true, laidLooks := .later }
def ShowOpsCardSaid : Prop := Claim7.holds Tryz.pinned (.plain (OpenSpec.ofChange showOpsSpec)) showOpsCard

/-- THE SECOND FORM's CARD OF 'trammellaw5.Shows'. -/
def showsUptoCard : Claim7 := { stood := { row := showsUptoRow, standIns := [], harness := (true, "09272aeb13989e2a9b58eec0bf29c0a0eff22fef3cd57d0cfa25eb8d1fd50dff"), looks := true }, kinds := [], alts := [], laidByText := true, laidKinds := [.data, .data, .data, .handle], laidTests := true, laidLooks := .later }
def ShowsUptoCardSaid : Prop := Claim7.holds Tryz.pinned (.plain (OpenSpec.upto showsSpec)) showsUptoCard

/-- THE SECOND FORM's CARD OF 'trammellaw5.ShowBack'. -/
def showBackUptoCard : Claim7 := { stood := { row := showBackUptoRow, standIns := [], harness := (true, "09272aeb13989e2a9b58eec0bf29c0a0eff22fef3cd57d0cfa25eb8d1fd50dff"), looks := true }, kinds := [], alts := [], laidByText := true, laidKinds := [.data, .data, .data, .handle], laidTests := true, laidLooks := .later }
def ShowBackUptoCardSaid : Prop := Claim7.holds Tryz.pinned (.plain (OpenSpec.upto showBackSpec)) showBackUptoCard

/-- THE SECOND FORM's CARD OF 'trammellaw5.ShowRead'. -/
def showReadUptoCard : Claim7 := { stood := { row := showReadUptoRow, standIns := [], harness := (true, "09272aeb13989e2a9b58eec0bf29c0a0eff22fef3cd57d0cfa25eb8d1fd50dff"), looks := true }, kinds := [], alts := [], laidByText := true, laidKinds := [.data, .data, .data, .handle], laidTests := true, laidLooks := .later }
def ShowReadUptoCardSaid : Prop := Claim7.holds Tryz.pinned (.plain (OpenSpec.upto showReadSpec)) showReadUptoCard

/-- THE SECOND FORM's CARD OF 'trammellaw5.ShowTexts'. -/
def showTextsUptoCard : Claim7 := { stood := { row := showTextsUptoRow, standIns := [], harness := (true, "09272aeb13989e2a9b58eec0bf29c0a0eff22fef3cd57d0cfa25eb8d1fd50dff"), looks := true }, kinds := [], alts := [], laidByText := true, laidKinds := [.data, .data, .data, .handle], laidTests := true, laidLooks := .later }
def ShowTextsUptoCardSaid : Prop := Claim7.holds Tryz.pinned (.plain (OpenSpec.upto showTextsSpec)) showTextsUptoCard

/-- THE SECOND FORM's CARD OF 'trammellaw5.ShowOps'. -/
def showOpsUptoCard : Claim7 := { stood := { row := showOpsUptoRow, standIns := [], harness := (true, "09272aeb13989e2a9b58eec0bf29c0a0eff22fef3cd57d0cfa25eb8d1fd50dff"), looks := true }, kinds := [], alts := [], laidByText := true, laidKinds := [.data, .data, .data, .handle], laidTests := true, laidLooks := .later }
def ShowOpsUptoCardSaid : Prop := Claim7.holds Tryz.pinned (.plain (OpenSpec.upto showOpsSpec)) showOpsUptoCard
end Rows
end Go.Proofs.YtidlljookjicpaaGreatDoor
