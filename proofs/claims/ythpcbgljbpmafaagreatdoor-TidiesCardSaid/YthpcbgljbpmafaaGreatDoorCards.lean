/-
  DERIVED. GIVEN WITH THE SEED: THE CARDS: each row of YthpcbgljbpmafaaGreatDoorRows.lean that lists a variable, with what it lists TIED to the program's text (the seventh form; the later family's looks); each row that meets fmt, with fmt's text TOLD by the authors' own Lean function (tested against real Go, not proved from fmt's source: count such statements apart). THE CARD IS WHAT COUNTS. Prove the row's statement (the work); the ties are given (YthpcbgljbpmafaaGreatDoorTie.lean); close each card by the builder's one call (the guide's Derived/Test/ToyasCard.lean, 'card_holds'). Laid BY PROGRAM, IN A SANDBOX (cutbox-door.mjs). By AI agents, Wed Nov 11 2026. No macro, syntax, notation, axiom, sorry.
-/
import Derived.Test.YthpcbgljbpmafaaGreatDoorRows
import GoSem.ClaimSeven
namespace Go.Proofs.YthpcbgljbpmafaaGreatDoor
namespace Rows

/-- THE TIED CARD OF 'trammellaw25.Tidies'. -/
def tidiesCard : Claim7 := { stood := { row := tidiesRow, standIns := [], harness := (true, "2b7b138930715727014f5826f42608602d0644d914d00ff1242d2489b7761f78"), looks := true }, kinds := [], alts := [], laidByText := true, laidKinds := [.handle], laidTests := true, laidLooks := .later }
def TidiesCardSaid : Prop := Claim7.holds Tryz.pinned (.plain (OpenSpec.ofChange tidiesSpec)) tidiesCard

/-- THE TIED CARD OF 'trammellaw25.TidyTexts'. -/
def tidyTextsCard : Claim7 := { stood := { row := tidyTextsRow, standIns := [], harness := (true, "2b7b138930715727014f5826f42608602d0644d914d00ff1242d2489b7761f78"), looks := true }, kinds := [], alts := [], laidByText := true, laidKinds := [.handle], laidTests := true, laidLooks := .later }
def TidyTextsCardSaid : Prop := Claim7.holds Tryz.pinned (.plain (OpenSpec.ofChange tidyTextsSpec)) tidyTextsCard

/-- THE TIED CARD OF 'trammellaw25.TidyParts'. -/
def tidyPartsCard : Claim7 := { stood := { row := tidyPartsRow, standIns := [], harness := (true, "2b7b138930715727014f5826f42608602d0644d914d00ff1242d2489b7761f78"), looks := true }, kinds := [], alts := [], laidByText := true, laidKinds := [.handle], laidTests := true, laidLooks := .later }
def TidyPartsCardSaid : Prop := Claim7.holds Tryz.pinned (.plain (OpenSpec.ofChange tidyPartsSpec)) tidyPartsCard

/-- THE TIED CARD OF 'trammellaw25.TidyDeep'. -/
def tidyDeepCard : Claim7 := { stood := { row := tidyDeepRow, standIns := [], harness := (true, "2b7b138930715727014f5826f42608602d0644d914d00ff1242d2489b7761f78"), looks := true }, kinds := [], alts := [], laidByText := true, laidKinds := [.handle], laidTests := true, laidLooks := .later }
def TidyDeepCardSaid : Prop := Claim7.holds Tryz.pinned (.plain (OpenSpec.ofChange tidyDeepSpec)) tidyDeepCard

/-- THE SECOND FORM's CARD OF 'trammellaw25.Tidies'. -/
def tidiesUptoCard : Claim7 := { stood := { row := tidiesUptoRow, standIns := [], harness := (true, "2b7b138930715727014f5826f42608602d0644d914d00ff1242d2489b7761f78"), looks := true }, kinds := [], alts := [], laidByText := true, laidKinds := [.handle], laidTests := true, laidLooks := .later }
def TidiesUptoCardSaid : Prop := Claim7.holds Tryz.pinned (.plain (OpenSpec.upto tidiesSpec)) tidiesUptoCard

/-- THE SECOND FORM's CARD OF 'trammellaw25.TidyTexts'. -/
def tidyTextsUptoCard : Claim7 := { stood := { row := tidyTextsUptoRow, standIns := [], harness := (true, "2b7b138930715727014f5826f42608602d0644d914d00ff1242d2489b7761f78"), looks := true }, kinds := [], alts := [], laidByText := true, laidKinds := [.handle], laidTests := true, laidLooks := .later }
def TidyTextsUptoCardSaid : Prop := Claim7.holds Tryz.pinned (.plain (OpenSpec.upto tidyTextsSpec)) tidyTextsUptoCard

/-- THE SECOND FORM's CARD OF 'trammellaw25.TidyParts'. -/
def tidyPartsUptoCard : Claim7 := { stood := { row := tidyPartsUptoRow, standIns := [], harness := (true, "2b7b138930715727014f5826f42608602d0644d914d00ff1242d2489b7761f78"), looks := true }, kinds := [], alts := [], laidByText := true, laidKinds := [.handle], laidTests := true, laidLooks := .later }
def TidyPartsUptoCardSaid : Prop := Claim7.holds Tryz.pinned (.plain (OpenSpec.upto tidyPartsSpec)) tidyPartsUptoCard

/-- THE SECOND FORM's CARD OF 'trammellaw25.TidyDeep'. -/
def tidyDeepUptoCard : Claim7 := { stood := { row := tidyDeepUptoRow, standIns := [], harness := (true, "2b7b138930715727014f5826f42608602d0644d914d00ff1242d2489b7761f78"), looks := true }, kinds := [], alts := [], laidByText := true, laidKinds := [.handle], laidTests := true, laidLooks := .later }
def TidyDeepUptoCardSaid : Prop := Claim7.holds Tryz.pinned (.plain (OpenSpec.upto tidyDeepSpec)) tidyDeepUptoCard
end Rows
end Go.Proofs.YthpcbgljbpmafaaGreatDoor
