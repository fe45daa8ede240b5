/-
  DERIVED. GIVEN WITH THE SEED: THE CARDS: each row of YtdkpggnnhdoklaaDoorRows.lean that lists a variable, with what it lists TIED to the program's text (the seventh form; the later family's looks); each row that meets fmt, with fmt's text TOLD by the authors' own Lean function (tested against real Go, not proved from fmt's source: count such statements apart). THE CARD IS WHAT COUNTS. Prove the row's statement (the work); the ties are given (YtdkpggnnhdoklaaDoorTie.lean); close each card by the builder's one call (the guide's Derived/Test/ToyasCard.lean, 'card_holds'). Laid BY PROGRAM, IN A SANDBOX (cutbox-door.mjs). By AI agents, Wed Nov 11 2026. No macro, syntax, notation, axiom, sorry.
-/
import Derived.Test.YtdkpggnnhdoklaaDoorRows
import GoSem.ClaimSeven
namespace Go.Proofs.YtdkpggnnhdoklaaDoor
namespace Rows

/-- THE TIED CARD OF 'trammellaw3.Trees'. -/
def treesCard : Claim7 := { stood := { row := treesRow, standIns := [], harness := (true, "c875a363a9dd5672c7f80242b05b6ec389aa521d2ac2e9daa870282f40aa55a1"), looks := true }, kinds := [], alts := [], laidByText := true, laidKinds := [.handle], laidTests := true, laidLooks := .later }
def TreesCardSaid : Prop := Claim7.holds Tryd.pinned (.plain (OpenSpec.ofChange treesSpec)) treesCard

/-- THE TIED CARD OF 'trammellaw3.TreeParts'. -/
def treePartsCard : Claim7 := { stood := { row := treePartsRow, standIns := [], harness := (true, "c875a363a9dd5672c7f80242b05b6ec389aa521d2ac2e9daa870282f40aa55a1"), looks := true }, kinds := [], alts := [], laidByText := true, laidKinds := [.handle], laidTests := true, laidLooks := .later }
def TreePartsCardSaid : Prop := Claim7.holds Tryd.pinned (.plain (OpenSpec.ofChange treePartsSpec)) treePartsCard

/-- THE TIED CARD OF 'trammellaw3.TreeForms'. -/
def treeFormsCard : Claim7 := { stood := { row := treeFormsRow, standIns := [], harness := (true, "c875a363a9dd5672c7f80242b05b6ec389aa521d2ac2e9daa870282f40aa55a1"), looks := true }, kinds := [], alts := [], laidByText := true, laidKinds := [.handle], laidTests := true, laidLooks := .later }
def TreeFormsCardSaid : Prop := Claim7.holds Tryd.pinned (.plain (OpenSpec.ofChange treeFormsSpec)) treeFormsCard

/-- THE TIED CARD OF 'trammellaw3.TreeChain'. -/
def treeChainCard : Claim7 := { stood := { row := treeChainRow, standIns := [], harness := (true, "c875a363a9dd5672c7f80242b05b6ec389aa521d2ac2e9daa870282f40aa55a1"), looks := true }, kinds := [], alts := [], laidByText := true, laidKinds := [.handle], laidTests := true, laidLooks := .later }
def TreeChainCardSaid : Prop := Claim7.holds Tryd.pinned (.plain (OpenSpec.ofChange treeChainSpec)) treeChainCard

/-- THE SECOND FORM's CARD OF 'trammellaw3.Trees'. -/
def treesUptoCard : Claim7 := { stood := { row := treesUptoRow, standIns := [], harness := (true, "c875a363a9dd5672c7f80242b05b6ec389aa521d2ac2e9daa870282f40aa55a1"), looks := true }, kinds := [], alts := [], laidByText := true, laidKinds := [.handle], laidTests := true, laidLooks := .later }
def TreesUptoCardSaid : Prop := Claim7.holds Tryd.pinned (.plain (OpenSpec.upto treesSpec)) treesUptoCard

/-- THE SECOND FORM's CARD OF 'trammellaw3.TreeParts'. -/
def treePartsUptoCard : Claim7 := { stood := { row := treePartsUptoRow, standIns := [], harness := (true, "c875a363a9dd5672c7f80242b05b6ec389aa521d2ac2e9daa870282f40aa55a1"), looks := true }, kinds := [], alts := [], laidByText := true, laidKinds := [.handle], laidTests := true, laidLooks := .later }
def TreePartsUptoCardSaid : Prop := Claim7.holds Tryd.pinned (.plain (OpenSpec.upto treePartsSpec)) treePartsUptoCard

/-- THE SECOND FORM's CARD OF 'trammellaw3.TreeForms'. -/
def treeFormsUptoCard : Claim7 := { stood := { row := treeFormsUptoRow, standIns := [], harness := (true, "c875a363a9dd5672c7f80242b05b6ec389aa521d2ac2e9daa870282f40aa55a1"), looks := true }, kinds := [], alts := [], laidByText := true, laidKinds := [.handle], laidTests := true, laidLooks := .later }
def TreeFormsUptoCardSaid : Prop := Claim7.holds Tryd.pinned (.plain (OpenSpec.upto treeFormsSpec)) treeFormsUptoCard

/-- THE SECOND FORM's CARD OF 'trammellaw3.TreeChain'. -/
def treeChainUptoCard : Claim7 := { stood := { row := treeChainUptoRow, standIns := [], harness := (true, "c875a363a9dd5672c7f80242b05b6ec389aa521d2ac2e9daa870282f40aa55a1"), looks := true }, kinds := [], alts := [], laidByText := true, laidKinds := [.handle], laidTests := true, laidLooks := .later }
def TreeChainUptoCardSaid : Prop := Claim7.holds Tryd.pinned (.plain (OpenSpec.upto treeChainSpec)) treeChainUptoCard
end Rows
end Go.Proofs.YtdkpggnnhdoklaaDoor
