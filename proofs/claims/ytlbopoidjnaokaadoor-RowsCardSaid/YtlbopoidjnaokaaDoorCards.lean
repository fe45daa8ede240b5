/-
  DERIVED. GIVEN WITH THE SEED: THE CARDS: each row of YtlbopoidjnaokaaDoorRows.lean that lists a variable, with what it lists TIED to the program's text (the seventh form; the later family's looks); each row that meets fmt, with fmt's text TOLD by the authors' own Lean function (tested against real Go, not proved from fmt's source: count such statements apart). THE CARD IS WHAT COUNTS. Prove the row's statement (the work); the ties are given (YtlbopoidjnaokaaDoorTie.lean); close each card by the builder's one call (the guide's Derived/Test/ToyasCard.lean, 'card_holds'). Laid BY PROGRAM, IN A SANDBOX (cutbox-door.mjs). By AI agents, Wed Nov 11 2026. No macro, syntax, notation, axiom, sorry.
-/
import Derived.Test.YtlbopoidjnaokaaDoorRows
import GoSem.ClaimSeven
namespace Go.Proofs.YtlbopoidjnaokaaDoor
namespace Rows

/-- THE TIED CARD OF 'trammellaw8.Rows'. -/
def rowsCard : Claim7 := { stood := { row := rowsRow, standIns := [], harness := (true, "78f251ae266eb975d7d8c0219765840d6edb3fde3b64dff64255a58cc138c34c"), looks := false }, kinds := [], alts := [], laidByText := true, laidKinds := [.data, .data, .data], laidTests := true, laidLooks := .later }
def RowsCardSaid : Prop := Claim7.holds Tryd.pinned (.plain (OpenSpec.ofChange rowsSpec)) rowsCard

/-- THE TIED CARD OF 'trammellaw8.RowSolves'. -/
def rowSolvesCard : Claim7 := { stood := { row := rowSolvesRow, standIns := [], harness := (true, "78f251ae266eb975d7d8c0219765840d6edb3fde3b64dff64255a58cc138c34c"), looks := false }, kinds := [], alts := [], laidByText := true, laidKinds := [.data, .data, .data], laidTests := true, laidLooks := .later }
def RowSolvesCardSaid : Prop := Claim7.holds Tryd.pinned (.plain (OpenSpec.ofChange rowSolvesSpec)) rowSolvesCard

/-- THE TIED CARD OF 'trammellaw8.RowForms'. -/
def rowFormsCard : Claim7 := { stood := { row := rowFormsRow, standIns := [], harness := (true, "78f251ae266eb975d7d8c0219765840d6edb3fde3b64dff64255a58cc138c34c"), looks := false }, kinds := [], alts := [], laidByText := true, laidKinds := [.data, .data, .data], laidTests := true, laidLooks := .later }
def RowFormsCardSaid : Prop := Claim7.holds Tryd.pinned (.plain (OpenSpec.ofChange rowFormsSpec)) rowFormsCard

/-- THE TIED CARD OF 'trammellaw8.RowSwap'. -/
def rowSwapCard : Claim7 := { stood := { row := rowSwapRow, standIns := [], harness := (true, "78f251ae266eb975d7d8c0219765840d6edb3fde3b64dff64255a58cc138c34c"), looks := false }, kinds := [], alts := [], laidByText := true, laidKinds := [.data, .data, .data], laidTests := true, laidLooks := .later }
def RowSwapCardSaid : Prop := Claim7.holds Tryd.pinned (.plain (OpenSpec.ofChange rowSwapSpec)) rowSwapCard

/-- THE TIED CARD OF 'trammellaw8.RowTexts'. -/
def rowTextsCard : Claim7 := { stood := { row := rowTextsRow, standIns := [], harness := (true, "78f251ae266eb975d7d8c0219765840d6edb3fde3b64dff64255a58cc138c34c"), looks := false }, kinds := [], alts := [], laidByText := true, laidKinds := [.data, .data, .data], laidTests := true, laidLooks := .later }
def RowTextsCardSaid : Prop := Claim7.holds Tryd.pinned (.plain (OpenSpec.ofChange rowTextsSpec)) rowTextsCard

/-- THE TIED CARD OF 'trammellaw8.RowPure'. -/
def rowPureCard : Claim7 := { stood := { row := rowPureRow, standIns := [], harness := (true, "78f251ae266eb975d7d8c0219765840d6edb3fde3b64dff64255a58cc138c34c"), looks := false }, kinds := [], alts := [], laidByText := true, laidKinds := [.data, .data, .data], laidTests := true, laidLooks := .later }
def RowPureCardSaid : Prop := Claim7.holds Tryd.pinned (.plain (OpenSpec.ofChange rowPureSpec)) rowPureCard

/-- THE SECOND FORM's CARD OF 'trammellaw8.Rows'. -/
def rowsUptoCard : Claim7 := { stood := { row := rowsUptoRow, standIns := [], harness := (true, "78f251ae266eb975d7d8c0219765840d6edb3fde3b64dff64255a58cc138c34c"), looks := false }, kinds := [], alts := [], laidByText := true, laidKinds := [.data, .data, .data], laidTests := true, laidLooks := .later }
def RowsUptoCardSaid : Prop := Claim7.holds Tryd.pinned (.plain (OpenSpec.upto rowsSpec)) rowsUptoCard

/-- THE SECOND FORM's CARD OF 'trammellaw8.RowSolves'. -/
def rowSolvesUptoCard : Claim7 := { stood := { row := rowSolvesUptoRow, standIns := [], harness := (true, "78f251ae266eb975d7d8c0219765840d6edb3fde3b64dff64255a58cc138c34c"), looks := false }, kinds := [], alts := [], laidByText := true, laidKinds := [.data, .data, .data], laidTests := true, laidLooks := .later }
def RowSolvesUptoCardSaid : Prop := Claim7.holds Tryd.pinned (.plain (OpenSpec.upto rowSolvesSpec)) rowSolvesUptoCard

/-- THE SECOND FORM's CARD OF 'trammellaw8.RowForms'. -/
def rowFormsUptoCard : Claim7 := { stood := { row := rowFormsUptoRow, standIns := [], harness := (true, "78f251ae266eb975d7d8c0219765840d6edb3fde3b64dff64255a58cc138c34c"), looks := false }, kinds := [], alts := [], laidByText := true, laidKinds := [.data, .data, .data], laidTests := true, laidLooks := .later }
def RowFormsUptoCardSaid : Prop := Claim7.holds Tryd.pinned (.plain (OpenSpec.upto rowFormsSpec)) rowFormsUptoCard

/-- THE SECOND FORM's CARD OF 'trammellaw8.RowSwap'. -/
def rowSwapUptoCard : Claim7 := { stood := { row := rowSwapUptoRow, standIns := [], harness := (true, "78f251ae266eb975d7d8c0219765840d6edb3fde3b64dff64255a58cc138c34c"), looks := false }, kinds := [], alts := [], laidByText := true, laidKinds := [.data, .data, .data], laidTests := true, laidLooks := .later }
def RowSwapUptoCardSaid : Prop := Claim7.holds Tryd.pinned (.plain (OpenSpec.upto rowSwapSpec)) rowSwapUptoCard

/-- THE SECOND FORM's CARD OF 'trammellaw8.RowTexts'. -/
def rowTextsUptoCard : Claim7 := { stood := { row := rowTextsUptoRow, standIns := [], harness := (true, "78f251ae266eb975d7d8c0219765840d6edb3fde3b64dff64255a58cc138c34c"), looks := false }, kinds := [], alts := [], laidByText := true, laidKinds := [.data, .data, .data], laidTests := true, laidLooks := .later }
def RowTextsUptoCardSaid : Prop := Claim7.holds Tryd.pinned (.plain (OpenSpec.upto rowTextsSpec)) rowTextsUptoCard

/-- THE SECOND FORM's CARD OF 'trammellaw8.RowPure'. -/
def rowPureUptoCard : Claim7 := { stood := { row := rowPureUptoRow, standIns := [], harness := (true, "78f251ae266eb975d7d8c0219765840d6edb3fde3b64dff64255a58cc138c34c"), looks := false }, kinds := [], alts := [], laidByText := true, laidKinds := [.data, .data, .data], laidTests := true, laidLooks := .later }
def RowPureUptoCardSaid : Prop := Claim7.holds Tryd.pinned (.plain (OpenSpec.upto rowPureSpec)) rowPureUptoCard
end Rows
end Go.Proofs.YtlbopoidjnaokaaDoor
