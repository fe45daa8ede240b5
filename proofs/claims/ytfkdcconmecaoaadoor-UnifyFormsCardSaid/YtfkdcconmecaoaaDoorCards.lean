/-
  DERIVED. GIVEN WITH THE SEED: THE CARDS: each row of YtfkdcconmecaoaaDoorRows.lean that lists a variable, with what it lists TIED to the program's text (the seventh form; the later family's looks); each row that meets fmt, with fmt's text TOLD by the authors' own Lean function (tested against real Go, not proved from fmt's source: count such statements apart). THE CARD IS WHAT COUNTS. Prove the row's statement (the work); the ties are given (YtfkdcconmecaoaaDoorTie.lean); close each card by the builder's one call (the guide's Derived/Test/ToyasCard.lean, 'card_holds'). Laid BY PROGRAM, IN A SANDBOX (cutbox-door.mjs). By AI agents, Wed Nov 11 2026. No macro, syntax, notation, axiom, sorry.
-/
import Derived.Test.YtfkdcconmecaoaaDoorRows
import GoSem.ClaimSeven
namespace Go.Proofs.YtfkdcconmecaoaaDoor
namespace Rows

/-- THE TIED CARD OF 'trammellaw10.UnifySolves'. -/
def unifySolvesCard : Claim7 := { stood := { row := unifySolvesRow, standIns := [], harness := (true, "8972f5c6c99146bc99ad386d4f7f58a2887f1b79cecc8e1b7a893a76956d5160"), looks := true }, kinds := [], alts := [], laidByText := true, laidKinds := [.sentinel, .sentinel, .sentinel], laidTests := true, laidLooks := .later }
def UnifySolvesCardSaid : Prop := Claim7.holds Tryd.pinned (.plain (OpenSpec.ofChange unifySolvesSpec)) unifySolvesCard

/-- THE TIED CARD OF 'trammellaw10.UnifyFinds'. -/
def unifyFindsCard : Claim7 := { stood := { row := unifyFindsRow, standIns := [], harness := (true, "8972f5c6c99146bc99ad386d4f7f58a2887f1b79cecc8e1b7a893a76956d5160"), looks := true }, kinds := [], alts := [], laidByText := true, laidKinds := [.sentinel, .sentinel, .sentinel], laidTests := true, laidLooks := .later }
def UnifyFindsCardSaid : Prop := Claim7.holds Tryd.pinned (.plain (OpenSpec.ofChange unifyFindsSpec)) unifyFindsCard

/-- THE TIED CARD OF 'trammellaw10.UnifySelf'. -/
def unifySelfCard : Claim7 := { stood := { row := unifySelfRow, standIns := [], harness := (true, "8972f5c6c99146bc99ad386d4f7f58a2887f1b79cecc8e1b7a893a76956d5160"), looks := true }, kinds := [], alts := [], laidByText := true, laidKinds := [.sentinel, .sentinel, .sentinel], laidTests := true, laidLooks := .later }
def UnifySelfCardSaid : Prop := Claim7.holds Tryd.pinned (.plain (OpenSpec.ofChange unifySelfSpec)) unifySelfCard

/-- THE TIED CARD OF 'trammellaw10.UnifySwap'. -/
def unifySwapCard : Claim7 := { stood := { row := unifySwapRow, standIns := [], harness := (true, "8972f5c6c99146bc99ad386d4f7f58a2887f1b79cecc8e1b7a893a76956d5160"), looks := true }, kinds := [], alts := [], laidByText := true, laidKinds := [.sentinel, .sentinel, .sentinel], laidTests := true, laidLooks := .later }
def UnifySwapCardSaid : Prop := Claim7.holds Tryd.pinned (.plain (OpenSpec.ofChange unifySwapSpec)) unifySwapCard

/-- THE TIED CARD OF 'trammellaw10.UnifyForms'. -/
def unifyFormsCard : Claim7 := { stood := { row := unifyFormsRow, standIns := [], harness := (true, "8972f5c6c99146bc99ad386d4f7f58a2887f1b79cecc8e1b7a893a76956d5160"), looks := true }, kinds := [], alts := [], laidByText := true, laidKinds := [.sentinel, .sentinel, .sentinel], laidTests := true, laidLooks := .later }
def UnifyFormsCardSaid : Prop := Claim7.holds Tryd.pinned (.plain (OpenSpec.ofChange unifyFormsSpec)) unifyFormsCard

/-- THE TIED CARD OF 'trammellaw11.Matches'. -/
def matchesCard : Claim7 := { stood := { row := matchesRow, standIns := [], harness := (true, "8972f5c6c99146bc99ad386d4f7f58a2887f1b79cecc8e1b7a893a76956d5160"), looks := true }, kinds := [], alts := [], laidByText := true, laidKinds := [.data, .data, .data], laidTests := true, laidLooks := .later }
def MatchesCardSaid : Prop := Claim7.holds Tryd.pinned (.plain (OpenSpec.ofChange matchesSpec)) matchesCard

/-- THE SECOND FORM's CARD OF 'trammellaw10.UnifySolves'. -/
def unifySolvesUptoCard : Claim7 := { stood := { row := unifySolvesUptoRow, standIns := [], harness := (true, "8972f5c6c99146bc99ad386d4f7f58a2887f1b79cecc8e1b7a893a76956d5160"), looks := true }, kinds := [], alts := [], laidByText := true, laidKinds := [.sentinel, .sentinel, .sentinel], laidTests := true, laidLooks := .later }
def UnifySolvesUptoCardSaid : Prop := Claim7.holds Tryd.pinned (.plain (OpenSpec.upto unifySolvesSpec)) unifySolvesUptoCard

/-- THE SECOND FORM's CARD OF 'trammellaw10.UnifyFinds'. -/
def unifyFindsUptoCard : Claim7 := { stood := { row := unifyFindsUptoRow, standIns := [], harness := (true, "8972f5c6c99146bc99ad386d4f7f58a2887f1b79cecc8e1b7a893a76956d5160"), looks := true }, kinds := [], alts := [], laidByText := true, laidKinds := [.sentinel, .sentinel, .sentinel], laidTests := true, laidLooks := .later }
def UnifyFindsUptoCardSaid : Prop := Claim7.holds Tryd.pinned (.plain (OpenSpec.upto unifyFindsSpec)) unifyFindsUptoCard

/-- THE SECOND FORM's CARD OF 'trammellaw10.UnifySelf'. -/
def unifySelfUptoCard : Claim7 := { stood := { row := unifySelfUptoRow, standIns := [], harness := (true, "8972f5c6c99146bc99ad386d4f7f58a2887f1b79cecc8e1b7a893a76956d5160"), looks := true }, kinds := [], alts := [], laidByText := true, laidKinds := [.sentinel, .sentinel, .sentinel], laidTests := true, laidLooks := .later }
def UnifySelfUptoCardSaid : Prop := Claim7.holds Tryd.pinned (.plain (OpenSpec.upto unifySelfSpec)) unifySelfUptoCard

/-- THE SECOND FORM's CARD OF 'trammellaw10.UnifySwap'. -/
def unifySwapUptoCard : Claim7 := { stood := { row := unifySwapUptoRow, standIns := [], harness := (true, "8972f5c6c99146bc99ad386d4f7f58a2887f1b79cecc8e1b7a893a76956d5160"), looks := true }, kinds := [], alts := [], laidByText := true, laidKinds := [.sentinel, .sentinel, .sentinel], laidTests := true, laidLooks := .later }
def UnifySwapUptoCardSaid : Prop := Claim7.holds Tryd.pinned (.plain (OpenSpec.upto unifySwapSpec)) unifySwapUptoCard

/-- THE SECOND FORM's CARD OF 'trammellaw10.UnifyForms'. -/
def unifyFormsUptoCard : Claim7 := { stood := { row := unifyFormsUptoRow, standIns := [], harness := (true, "8972f5c6c99146bc99ad386d4f7f58a2887f1b79cecc8e1b7a893a76956d5160"), looks := true }, kinds := [], alts := [], laidByText := true, laidKinds := [.sentinel, .sentinel, .sentinel], laidTests := true, laidLooks := .later }
def UnifyFormsUptoCardSaid : Prop := Claim7.holds Tryd.pinned (.plain (OpenSpec.upto unifyFormsSpec)) unifyFormsUptoCard

/-- THE SECOND FORM's CARD OF 'trammellaw11.Matches'. -/
def matchesUptoCard : Claim7 := { stood := { row := matchesUptoRow, standIns := [], harness := (true, "8972f5c6c99146bc99ad386d4f7f58a2887f1b79cecc8e1b7a893a76956d5160"), looks := true }, kinds := [], alts := [], laidByText := true, laidKinds := [.data, .data, .data], laidTests := true, laidLooks := .later }
def MatchesUptoCardSaid : Prop := Claim7.holds Tryd.pinned (.plain (OpenSpec.upto matchesSpec)) matchesUptoCard
end Rows
end Go.Proofs.YtfkdcconmecaoaaDoor
