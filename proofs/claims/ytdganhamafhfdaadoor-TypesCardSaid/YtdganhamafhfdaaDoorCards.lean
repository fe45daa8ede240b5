/-
  DERIVED. GIVEN WITH THE SEED: THE CARDS: each row of YtdganhamafhfdaaDoorRows.lean that lists a variable, with what it lists TIED to the program's text (the seventh form; the later family's looks); each row that meets fmt, with fmt's text TOLD by the authors' own Lean function (tested against real Go, not proved from fmt's source: count such statements apart). THE CARD IS WHAT COUNTS. Prove the row's statement (the work); the ties are given (YtdganhamafhfdaaDoorTie.lean); close each card by the builder's one call (the guide's Derived/Test/ToyasCard.lean, 'card_holds'). Laid BY PROGRAM, IN A SANDBOX (cutbox-door.mjs). By AI agents, Wed Nov 11 2026. No macro, syntax, notation, axiom, sorry.
-/
import Derived.Test.YtdganhamafhfdaaDoorRows
import GoSem.ClaimSeven
namespace Go.Proofs.YtdganhamafhfdaaDoor
namespace Rows

/-- THE TIED CARD OF 'trammellaw7.Types'. -/
def typesCard : Claim7 := { stood := { row := typesRow, standIns := [], harness := (true, "6d1ae268c47021f15b770f9edbf29edaa10aeb2b3f911fa4e1d343f366592fb5"), looks := true }, kinds := [], alts := [], laidByText := true, laidKinds := [.data, .data, .data], laidTests := true, laidLooks := .later }
def TypesCardSaid : Prop := Claim7.holds Tryd.pinned (.plain (OpenSpec.ofChange typesSpec)) typesCard

/-- THE TIED CARD OF 'trammellaw7.TypeNames'. -/
def typeNamesCard : Claim7 := { stood := { row := typeNamesRow, standIns := [], harness := (true, "6d1ae268c47021f15b770f9edbf29edaa10aeb2b3f911fa4e1d343f366592fb5"), looks := true }, kinds := [], alts := [], laidByText := true, laidKinds := [.data, .data, .data], laidTests := true, laidLooks := .later }
def TypeNamesCardSaid : Prop := Claim7.holds Tryd.pinned (.plain (OpenSpec.ofChange typeNamesSpec)) typeNamesCard

/-- THE TIED CARD OF 'trammellaw7.TypForms'. -/
def typFormsCard : Claim7 := { stood := { row := typFormsRow, standIns := [], harness := (true, "6d1ae268c47021f15b770f9edbf29edaa10aeb2b3f911fa4e1d343f366592fb5"), looks := true }, kinds := [], alts := [], laidByText := true, laidKinds := [.data, .data, .data], laidTests := true, laidLooks := .later }
def TypFormsCardSaid : Prop := Claim7.holds Tryd.pinned (.plain (OpenSpec.ofChange typFormsSpec)) typFormsCard

/-- THE TIED CARD OF 'trammellaw7.TypGrows'. -/
def typGrowsCard : Claim7 := { stood := { row := typGrowsRow, standIns := [], harness := (true, "6d1ae268c47021f15b770f9edbf29edaa10aeb2b3f911fa4e1d343f366592fb5"), looks := true }, kinds := [], alts := [], laidByText := true, laidKinds := [.data, .data, .data], laidTests := true, laidLooks := .later }
def TypGrowsCardSaid : Prop := Claim7.holds Tryd.pinned (.plain (OpenSpec.ofChange typGrowsSpec)) typGrowsCard

/-- THE TIED CARD OF 'trammellaw10.UnifySolves'. -/
def unifySolvesCard : Claim7 := { stood := { row := unifySolvesRow, standIns := [], harness := (true, "6d1ae268c47021f15b770f9edbf29edaa10aeb2b3f911fa4e1d343f366592fb5"), looks := true }, kinds := [], alts := [], laidByText := true, laidKinds := [.sentinel, .sentinel, .sentinel], laidTests := true, laidLooks := .later }
def UnifySolvesCardSaid : Prop := Claim7.holds Tryd.pinned (.plain (OpenSpec.ofChange unifySolvesSpec)) unifySolvesCard

/-- THE TIED CARD OF 'trammellaw10.UnifyFinds'. -/
def unifyFindsCard : Claim7 := { stood := { row := unifyFindsRow, standIns := [], harness := (true, "6d1ae268c47021f15b770f9edbf29edaa10aeb2b3f911fa4e1d343f366592fb5"), looks := true }, kinds := [], alts := [], laidByText := true, laidKinds := [.sentinel, .sentinel, .sentinel], laidTests := true, laidLooks := .later }
def UnifyFindsCardSaid : Prop := Claim7.holds Tryd.pinned (.plain (OpenSpec.ofChange unifyFindsSpec)) unifyFindsCard

/-- THE TIED CARD OF 'trammellaw10.UnifySelf'. -/
def unifySelfCard : Claim7 := { stood := { row := unifySelfRow, standIns := [], harness := (true, "6d1ae268c47021f15b770f9edbf29edaa10aeb2b3f911fa4e1d343f366592fb5"), looks := true }, kinds := [], alts := [], laidByText := true, laidKinds := [.sentinel, .sentinel, .sentinel], laidTests := true, laidLooks := .later }
def UnifySelfCardSaid : Prop := Claim7.holds Tryd.pinned (.plain (OpenSpec.ofChange unifySelfSpec)) unifySelfCard

/-- THE TIED CARD OF 'trammellaw10.UnifySwap'. -/
def unifySwapCard : Claim7 := { stood := { row := unifySwapRow, standIns := [], harness := (true, "6d1ae268c47021f15b770f9edbf29edaa10aeb2b3f911fa4e1d343f366592fb5"), looks := true }, kinds := [], alts := [], laidByText := true, laidKinds := [.sentinel, .sentinel, .sentinel], laidTests := true, laidLooks := .later }
def UnifySwapCardSaid : Prop := Claim7.holds Tryd.pinned (.plain (OpenSpec.ofChange unifySwapSpec)) unifySwapCard

/-- THE TIED CARD OF 'trammellaw10.UnifyForms'. -/
def unifyFormsCard : Claim7 := { stood := { row := unifyFormsRow, standIns := [], harness := (true, "6d1ae268c47021f15b770f9edbf29edaa10aeb2b3f911fa4e1d343f366592fb5"), looks := true }, kinds := [], alts := [], laidByText := true, laidKinds := [.sentinel, .sentinel, .sentinel], laidTests := true, laidLooks := .later }
def UnifyFormsCardSaid : Prop := Claim7.holds Tryd.pinned (.plain (OpenSpec.ofChange unifyFormsSpec)) unifyFormsCard

/-- THE TIED CARD OF 'trammellaw11.Matches'. -/
def matchesCard : Claim7 := { stood := { row := matchesRow, standIns := [], harness := (true, "6d1ae268c47021f15b770f9edbf29edaa10aeb2b3f911fa4e1d343f366592fb5"), looks := true }, kinds := [], alts := [], laidByText := true, laidKinds := [.data, .data, .data], laidTests := true, laidLooks := .later }
def MatchesCardSaid : Prop := Claim7.holds Tryd.pinned (.plain (OpenSpec.ofChange matchesSpec)) matchesCard

/-- THE TIED CARD OF 'trammellaw11.MatchMade'. -/
def matchMadeCard : Claim7 := { stood := { row := matchMadeRow, standIns := [], harness := (true, "6d1ae268c47021f15b770f9edbf29edaa10aeb2b3f911fa4e1d343f366592fb5"), looks := true }, kinds := [], alts := [], laidByText := true, laidKinds := [.data, .data, .data], laidTests := true, laidLooks := .later }
def MatchMadeCardSaid : Prop := Claim7.holds Tryd.pinned (.plain (OpenSpec.ofChange matchMadeSpec)) matchMadeCard

/-- THE TIED CARD OF 'trammellaw11.MatchBoth'. -/
def matchBothCard : Claim7 := { stood := { row := matchBothRow, standIns := [], harness := (true, "6d1ae268c47021f15b770f9edbf29edaa10aeb2b3f911fa4e1d343f366592fb5"), looks := true }, kinds := [], alts := [], laidByText := true, laidKinds := [.data, .data, .data], laidTests := true, laidLooks := .later }
def MatchBothCardSaid : Prop := Claim7.holds Tryd.pinned (.plain (OpenSpec.ofChange matchBothSpec)) matchBothCard

/-- THE TIED CARD OF 'trammellaw11.MatchRows'. -/
def matchRowsCard : Claim7 := { stood := { row := matchRowsRow, standIns := [], harness := (true, "6d1ae268c47021f15b770f9edbf29edaa10aeb2b3f911fa4e1d343f366592fb5"), looks := true }, kinds := [], alts := [], laidByText := true, laidKinds := [.data, .data, .data], laidTests := true, laidLooks := .later }
def MatchRowsCardSaid : Prop := Claim7.holds Tryd.pinned (.plain (OpenSpec.ofChange matchRowsSpec)) matchRowsCard

/-- THE TIED CARD OF 'trammellaw11.MatchKinds'. -/
def matchKindsCard : Claim7 := { stood := { row := matchKindsRow, standIns := [], harness := (true, "6d1ae268c47021f15b770f9edbf29edaa10aeb2b3f911fa4e1d343f366592fb5"), looks := true }, kinds := [], alts := [], laidByText := true, laidKinds := [.data, .data, .data], laidTests := true, laidLooks := .later }
def MatchKindsCardSaid : Prop := Claim7.holds Tryd.pinned (.plain (OpenSpec.ofChange matchKindsSpec)) matchKindsCard

/-- THE SECOND FORM's CARD OF 'trammellaw7.Types'. -/
def typesUptoCard : Claim7 := { stood := { row := typesUptoRow, standIns := [], harness := (true, "6d1ae268c47021f15b770f9edbf29edaa10aeb2b3f911fa4e1d343f366592fb5"), looks := true }, kinds := [], alts := [], laidByText := true, laidKinds := [.data, .data, .data], laidTests := true, laidLooks := .later }
def TypesUptoCardSaid : Prop := Claim7.holds Tryd.pinned (.plain (OpenSpec.upto typesSpec)) typesUptoCard

/-- THE SECOND FORM's CARD OF 'trammellaw7.TypeNames'. -/
def typeNamesUptoCard : Claim7 := { stood := { row := typeNamesUptoRow, standIns := [], harness := (true, "6d1ae268c47021f15b770f9edbf29edaa10aeb2b3f911fa4e1d343f366592fb5"), looks := true }, kinds := [], alts := [], laidByText := true, laidKinds := [.data, .data, .data], laidTests := true, laidLooks := .later }
def TypeNamesUptoCardSaid : Prop := Claim7.holds Tryd.pinned (.plain (OpenSpec.upto typeNamesSpec)) typeNamesUptoCard

/-- THE SECOND FORM's CARD OF 'trammellaw7.TypForms'. -/
def typFormsUptoCard : Claim7 := { stood := { row := typFormsUptoRow, standIns := [], harness := (true, "6d1ae268c47021f15b770f9edbf29edaa10aeb2b3f911fa4e1d343f366592fb5"), looks := true }, kinds := [], alts := [], laidByText := true, laidKinds := [.data, .data, .data], laidTests := true, laidLooks := .later }
def TypFormsUptoCardSaid : Prop := Claim7.holds Tryd.pinned (.plain (OpenSpec.upto typFormsSpec)) typFormsUptoCard

/-- THE SECOND FORM's CARD OF 'trammellaw7.TypGrows'. -/
def typGrowsUptoCard : Claim7 := { stood := { row := typGrowsUptoRow, standIns := [], harness := (true, "6d1ae268c47021f15b770f9edbf29edaa10aeb2b3f911fa4e1d343f366592fb5"), looks := true }, kinds := [], alts := [], laidByText := true, laidKinds := [.data, .data, .data], laidTests := true, laidLooks := .later }
def TypGrowsUptoCardSaid : Prop := Claim7.holds Tryd.pinned (.plain (OpenSpec.upto typGrowsSpec)) typGrowsUptoCard

/-- THE SECOND FORM's CARD OF 'trammellaw10.UnifySolves'. -/
def unifySolvesUptoCard : Claim7 := { stood := { row := unifySolvesUptoRow, standIns := [], harness := (true, "6d1ae268c47021f15b770f9edbf29edaa10aeb2b3f911fa4e1d343f366592fb5"), looks := true }, kinds := [], alts := [], laidByText := true, laidKinds := [.sentinel, .sentinel, .sentinel], laidTests := true, laidLooks := .later }
def UnifySolvesUptoCardSaid : Prop := Claim7.holds Tryd.pinned (.plain (OpenSpec.upto unifySolvesSpec)) unifySolvesUptoCard

/-- THE SECOND FORM's CARD OF 'trammellaw10.UnifyFinds'. -/
def unifyFindsUptoCard : Claim7 := { stood := { row := unifyFindsUptoRow, standIns := [], harness := (true, "6d1ae268c47021f15b770f9edbf29edaa10aeb2b3f911fa4e1d343f366592fb5"), looks := true }, kinds := [], alts := [], laidByText := true, laidKinds := [.sentinel, .sentinel, .sentinel], laidTests := true, laidLooks := .later }
def UnifyFindsUptoCardSaid : Prop := Claim7.holds Tryd.pinned (.plain (OpenSpec.upto unifyFindsSpec)) unifyFindsUptoCard

/-- THE SECOND FORM's CARD OF 'trammellaw10.UnifySelf'. -/
def unifySelfUptoCard : Claim7 := { stood := { row := unifySelfUptoRow, standIns := [], harness := (true, "6d1ae268c47021f15b770f9edbf29edaa10aeb2b3f911fa4e1d343f366592fb5"), looks := true }, kinds := [], alts := [], laidByText := true, laidKinds := [.sentinel, .sentinel, .sentinel], laidTests := true, laidLooks := .later }
def UnifySelfUptoCardSaid : Prop := Claim7.holds Tryd.pinned (.plain (OpenSpec.upto unifySelfSpec)) unifySelfUptoCard

/-- THE SECOND FORM's CARD OF 'trammellaw10.UnifySwap'. -/
def unifySwapUptoCard : Claim7 := { stood := { row := unifySwapUptoRow, standIns := [], harness := (true, "6d1ae268c47021f15b770f9edbf29edaa10aeb2b3f911fa4e1d343f366592fb5"), looks := true }, kinds := [], alts := [], laidByText := true, laidKinds := [.sentinel, .sentinel, .sentinel], laidTests := true, laidLooks := .later }
def UnifySwapUptoCardSaid : Prop := Claim7.holds Tryd.pinned (.plain (OpenSpec.upto unifySwapSpec)) unifySwapUptoCard

/-- THE SECOND FORM's CARD OF 'trammellaw10.UnifyForms'. -/
def unifyFormsUptoCard : Claim7 := { stood := { row := unifyFormsUptoRow, standIns := [], harness := (true, "6d1ae268c47021f15b770f9edbf29edaa10aeb2b3f911fa4e1d343f366592fb5"), looks := true }, kinds := [], alts := [], laidByText := true, laidKinds := [.sentinel, .sentinel, .sentinel], laidTests := true, laidLooks := .later }
def UnifyFormsUptoCardSaid : Prop := Claim7.holds Tryd.pinned (.plain (OpenSpec.upto unifyFormsSpec)) unifyFormsUptoCard

/-- THE SECOND FORM's CARD OF 'trammellaw11.Matches'. -/
def matchesUptoCard : Claim7 := { stood := { row := matchesUptoRow, standIns := [], harness := (true, "6d1ae268c47021f15b770f9edbf29edaa10aeb2b3f911fa4e1d343f366592fb5"), looks := true }, kinds := [], alts := [], laidByText := true, laidKinds := [.data, .data, .data], laidTests := true, laidLooks := .later }
def MatchesUptoCardSaid : Prop := Claim7.holds Tryd.pinned (.plain (OpenSpec.upto matchesSpec)) matchesUptoCard

/-- THE SECOND FORM's CARD OF 'trammellaw11.MatchMade'. -/
def matchMadeUptoCard : Claim7 := { stood := { row := matchMadeUptoRow, standIns := [], harness := (true, "6d1ae268c47021f15b770f9edbf29edaa10aeb2b3f911fa4e1d343f366592fb5"), looks := true }, kinds := [], alts := [], laidByText := true, laidKinds := [.data, .data, .data], laidTests := true, laidLooks := .later }
def MatchMadeUptoCardSaid : Prop := Claim7.holds Tryd.pinned (.plain (OpenSpec.upto matchMadeSpec)) matchMadeUptoCard

/-- THE SECOND FORM's CARD OF 'trammellaw11.MatchBoth'. -/
def matchBothUptoCard : Claim7 := { stood := { row := matchBothUptoRow, standIns := [], harness := (true, "6d1ae268c47021f15b770f9edbf29edaa10aeb2b3f911fa4e1d343f366592fb5"), looks := true }, kinds := [], alts := [], laidByText := true, laidKinds := [.data, .data, .data], laidTests := true, laidLooks := .later }
def MatchBothUptoCardSaid : Prop := Claim7.holds Tryd.pinned (.plain (OpenSpec.upto matchBothSpec)) matchBothUptoCard

/-- THE SECOND FORM's CARD OF 'trammellaw11.MatchRows'. -/
def matchRowsUptoCard : Claim7 := { stood := { row := matchRowsUptoRow, standIns := [], harness := (true, "6d1ae268c47021f15b770f9edbf29edaa10aeb2b3f911fa4e1d343f366592fb5"), looks := true }, kinds := [], alts := [], laidByText := true, laidKinds := [.data, .data, .data], laidTests := true, laidLooks := .later }
def MatchRowsUptoCardSaid : Prop := Claim7.holds Tryd.pinned (.plain (OpenSpec.upto matchRowsSpec)) matchRowsUptoCard

/-- THE SECOND FORM's CARD OF 'trammellaw11.MatchKinds'. -/
def matchKindsUptoCard : Claim7 := { stood := { row := matchKindsUptoRow, standIns := [], harness := (true, "6d1ae268c47021f15b770f9edbf29edaa10aeb2b3f911fa4e1d343f366592fb5"), looks := true }, kinds := [], alts := [], laidByText := true, laidKinds := [.data, .data, .data], laidTests := true, laidLooks := .later }
def MatchKindsUptoCardSaid : Prop := Claim7.holds Tryd.pinned (.plain (OpenSpec.upto matchKindsSpec)) matchKindsUptoCard
end Rows
end Go.Proofs.YtdganhamafhfdaaDoor
