/-
  DERIVED. GIVEN WITH THE SEED: THE CARDS: each row of YtilhpclnligpaaaDoorRows.lean that lists a variable, with what it lists TIED to the program's text (the seventh form; the later family's looks); each row that meets fmt, with fmt's text TOLD by the authors' own Lean function (tested against real Go, not proved from fmt's source: count such statements apart). THE CARD IS WHAT COUNTS. Prove the row's statement (the work); the ties are given (YtilhpclnligpaaaDoorTie.lean); close each card by the builder's one call (the guide's Derived/Test/ToyasCard.lean, 'card_holds'). Laid BY PROGRAM, IN A SANDBOX (cutbox-door.mjs). By AI agents, Wed Nov 11 2026. No macro, syntax, notation, axiom, sorry.
-/
import Derived.Test.YtilhpclnligpaaaDoorRows
import GoSem.ClaimSeven
namespace Go.Proofs.YtilhpclnligpaaaDoor
namespace Rows

/-- THE TIED CARD OF 'trammellaw24.Places'. -/
def placesCard : Claim7 := { stood := { row := placesRow, standIns := [], harness := (true, "cc834f4f2f90d80702efa8c21c2074dc21c0de116be90b9c9af926b9be9f48cd"), looks := false }, kinds := [], alts := [], laidByText := true, laidKinds := [.data, .data, .data], laidTests := true, laidLooks := .later }
def PlacesCardSaid : Prop := Claim7.holds Tryd.pinned (.plain (OpenSpec.ofChange placesSpec)) placesCard

/-- THE TIED CARD OF 'trammellaw24.PlaceWalks'. -/
def placeWalksCard : Claim7 := { stood := { row := placeWalksRow, standIns := [], harness := (true, "cc834f4f2f90d80702efa8c21c2074dc21c0de116be90b9c9af926b9be9f48cd"), looks := false }, kinds := [], alts := [], laidByText := true, laidKinds := [.data, .data, .data], laidTests := true, laidLooks := .later }
def PlaceWalksCardSaid : Prop := Claim7.holds Tryd.pinned (.plain (OpenSpec.ofChange placeWalksSpec)) placeWalksCard

/-- THE TIED CARD OF 'trammellaw24.PlaceForms'. -/
def placeFormsCard : Claim7 := { stood := { row := placeFormsRow, standIns := [], harness := (true, "cc834f4f2f90d80702efa8c21c2074dc21c0de116be90b9c9af926b9be9f48cd"), looks := false }, kinds := [], alts := [], laidByText := true, laidKinds := [.data, .data, .data], laidTests := true, laidLooks := .later }
def PlaceFormsCardSaid : Prop := Claim7.holds Tryd.pinned (.plain (OpenSpec.ofChange placeFormsSpec)) placeFormsCard

/-- THE TIED CARD OF 'trammellaw24.PlaceTells'. -/
def placeTellsCard : Claim7 := { stood := { row := placeTellsRow, standIns := [], harness := (true, "cc834f4f2f90d80702efa8c21c2074dc21c0de116be90b9c9af926b9be9f48cd"), looks := false }, kinds := [], alts := [], laidByText := true, laidKinds := [.data, .data, .data], laidTests := true, laidLooks := .later }
def PlaceTellsCardSaid : Prop := Claim7.holds Tryd.pinned (.plain (OpenSpec.ofChange placeTellsSpec)) placeTellsCard

/-- THE TIED CARD OF 'trammellaw24.PlaceRises'. -/
def placeRisesCard : Claim7 := { stood := { row := placeRisesRow, standIns := [], harness := (true, "cc834f4f2f90d80702efa8c21c2074dc21c0de116be90b9c9af926b9be9f48cd"), looks := false }, kinds := [], alts := [], laidByText := true, laidKinds := [.data, .data, .data], laidTests := true, laidLooks := .later }
def PlaceRisesCardSaid : Prop := Claim7.holds Tryd.pinned (.plain (OpenSpec.ofChange placeRisesSpec)) placeRisesCard

/-- THE SECOND FORM's CARD OF 'trammellaw24.Places'. -/
def placesUptoCard : Claim7 := { stood := { row := placesUptoRow, standIns := [], harness := (true, "cc834f4f2f90d80702efa8c21c2074dc21c0de116be90b9c9af926b9be9f48cd"), looks := false }, kinds := [], alts := [], laidByText := true, laidKinds := [.data, .data, .data], laidTests := true, laidLooks := .later }
def PlacesUptoCardSaid : Prop := Claim7.holds Tryd.pinned (.plain (OpenSpec.upto placesSpec)) placesUptoCard

/-- THE SECOND FORM's CARD OF 'trammellaw24.PlaceWalks'. -/
def placeWalksUptoCard : Claim7 := { stood := { row := placeWalksUptoRow, standIns := [], harness := (true, "cc834f4f2f90d80702efa8c21c2074dc21c0de116be90b9c9af926b9be9f48cd"), looks := false }, kinds := [], alts := [], laidByText := true, laidKinds := [.data, .data, .data], laidTests := true, laidLooks := .later }
def PlaceWalksUptoCardSaid : Prop := Claim7.holds Tryd.pinned (.plain (OpenSpec.upto placeWalksSpec)) placeWalksUptoCard

/-- THE SECOND FORM's CARD OF 'trammellaw24.PlaceForms'. -/
def placeFormsUptoCard : Claim7 := { stood := { row := placeFormsUptoRow, standIns := [], harness := (true, "cc834f4f2f90d80702efa8c21c2074dc21c0de116be90b9c9af926b9be9f48cd"), looks := false }, kinds := [], alts := [], laidByText := true, laidKinds := [.data, .data, .data], laidTests := true, laidLooks := .later }
def PlaceFormsUptoCardSaid : Prop := Claim7.holds Tryd.pinned (.plain (OpenSpec.upto placeFormsSpec)) placeFormsUptoCard

/-- THE SECOND FORM's CARD OF 'trammellaw24.PlaceTells'. -/
def placeTellsUptoCard : Claim7 := { stood := { row := placeTellsUptoRow, standIns := [], harness := (true, "cc834f4f2f90d80702efa8c21c2074dc21c0de116be90b9c9af926b9be9f48cd"), looks := false }, kinds := [], alts := [], laidByText := true, laidKinds := [.data, .data, .data], laidTests := true, laidLooks := .later }
def PlaceTellsUptoCardSaid : Prop := Claim7.holds Tryd.pinned (.plain (OpenSpec.upto placeTellsSpec)) placeTellsUptoCard

/-- THE SECOND FORM's CARD OF 'trammellaw24.PlaceRises'. -/
def placeRisesUptoCard : Claim7 := { stood := { row := placeRisesUptoRow, standIns := [], harness := (true, "cc834f4f2f90d80702efa8c21c2074dc21c0de116be90b9c9af926b9be9f48cd"), looks := false }, kinds := [], alts := [], laidByText := true, laidKinds := [.data, .data, .data], laidTests := true, laidLooks := .later }
def PlaceRisesUptoCardSaid : Prop := Claim7.holds Tryd.pinned (.plain (OpenSpec.upto placeRisesSpec)) placeRisesUptoCard
end Rows
end Go.Proofs.YtilhpclnligpaaaDoor
