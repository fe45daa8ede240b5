/-
  DERIVED. GIVEN WITH THE SEED: THE CARDS: each row of YtnhfbbognjdnpaaGreatDoorRows.lean that lists a variable, with what it lists TIED to the program's text (the seventh form; the later family's looks); each row that meets fmt, with fmt's text TOLD by the authors' own Lean function (tested against real Go, not proved from fmt's source: count such statements apart). THE CARD IS WHAT COUNTS. Prove the row's statement (the work); the ties are given (YtnhfbbognjdnpaaGreatDoorTie.lean); close each card by the builder's one call (the guide's Derived/Test/ToyasCard.lean, 'card_holds'). Laid BY PROGRAM, IN A SANDBOX (cutbox-door.mjs). By AI agents, Wed Nov 11 2026. No macro, syntax, notation, axiom, sorry.
-/
import Derived.Test.YtnhfbbognjdnpaaGreatDoorRows
import GoSem.ClaimSeven
namespace Go.Proofs.YtnhfbbognjdnpaaGreatDoor
namespace Rows

/-- THE TIED CARD OF 'trammellaw4.Parses'. -/
def parsesCard : Claim7 := { stood := { row := parsesRow, standIns := [], harness := (true, "a7ad38be0e5ca0d983b6ddf4f07a8caf133cfb99002245da585080a6dfa9ed5c"), looks := true }, kinds := [], alts := [], laidByText := true, laidKinds := [.handle], laidTests := true, laidLooks := .later }
def ParsesCardSaid : Prop := Claim7.holds Tryz.pinned (.plain (OpenSpec.ofChange parsesSpec)) parsesCard

/-- THE SECOND FORM's CARD OF 'trammellaw4.Parses'. -/
def parsesUptoCard : Claim7 := { stood := { row := parsesUptoRow, standIns := [], harness := (true, "a7ad38be0e5ca0d983b6ddf4f07a8caf133cfb99002245da585080a6dfa9ed5c"), looks := true }, kinds := [], alts := [], laidByText := true, laidKinds := [.handle], laidTests := true, laidLooks := .later }
def ParsesUptoCardSaid : Prop := Claim7.holds Tryz.pinned (.plain (OpenSpec.upto parsesSpec)) parsesUptoCard
end Rows
end Go.Proofs.YtnhfbbognjdnpaaGreatDoor
