/-
  DERIVED. GIVEN WITH THE SEED: THE CARDS: each row of YtglbaboboonmhaaDoorRows.lean that lists a variable, with what it lists TIED to the program's text (the seventh form; the later family's looks); each row that meets fmt, with fmt's text TOLD by the authors' own Lean function (tested against real Go, not proved from fmt's source: count such statements apart). THE CARD IS WHAT COUNTS. Prove the row's statement (the work); the ties are given (YtglbaboboonmhaaDoorTie.lean); close each card by the builder's one call (the guide's Derived/Test/ToyasCard.lean, 'card_holds'). Laid BY PROGRAM, IN A SANDBOX (cutbox-door.mjs). By AI agents, Wed Nov 11 2026. No macro, syntax, notation, axiom, sorry.
-/
import Derived.Test.YtglbaboboonmhaaDoorRows
import GoSem.ClaimSeven
namespace Go.Proofs.YtglbaboboonmhaaDoor
namespace Rows

/-- THE TIED CARD OF 'trammellaw18.Directs'. -/
def directsCard : Claim7 := { stood := { row := directsRow, standIns := [], harness := (true, "79e14940e24f5025f96c5f10e1d7049531256d494d735cce97f2941e3ae52bcf"), looks := true }, kinds := [], alts := [], laidByText := true, laidKinds := [.handle], laidTests := true, laidLooks := .later }
def DirectsCardSaid : Prop := Claim7.holds Tryd.pinned (.plain (OpenSpec.ofChange directsSpec)) directsCard

/-- THE TIED CARD OF 'trammellaw18.DirectParts'. -/
def directPartsCard : Claim7 := { stood := { row := directPartsRow, standIns := [], harness := (true, "79e14940e24f5025f96c5f10e1d7049531256d494d735cce97f2941e3ae52bcf"), looks := true }, kinds := [], alts := [], laidByText := true, laidKinds := [.handle], laidTests := true, laidLooks := .later }
def DirectPartsCardSaid : Prop := Claim7.holds Tryd.pinned (.plain (OpenSpec.ofChange directPartsSpec)) directPartsCard

/-- THE SECOND FORM's CARD OF 'trammellaw18.Directs'. -/
def directsUptoCard : Claim7 := { stood := { row := directsUptoRow, standIns := [], harness := (true, "79e14940e24f5025f96c5f10e1d7049531256d494d735cce97f2941e3ae52bcf"), looks := true }, kinds := [], alts := [], laidByText := true, laidKinds := [.handle], laidTests := true, laidLooks := .later }
def DirectsUptoCardSaid : Prop := Claim7.holds Tryd.pinned (.plain (OpenSpec.upto directsSpec)) directsUptoCard

/-- THE SECOND FORM's CARD OF 'trammellaw18.DirectParts'. -/
def directPartsUptoCard : Claim7 := { stood := { row := directPartsUptoRow, standIns := [], harness := (true, "79e14940e24f5025f96c5f10e1d7049531256d494d735cce97f2941e3ae52bcf"), looks := true }, kinds := [], alts := [], laidByText := true, laidKinds := [.handle], laidTests := true, laidLooks := .later }
def DirectPartsUptoCardSaid : Prop := Claim7.holds Tryd.pinned (.plain (OpenSpec.upto directPartsSpec)) directPartsUptoCard
end Rows
end Go.Proofs.YtglbaboboonmhaaDoor
