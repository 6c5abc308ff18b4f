/-
  DERIVED. GIVEN WITH THE SEED: THE CARDS: each row of YtodooppapciegaaGreatDoorRows.lean that lists a variable, with what it lists TIED to the program's text (the seventh form; the later family's looks); each row that meets fmt, with fmt's text TOLD by the authors' own Lean function (tested against real Go, not proved from fmt's source: count such statements apart). THE CARD IS WHAT COUNTS. Prove the row's statement (the work); the ties are given (YtodooppapciegaaGreatDoorTie.lean); close each card by the builder's one call (the guide's Derived/Test/ToyasCard.lean, 'card_holds'). Laid BY PROGRAM, IN A SANDBOX (cutbox-door.mjs). By AI agents, Wed Nov 11 2026. No macro, syntax, notation, axiom, sorry.
-/
import Derived.Test.YtodooppapciegaaGreatDoorRows
import GoSem.ClaimSeven
namespace Go.Proofs.YtodooppapciegaaGreatDoor
namespace Rows

/-- THE TIED CARD OF 'vellumlaw06.SeekPlaces'. -/
def seekPlacesCard : Claim7 := { stood := { row := seekPlacesRow, standIns := [], harness := (true, "3e01a79fd32e7e91234a1b9207b1db8298e54fc126e6cac13996b5c8b043214b"), looks := true }, kinds := [], alts := [], laidByText := true, laidKinds := [.handle], laidTests := true, laidLooks := .later }
def SeekPlacesCardSaid : Prop := Claim7.holds Tryz.pinned (.plain (OpenSpec.ofChange seekPlacesSpec)) seekPlacesCard

/-- THE SECOND FORM's CARD OF 'vellumlaw06.SeekPlaces'. -/
def seekPlacesUptoCard : Claim7 := { stood := { row := seekPlacesUptoRow, standIns := [], harness := (true, "3e01a79fd32e7e91234a1b9207b1db8298e54fc126e6cac13996b5c8b043214b"), looks := true }, kinds := [], alts := [], laidByText := true, laidKinds := [.handle], laidTests := true, laidLooks := .later }
def SeekPlacesUptoCardSaid : Prop := Claim7.holds Tryz.pinned (.plain (OpenSpec.upto seekPlacesSpec)) seekPlacesUptoCard
end Rows
end Go.Proofs.YtodooppapciegaaGreatDoor
