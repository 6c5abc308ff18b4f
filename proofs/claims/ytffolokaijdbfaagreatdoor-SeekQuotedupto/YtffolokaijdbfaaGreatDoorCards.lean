/-
  DERIVED. GIVEN WITH THE SEED: THE CARDS: each row of YtffolokaijdbfaaGreatDoorRows.lean that lists a variable, with what it lists TIED to the program's text (the seventh form; the later family's looks); each row that meets fmt, with fmt's text TOLD by the authors' own Lean function (tested against real Go, not proved from fmt's source: count such statements apart). THE CARD IS WHAT COUNTS. Prove the row's statement (the work); the ties are given (YtffolokaijdbfaaGreatDoorTie.lean); close each card by the builder's one call (the guide's Derived/Test/ToyasCard.lean, 'card_holds'). Laid BY PROGRAM, IN A SANDBOX (cutbox-door.mjs). By AI agents, Wed Nov 11 2026. No macro, syntax, notation, axiom, sorry.
-/
import Derived.Test.YtffolokaijdbfaaGreatDoorRows
import GoSem.ClaimSeven
namespace Go.Proofs.YtffolokaijdbfaaGreatDoor
namespace Rows

/-- THE TIED CARD OF 'vellumlaw06.SeekQuoted'. -/
def seekQuotedCard : Claim7 := { stood := { row := seekQuotedRow, standIns := [], harness := (true, "0d596457fffc2eff193eef63818c200b51840b14cfed65af984bdaceee116b08"), looks := true }, kinds := [], alts := [], laidByText := true, laidKinds := [.handle], laidTests := true, laidLooks := .later }
def SeekQuotedCardSaid : Prop := Claim7.holds Tryz.pinned (.plain (OpenSpec.ofChange seekQuotedSpec)) seekQuotedCard

/-- THE SECOND FORM's CARD OF 'vellumlaw06.SeekQuoted'. -/
def seekQuotedUptoCard : Claim7 := { stood := { row := seekQuotedUptoRow, standIns := [], harness := (true, "0d596457fffc2eff193eef63818c200b51840b14cfed65af984bdaceee116b08"), looks := true }, kinds := [], alts := [], laidByText := true, laidKinds := [.handle], laidTests := true, laidLooks := .later }
def SeekQuotedUptoCardSaid : Prop := Claim7.holds Tryz.pinned (.plain (OpenSpec.upto seekQuotedSpec)) seekQuotedUptoCard
end Rows
end Go.Proofs.YtffolokaijdbfaaGreatDoor
