/-
  No cell of these rows narrows 'for every input' (looked for: loops, veiled, ifaces, maps, wideKeys, modest, calm, conditions, laid).
  DERIVED. THE GIVEN ROWS OF THIS SEAT. 4 by the template 'for every input the law returns true; each argument reads behind the call as it read before'; 0 by the template 'total and deterministic' (their statements: YtjkglimbmfgllabTotals.lean).
  GIVEN WITH THE SEED: the statements are not yours to turn. If you find one false, say at which input.
  Laid BY PROGRAM, IN A SANDBOX (cutbox-rows.mjs): the forced cells as the released guide's own fill.sh prints them over the translation bf78e738dc132112… (all of the seat's roots in one cut). By AI agents, Wed Nov 11 2026. No macro, syntax, notation, axiom, sorry.
-/
import Derived.Test.YtjkglimbmfgllabChecked
import GoSem.Claim
import GoSem.ClaimJoined
import GoSem.ClaimMapViews
import Derived.JoinedTies
import Derived.KernelRfl
namespace Go.Proofs.Ytjkglimbmfgllab
/- THE CELL 'sum', in the pinned program and in every row, IS THE sha256 OF THE DUMP (.gsa) THAT YtjkglimbmfgllabProg.lean LOADS. Nothing in Lean hashes anything: it is a label: what it is worth is what the hold of that sum in a sandbox is worth. -/
noncomputable def Try.pinned : Pinned := { name := "ytjkglimbmfgllab", sum := "bf78e738dc1321128539c0caff651baa00cc24502140dc08cea2716a3771f479", checked := Try.checked }
namespace Rows
def none {H : Type} : Left H := { results := [], args := [] }

/-- 'vellumlaw01.BitsPieces': WHATEVER THE INPUT: true; the input reads as it did. -/
def bitsPiecesSpec : ChangeSpec := { name := "bitsPieces", fn := fun _ => fun
  | [d1, d2] => { results := [.lit (.bool true)], args := [d1, d2] }
  | _ => none }
def bitsPiecesRow : OpenClaim := { program := "ytjkglimbmfgllab", sum := "bf78e738dc1321128539c0caff651baa00cc24502140dc08cea2716a3771f479", func := "vellum/vellumlaw01.BitsPieces", spec := "bitsPieces", unfollowed := true, recurses := true, apart := false }
def BitsPiecesSaid : Prop := bitsPiecesRow.holds Try.pinned (OpenSpec.ofChange bitsPiecesSpec)

/-- ITS FALSE NEIGHBOUR: 'it returns false'. Refute it at one input. -/
def bitsPiecesWrong : ChangeSpec := { name := "bitsPieces", fn := fun _ => fun
  | [d1, d2] => { results := [.lit (.bool false)], args := [d1, d2] }
  | _ => none }
def BitsPiecesWrongFalsely : Prop := bitsPiecesRow.holds Try.pinned (OpenSpec.ofChange bitsPiecesWrong)

/-- 'vellumlaw01.BitsBurst': WHATEVER THE INPUT: true; the input reads as it did. -/
def bitsBurstSpec : ChangeSpec := { name := "bitsBurst", fn := fun _ => fun
  | [d1, d2, d3] => { results := [.lit (.bool true)], args := [d1, d2, d3] }
  | _ => none }
def bitsBurstRow : OpenClaim := { program := "ytjkglimbmfgllab", sum := "bf78e738dc1321128539c0caff651baa00cc24502140dc08cea2716a3771f479", func := "vellum/vellumlaw01.BitsBurst", spec := "bitsBurst", unfollowed := true, recurses := true, apart := false }
def BitsBurstSaid : Prop := bitsBurstRow.holds Try.pinned (OpenSpec.ofChange bitsBurstSpec)

/-- ITS FALSE NEIGHBOUR: 'it returns false'. Refute it at one input. -/
def bitsBurstWrong : ChangeSpec := { name := "bitsBurst", fn := fun _ => fun
  | [d1, d2, d3] => { results := [.lit (.bool false)], args := [d1, d2, d3] }
  | _ => none }
def BitsBurstWrongFalsely : Prop := bitsBurstRow.holds Try.pinned (OpenSpec.ofChange bitsBurstWrong)

/-- 'vellumlaw01.BitsCovers': WHATEVER THE INPUT: true; the input reads as it did. -/
def bitsCoversSpec : ChangeSpec := { name := "bitsCovers", fn := fun _ => fun
  | [d1, d2] => { results := [.lit (.bool true)], args := [d1, d2] }
  | _ => none }
def bitsCoversRow : OpenClaim := { program := "ytjkglimbmfgllab", sum := "bf78e738dc1321128539c0caff651baa00cc24502140dc08cea2716a3771f479", func := "vellum/vellumlaw01.BitsCovers", spec := "bitsCovers", unfollowed := true, recurses := true, apart := false }
def BitsCoversSaid : Prop := bitsCoversRow.holds Try.pinned (OpenSpec.ofChange bitsCoversSpec)

/-- ITS FALSE NEIGHBOUR: 'it returns false'. Refute it at one input. -/
def bitsCoversWrong : ChangeSpec := { name := "bitsCovers", fn := fun _ => fun
  | [d1, d2] => { results := [.lit (.bool false)], args := [d1, d2] }
  | _ => none }
def BitsCoversWrongFalsely : Prop := bitsCoversRow.holds Try.pinned (OpenSpec.ofChange bitsCoversWrong)

/-- 'vellumlaw01.BitsKnown': WHATEVER THE INPUT: true; the input reads as it did. -/
def bitsKnownSpec : ChangeSpec := { name := "bitsKnown", fn := fun _ => fun
  | [] => { results := [.lit (.bool true)], args := [] }
  | _ => none }
def bitsKnownRow : OpenClaim := { program := "ytjkglimbmfgllab", sum := "bf78e738dc1321128539c0caff651baa00cc24502140dc08cea2716a3771f479", func := "vellum/vellumlaw01.BitsKnown", spec := "bitsKnown", unfollowed := true, recurses := true, apart := false }
def BitsKnownSaid : Prop := bitsKnownRow.holds Try.pinned (OpenSpec.ofChange bitsKnownSpec)

/-- ITS FALSE NEIGHBOUR: 'it returns false'. Refute it at one input. -/
def bitsKnownWrong : ChangeSpec := { name := "bitsKnown", fn := fun _ => fun
  | [] => { results := [.lit (.bool false)], args := [] }
  | _ => none }
def BitsKnownWrongFalsely : Prop := bitsKnownRow.holds Try.pinned (OpenSpec.ofChange bitsKnownWrong)

/- THE SECOND FORM. 'bulk': how many values and letters a reading holds, each counted each time it is reached (what is shared counts as often as it is met; a slice's spare places count too). A statement '..UptoSaid' is the law's where the arguments, and the package variables that the reading takes, are together of bulk at most 1048576: NARROWER than '..Said'. Prove '..Said' where nothing that the law and all that it calls make is longer than what came in: it says more and counts as full. Else prove '..UptoSaid'. A law counts once. -/
mutual
def uptoBulk {H : Type} : DataW H → Nat
  | .lit (.string bytes) => bytes.length + 1
  | .lit _ => 1
  | .nil => 1
  | .ptr d => uptoBulk d + 1
  | .slice elems spare => uptoBulkAll elems + uptoBulkAll spare + 1
  | .agg parts => uptoBulkAll parts + 1
  | .iface _ d => uptoBulk d + 1
  | .map entries => uptoBulkEntries entries + 1
  | .held _ => 1
def uptoBulkAll {H : Type} : List (DataW H) → Nat
  | [] => 0
  | d :: r => uptoBulk d + uptoBulkAll r
def uptoBulkEntries {H : Type} : List (Lit × DataW H) → Nat
  | [] => 0
  | x :: r => uptoBulkEntry x + uptoBulkEntries r
def uptoBulkEntry {H : Type} : Lit × DataW H → Nat
  | (.string bytes, d) => bytes.length + uptoBulk d + 1
  | (_, d) => uptoBulk d + 1
 end
def uptoSmall : (H : Type) → List (DataW H) → Bool := fun _ ds => decide (uptoBulkAll ds ≤ 1048576)
def OpenSpec.upto (s : _root_.Go.ChangeSpec) : _root_.Go.OpenSpec := { _root_.Go.OpenSpec.ofChange s with cond := some uptoSmall }

/-- 'vellumlaw01.BitsPieces', WHERE WHAT IT READS IS OF BULK AT MOST 1048576: true; the input reads as it did. -/
def bitsPiecesUptoRow : OpenClaim := { program := "ytjkglimbmfgllab", sum := "bf78e738dc1321128539c0caff651baa00cc24502140dc08cea2716a3771f479", func := "vellum/vellumlaw01.BitsPieces", spec := "bitsPieces", unfollowed := true, recurses := true, apart := false, narrowed := true }
def BitsPiecesUptoSaid : Prop := bitsPiecesUptoRow.holds Try.pinned (OpenSpec.upto bitsPiecesSpec)

/-- 'vellumlaw01.BitsBurst', WHERE WHAT IT READS IS OF BULK AT MOST 1048576: true; the input reads as it did. -/
def bitsBurstUptoRow : OpenClaim := { program := "ytjkglimbmfgllab", sum := "bf78e738dc1321128539c0caff651baa00cc24502140dc08cea2716a3771f479", func := "vellum/vellumlaw01.BitsBurst", spec := "bitsBurst", unfollowed := true, recurses := true, apart := false, narrowed := true }
def BitsBurstUptoSaid : Prop := bitsBurstUptoRow.holds Try.pinned (OpenSpec.upto bitsBurstSpec)

/-- 'vellumlaw01.BitsCovers', WHERE WHAT IT READS IS OF BULK AT MOST 1048576: true; the input reads as it did. -/
def bitsCoversUptoRow : OpenClaim := { program := "ytjkglimbmfgllab", sum := "bf78e738dc1321128539c0caff651baa00cc24502140dc08cea2716a3771f479", func := "vellum/vellumlaw01.BitsCovers", spec := "bitsCovers", unfollowed := true, recurses := true, apart := false, narrowed := true }
def BitsCoversUptoSaid : Prop := bitsCoversUptoRow.holds Try.pinned (OpenSpec.upto bitsCoversSpec)

/-- 'vellumlaw01.BitsKnown', WHERE WHAT IT READS IS OF BULK AT MOST 1048576: true; the input reads as it did. -/
def bitsKnownUptoRow : OpenClaim := { program := "ytjkglimbmfgllab", sum := "bf78e738dc1321128539c0caff651baa00cc24502140dc08cea2716a3771f479", func := "vellum/vellumlaw01.BitsKnown", spec := "bitsKnown", unfollowed := true, recurses := true, apart := false, narrowed := true }
def BitsKnownUptoSaid : Prop := bitsKnownUptoRow.holds Try.pinned (OpenSpec.upto bitsKnownSpec)

end Rows
end Go.Proofs.Ytjkglimbmfgllab
