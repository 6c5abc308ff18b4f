/-
  No cell of these rows narrows 'for every input' (looked for: loops, veiled, ifaces, maps, wideKeys, modest, calm, conditions, laid).
  DERIVED. THE GIVEN ROWS OF THIS SEAT. 6 by the template 'for every input the law returns true; each argument reads behind the call as it read before'; 0 by the template 'total and deterministic' (their statements: YtobemmfgpjgiaaaTotals.lean).
  GIVEN WITH THE SEED: the statements are not yours to turn. If you find one false, say at which input.
  Laid BY PROGRAM, IN A SANDBOX (cutbox-rows.mjs): the forced cells as the released guide's own fill.sh prints them over the translation 88411ad233a09190… (all of the seat's roots in one cut). By AI agents, Wed Nov 11 2026. No macro, syntax, notation, axiom, sorry.
-/
import Derived.Test.YtobemmfgpjgiaaaChecked
import GoSem.Claim
import GoSem.ClaimJoined
import GoSem.ClaimMapViews
import Derived.JoinedTies
import Derived.KernelRfl
namespace Go.Proofs.Ytobemmfgpjgiaaa
/- THE CELL 'sum', in the pinned program and in every row, IS THE sha256 OF THE DUMP (.gsa) THAT YtobemmfgpjgiaaaProg.lean LOADS. Nothing in Lean hashes anything: it is a label: what it is worth is what the hold of that sum in a sandbox is worth. -/
noncomputable def Try.pinned : Pinned := { name := "ytobemmfgpjgiaaa", sum := "88411ad233a091909fe5b07f4111106e648a72737b05ecb113d6c5d7a58656d9", checked := Try.checked }
namespace Rows
def none {H : Type} : Left H := { results := [], args := [] }

/-- 'vellumlaw05.KindsRunes': WHATEVER THE INPUT: true; the input reads as it did. -/
def kindsRunesSpec : ChangeSpec := { name := "kindsRunes", fn := fun _ => fun
  | [d] => { results := [.lit (.bool true)], args := [d] }
  | _ => none }
def kindsRunesRow : OpenClaim := { program := "ytobemmfgpjgiaaa", sum := "88411ad233a091909fe5b07f4111106e648a72737b05ecb113d6c5d7a58656d9", func := "vellum/vellumlaw05.KindsRunes", spec := "kindsRunes", unfollowed := true, recurses := true, apart := false }
def KindsRunesSaid : Prop := kindsRunesRow.holds Try.pinned (OpenSpec.ofChange kindsRunesSpec)

/-- ITS FALSE NEIGHBOUR: 'it returns false'. Refute it at one input. -/
def kindsRunesWrong : ChangeSpec := { name := "kindsRunes", fn := fun _ => fun
  | [d] => { results := [.lit (.bool false)], args := [d] }
  | _ => none }
def KindsRunesWrongFalsely : Prop := kindsRunesRow.holds Try.pinned (OpenSpec.ofChange kindsRunesWrong)

/-- 'vellumlaw05.KindsLikes': WHATEVER THE INPUT: true; the input reads as it did. -/
def kindsLikesSpec : ChangeSpec := { name := "kindsLikes", fn := fun _ => fun
  | [d1, d2] => { results := [.lit (.bool true)], args := [d1, d2] }
  | _ => none }
def kindsLikesRow : OpenClaim := { program := "ytobemmfgpjgiaaa", sum := "88411ad233a091909fe5b07f4111106e648a72737b05ecb113d6c5d7a58656d9", func := "vellum/vellumlaw05.KindsLikes", spec := "kindsLikes", unfollowed := true, recurses := true, apart := false }
def KindsLikesSaid : Prop := kindsLikesRow.holds Try.pinned (OpenSpec.ofChange kindsLikesSpec)

/-- ITS FALSE NEIGHBOUR: 'it returns false'. Refute it at one input. -/
def kindsLikesWrong : ChangeSpec := { name := "kindsLikes", fn := fun _ => fun
  | [d1, d2] => { results := [.lit (.bool false)], args := [d1, d2] }
  | _ => none }
def KindsLikesWrongFalsely : Prop := kindsLikesRow.holds Try.pinned (OpenSpec.ofChange kindsLikesWrong)

/-- 'vellumlaw05.KindsStops': WHATEVER THE INPUT: true; the input reads as it did. -/
def kindsStopsSpec : ChangeSpec := { name := "kindsStops", fn := fun _ => fun
  | [d1, d2] => { results := [.lit (.bool true)], args := [d1, d2] }
  | _ => none }
def kindsStopsRow : OpenClaim := { program := "ytobemmfgpjgiaaa", sum := "88411ad233a091909fe5b07f4111106e648a72737b05ecb113d6c5d7a58656d9", func := "vellum/vellumlaw05.KindsStops", spec := "kindsStops", unfollowed := true, recurses := true, apart := false }
def KindsStopsSaid : Prop := kindsStopsRow.holds Try.pinned (OpenSpec.ofChange kindsStopsSpec)

/-- ITS FALSE NEIGHBOUR: 'it returns false'. Refute it at one input. -/
def kindsStopsWrong : ChangeSpec := { name := "kindsStops", fn := fun _ => fun
  | [d1, d2] => { results := [.lit (.bool false)], args := [d1, d2] }
  | _ => none }
def KindsStopsWrongFalsely : Prop := kindsStopsRow.holds Try.pinned (OpenSpec.ofChange kindsStopsWrong)

/-- 'vellumlaw05.KindsColumns': WHATEVER THE INPUT: true; the input reads as it did. -/
def kindsColumnsSpec : ChangeSpec := { name := "kindsColumns", fn := fun _ => fun
  | [d1, d2, d3] => { results := [.lit (.bool true)], args := [d1, d2, d3] }
  | _ => none }
def kindsColumnsRow : OpenClaim := { program := "ytobemmfgpjgiaaa", sum := "88411ad233a091909fe5b07f4111106e648a72737b05ecb113d6c5d7a58656d9", func := "vellum/vellumlaw05.KindsColumns", spec := "kindsColumns", unfollowed := true, recurses := true, apart := false }
def KindsColumnsSaid : Prop := kindsColumnsRow.holds Try.pinned (OpenSpec.ofChange kindsColumnsSpec)

/-- ITS FALSE NEIGHBOUR: 'it returns false'. Refute it at one input. -/
def kindsColumnsWrong : ChangeSpec := { name := "kindsColumns", fn := fun _ => fun
  | [d1, d2, d3] => { results := [.lit (.bool false)], args := [d1, d2, d3] }
  | _ => none }
def KindsColumnsWrongFalsely : Prop := kindsColumnsRow.holds Try.pinned (OpenSpec.ofChange kindsColumnsWrong)

/-- 'vellumlaw05.KindsParts': WHATEVER THE INPUT: true; the input reads as it did. -/
def kindsPartsSpec : ChangeSpec := { name := "kindsParts", fn := fun _ => fun
  | [d] => { results := [.lit (.bool true)], args := [d] }
  | _ => none }
def kindsPartsRow : OpenClaim := { program := "ytobemmfgpjgiaaa", sum := "88411ad233a091909fe5b07f4111106e648a72737b05ecb113d6c5d7a58656d9", func := "vellum/vellumlaw05.KindsParts", spec := "kindsParts", unfollowed := true, recurses := true, apart := false }
def KindsPartsSaid : Prop := kindsPartsRow.holds Try.pinned (OpenSpec.ofChange kindsPartsSpec)

/-- ITS FALSE NEIGHBOUR: 'it returns false'. Refute it at one input. -/
def kindsPartsWrong : ChangeSpec := { name := "kindsParts", fn := fun _ => fun
  | [d] => { results := [.lit (.bool false)], args := [d] }
  | _ => none }
def KindsPartsWrongFalsely : Prop := kindsPartsRow.holds Try.pinned (OpenSpec.ofChange kindsPartsWrong)

/-- 'vellumlaw05.KindsAlike': WHATEVER THE INPUT: true; the input reads as it did. -/
def kindsAlikeSpec : ChangeSpec := { name := "kindsAlike", fn := fun _ => fun
  | [d1, d2, d3] => { results := [.lit (.bool true)], args := [d1, d2, d3] }
  | _ => none }
def kindsAlikeRow : OpenClaim := { program := "ytobemmfgpjgiaaa", sum := "88411ad233a091909fe5b07f4111106e648a72737b05ecb113d6c5d7a58656d9", func := "vellum/vellumlaw05.KindsAlike", spec := "kindsAlike", unfollowed := true, recurses := true, apart := false }
def KindsAlikeSaid : Prop := kindsAlikeRow.holds Try.pinned (OpenSpec.ofChange kindsAlikeSpec)

/-- ITS FALSE NEIGHBOUR: 'it returns false'. Refute it at one input. -/
def kindsAlikeWrong : ChangeSpec := { name := "kindsAlike", fn := fun _ => fun
  | [d1, d2, d3] => { results := [.lit (.bool false)], args := [d1, d2, d3] }
  | _ => none }
def KindsAlikeWrongFalsely : Prop := kindsAlikeRow.holds Try.pinned (OpenSpec.ofChange kindsAlikeWrong)

/- THE SECOND FORM. 'bulk': how many values and letters a reading holds, each counted each time it is reached (what is shared counts as often as it is met; a slice's spare places count too). A statement '..UptoSaid' is the law's where the arguments, and the package variables that the reading takes, are together of bulk at most 1048576: NARROWER than '..Said'. Prove '..Said' where nothing that the law and all that it calls make is longer than what came in: it says more and counts as full. Else prove '..UptoSaid'. A law counts once. -/
mutual
def uptoBulk {H : Type} : DataW H → Nat
  | .lit (.string bytes) => bytes.length + 1
  | .lit _ => 1
  | .nil => 1
  | .ptr d => uptoBulk d + 1
  | .slice elems spare => uptoBulkAll elems + uptoBulkAll spare + 1
  | .agg parts => uptoBulkAll parts + 1
  | .iface _ d => uptoBulk d + 1
  | .map entries => uptoBulkEntries entries + 1
  | .held _ => 1
def uptoBulkAll {H : Type} : List (DataW H) → Nat
  | [] => 0
  | d :: r => uptoBulk d + uptoBulkAll r
def uptoBulkEntries {H : Type} : List (Lit × DataW H) → Nat
  | [] => 0
  | x :: r => uptoBulkEntry x + uptoBulkEntries r
def uptoBulkEntry {H : Type} : Lit × DataW H → Nat
  | (.string bytes, d) => bytes.length + uptoBulk d + 1
  | (_, d) => uptoBulk d + 1
 end
def uptoSmall : (H : Type) → List (DataW H) → Bool := fun _ ds => decide (uptoBulkAll ds ≤ 1048576)
def OpenSpec.upto (s : _root_.Go.ChangeSpec) : _root_.Go.OpenSpec := { _root_.Go.OpenSpec.ofChange s with cond := some uptoSmall }

/-- 'vellumlaw05.KindsRunes', WHERE WHAT IT READS IS OF BULK AT MOST 1048576: true; the input reads as it did. -/
def kindsRunesUptoRow : OpenClaim := { program := "ytobemmfgpjgiaaa", sum := "88411ad233a091909fe5b07f4111106e648a72737b05ecb113d6c5d7a58656d9", func := "vellum/vellumlaw05.KindsRunes", spec := "kindsRunes", unfollowed := true, recurses := true, apart := false, narrowed := true }
def KindsRunesUptoSaid : Prop := kindsRunesUptoRow.holds Try.pinned (OpenSpec.upto kindsRunesSpec)

/-- 'vellumlaw05.KindsLikes', WHERE WHAT IT READS IS OF BULK AT MOST 1048576: true; the input reads as it did. -/
def kindsLikesUptoRow : OpenClaim := { program := "ytobemmfgpjgiaaa", sum := "88411ad233a091909fe5b07f4111106e648a72737b05ecb113d6c5d7a58656d9", func := "vellum/vellumlaw05.KindsLikes", spec := "kindsLikes", unfollowed := true, recurses := true, apart := false, narrowed := true }
def KindsLikesUptoSaid : Prop := kindsLikesUptoRow.holds Try.pinned (OpenSpec.upto kindsLikesSpec)

/-- 'vellumlaw05.KindsStops', WHERE WHAT IT READS IS OF BULK AT MOST 1048576: true; the input reads as it did. -/
def kindsStopsUptoRow : OpenClaim := { program := "ytobemmfgpjgiaaa", sum := "88411ad233a091909fe5b07f4111106e648a72737b05ecb113d6c5d7a58656d9", func := "vellum/vellumlaw05.KindsStops", spec := "kindsStops", unfollowed := true, recurses := true, apart := false, narrowed := true }
def KindsStopsUptoSaid : Prop := kindsStopsUptoRow.holds Try.pinned (OpenSpec.upto kindsStopsSpec)

/-- 'vellumlaw05.KindsColumns', WHERE WHAT IT READS IS OF BULK AT MOST 1048576: true; the input reads as it did. -/
def kindsColumnsUptoRow : OpenClaim := { program := "ytobemmfgpjgiaaa", sum := "88411ad233a091909fe5b07f4111106e648a72737b05ecb113d6c5d7a58656d9", func := "vellum/vellumlaw05.KindsColumns", spec := "kindsColumns", unfollowed := true, recurses := true, apart := false, narrowed := true }
def KindsColumnsUptoSaid : Prop := kindsColumnsUptoRow.holds Try.pinned (OpenSpec.upto kindsColumnsSpec)

/-- 'vellumlaw05.KindsParts', WHERE WHAT IT READS IS OF BULK AT MOST 1048576: true; the input reads as it did. -/
def kindsPartsUptoRow : OpenClaim := { program := "ytobemmfgpjgiaaa", sum := "88411ad233a091909fe5b07f4111106e648a72737b05ecb113d6c5d7a58656d9", func := "vellum/vellumlaw05.KindsParts", spec := "kindsParts", unfollowed := true, recurses := true, apart := false, narrowed := true }
def KindsPartsUptoSaid : Prop := kindsPartsUptoRow.holds Try.pinned (OpenSpec.upto kindsPartsSpec)

/-- 'vellumlaw05.KindsAlike', WHERE WHAT IT READS IS OF BULK AT MOST 1048576: true; the input reads as it did. -/
def kindsAlikeUptoRow : OpenClaim := { program := "ytobemmfgpjgiaaa", sum := "88411ad233a091909fe5b07f4111106e648a72737b05ecb113d6c5d7a58656d9", func := "vellum/vellumlaw05.KindsAlike", spec := "kindsAlike", unfollowed := true, recurses := true, apart := false, narrowed := true }
def KindsAlikeUptoSaid : Prop := kindsAlikeUptoRow.holds Try.pinned (OpenSpec.upto kindsAlikeSpec)

end Rows
end Go.Proofs.Ytobemmfgpjgiaaa
