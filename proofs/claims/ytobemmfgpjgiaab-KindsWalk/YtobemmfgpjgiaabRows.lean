/-
  No cell of these rows narrows 'for every input' (looked for: loops, veiled, ifaces, maps, wideKeys, modest, calm, conditions, laid).
  DERIVED. THE GIVEN ROWS OF THIS SEAT. 3 by the template 'for every input the law returns true; each argument reads behind the call as it read before'; 0 by the template 'total and deterministic' (their statements: YtobemmfgpjgiaabTotals.lean).
  GIVEN WITH THE SEED: the statements are not yours to turn. If you find one false, say at which input.
  Laid BY PROGRAM, IN A SANDBOX (cutbox-rows.mjs): the forced cells as the released guide's own fill.sh prints them over the translation 7da0c3062a691003… (all of the seat's roots in one cut). By AI agents, Wed Nov 11 2026. No macro, syntax, notation, axiom, sorry.
-/
import Derived.Test.YtobemmfgpjgiaabChecked
import GoSem.Claim
import GoSem.ClaimJoined
import GoSem.ClaimMapViews
import Derived.JoinedTies
import Derived.KernelRfl
namespace Go.Proofs.Ytobemmfgpjgiaab
/- THE CELL 'sum', in the pinned program and in every row, IS THE sha256 OF THE DUMP (.gsa) THAT YtobemmfgpjgiaabProg.lean LOADS. Nothing in Lean hashes anything: it is a label: what it is worth is what the hold of that sum in a sandbox is worth. -/
noncomputable def Try.pinned : Pinned := { name := "ytobemmfgpjgiaab", sum := "7da0c3062a6910031ec3d723fd1fc8bc16c72b5602ae26cccca2b0744f189f5c", checked := Try.checked }
namespace Rows
def none {H : Type} : Left H := { results := [], args := [] }

/-- 'vellumlaw05.KindsWalk': WHATEVER THE INPUT: true; the input reads as it did. -/
def kindsWalkSpec : ChangeSpec := { name := "kindsWalk", fn := fun _ => fun
  | [d1, d2] => { results := [.lit (.bool true)], args := [d1, d2] }
  | _ => none }
def kindsWalkRow : OpenClaim := { program := "ytobemmfgpjgiaab", sum := "7da0c3062a6910031ec3d723fd1fc8bc16c72b5602ae26cccca2b0744f189f5c", func := "vellum/vellumlaw05.KindsWalk", spec := "kindsWalk", unfollowed := true, recurses := true, apart := false }
def KindsWalkSaid : Prop := kindsWalkRow.holds Try.pinned (OpenSpec.ofChange kindsWalkSpec)

/-- ITS FALSE NEIGHBOUR: 'it returns false'. Refute it at one input. -/
def kindsWalkWrong : ChangeSpec := { name := "kindsWalk", fn := fun _ => fun
  | [d1, d2] => { results := [.lit (.bool false)], args := [d1, d2] }
  | _ => none }
def KindsWalkWrongFalsely : Prop := kindsWalkRow.holds Try.pinned (OpenSpec.ofChange kindsWalkWrong)

/-- 'vellumlaw05.KindsAdd': WHATEVER THE INPUT: true; the input reads as it did. -/
def kindsAddSpec : ChangeSpec := { name := "kindsAdd", fn := fun _ => fun
  | [d] => { results := [.lit (.bool true)], args := [d] }
  | _ => none }
def kindsAddRow : OpenClaim := { program := "ytobemmfgpjgiaab", sum := "7da0c3062a6910031ec3d723fd1fc8bc16c72b5602ae26cccca2b0744f189f5c", func := "vellum/vellumlaw05.KindsAdd", spec := "kindsAdd", unfollowed := true, recurses := true, apart := false }
def KindsAddSaid : Prop := kindsAddRow.holds Try.pinned (OpenSpec.ofChange kindsAddSpec)

/-- ITS FALSE NEIGHBOUR: 'it returns false'. Refute it at one input. -/
def kindsAddWrong : ChangeSpec := { name := "kindsAdd", fn := fun _ => fun
  | [d] => { results := [.lit (.bool false)], args := [d] }
  | _ => none }
def KindsAddWrongFalsely : Prop := kindsAddRow.holds Try.pinned (OpenSpec.ofChange kindsAddWrong)

/-- 'vellumlaw05.KindsNames': WHATEVER THE INPUT: true; the input reads as it did. -/
def kindsNamesSpec : ChangeSpec := { name := "kindsNames", fn := fun _ => fun
  | [] => { results := [.lit (.bool true)], args := [] }
  | _ => none }
def kindsNamesRow : OpenClaim := { program := "ytobemmfgpjgiaab", sum := "7da0c3062a6910031ec3d723fd1fc8bc16c72b5602ae26cccca2b0744f189f5c", func := "vellum/vellumlaw05.KindsNames", spec := "kindsNames", unfollowed := true, recurses := true, apart := false }
def KindsNamesSaid : Prop := kindsNamesRow.holds Try.pinned (OpenSpec.ofChange kindsNamesSpec)

/-- ITS FALSE NEIGHBOUR: 'it returns false'. Refute it at one input. -/
def kindsNamesWrong : ChangeSpec := { name := "kindsNames", fn := fun _ => fun
  | [] => { results := [.lit (.bool false)], args := [] }
  | _ => none }
def KindsNamesWrongFalsely : Prop := kindsNamesRow.holds Try.pinned (OpenSpec.ofChange kindsNamesWrong)

/- THE SECOND FORM. 'bulk': how many values and letters a reading holds, each counted each time it is reached (what is shared counts as often as it is met; a slice's spare places count too). A statement '..UptoSaid' is the law's where the arguments, and the package variables that the reading takes, are together of bulk at most 1048576: NARROWER than '..Said'. Prove '..Said' where nothing that the law and all that it calls make is longer than what came in: it says more and counts as full. Else prove '..UptoSaid'. A law counts once. -/
mutual
def uptoBulk {H : Type} : DataW H → Nat
  | .lit (.string bytes) => bytes.length + 1
  | .lit _ => 1
  | .nil => 1
  | .ptr d => uptoBulk d + 1
  | .slice elems spare => uptoBulkAll elems + uptoBulkAll spare + 1
  | .agg parts => uptoBulkAll parts + 1
  | .iface _ d => uptoBulk d + 1
  | .map entries => uptoBulkEntries entries + 1
  | .held _ => 1
def uptoBulkAll {H : Type} : List (DataW H) → Nat
  | [] => 0
  | d :: r => uptoBulk d + uptoBulkAll r
def uptoBulkEntries {H : Type} : List (Lit × DataW H) → Nat
  | [] => 0
  | x :: r => uptoBulkEntry x + uptoBulkEntries r
def uptoBulkEntry {H : Type} : Lit × DataW H → Nat
  | (.string bytes, d) => bytes.length + uptoBulk d + 1
  | (_, d) => uptoBulk d + 1
 end
def uptoSmall : (H : Type) → List (DataW H) → Bool := fun _ ds => decide (uptoBulkAll ds ≤ 1048576)
def OpenSpec.upto (s : _root_.Go.ChangeSpec) : _root_.Go.OpenSpec := { _root_.Go.OpenSpec.ofChange s with cond := some uptoSmall }

/-- 'vellumlaw05.KindsWalk', WHERE WHAT IT READS IS OF BULK AT MOST 1048576: true; the input reads as it did. -/
def kindsWalkUptoRow : OpenClaim := { program := "ytobemmfgpjgiaab", sum := "7da0c3062a6910031ec3d723fd1fc8bc16c72b5602ae26cccca2b0744f189f5c", func := "vellum/vellumlaw05.KindsWalk", spec := "kindsWalk", unfollowed := true, recurses := true, apart := false, narrowed := true }
def KindsWalkUptoSaid : Prop := kindsWalkUptoRow.holds Try.pinned (OpenSpec.upto kindsWalkSpec)

/-- 'vellumlaw05.KindsAdd', WHERE WHAT IT READS IS OF BULK AT MOST 1048576: true; the input reads as it did. -/
def kindsAddUptoRow : OpenClaim := { program := "ytobemmfgpjgiaab", sum := "7da0c3062a6910031ec3d723fd1fc8bc16c72b5602ae26cccca2b0744f189f5c", func := "vellum/vellumlaw05.KindsAdd", spec := "kindsAdd", unfollowed := true, recurses := true, apart := false, narrowed := true }
def KindsAddUptoSaid : Prop := kindsAddUptoRow.holds Try.pinned (OpenSpec.upto kindsAddSpec)

/-- 'vellumlaw05.KindsNames', WHERE WHAT IT READS IS OF BULK AT MOST 1048576: true; the input reads as it did. -/
def kindsNamesUptoRow : OpenClaim := { program := "ytobemmfgpjgiaab", sum := "7da0c3062a6910031ec3d723fd1fc8bc16c72b5602ae26cccca2b0744f189f5c", func := "vellum/vellumlaw05.KindsNames", spec := "kindsNames", unfollowed := true, recurses := true, apart := false, narrowed := true }
def KindsNamesUptoSaid : Prop := kindsNamesUptoRow.holds Try.pinned (OpenSpec.upto kindsNamesSpec)

end Rows
end Go.Proofs.Ytobemmfgpjgiaab
