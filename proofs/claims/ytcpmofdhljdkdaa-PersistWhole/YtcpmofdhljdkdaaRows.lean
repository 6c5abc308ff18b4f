/-
  No cell of these rows narrows 'for every input' (looked for: loops, veiled, ifaces, maps, wideKeys, modest, calm, conditions, laid).
  DERIVED. THE GIVEN ROWS OF THIS SEAT. 3 by the template 'for every input the law returns true; each argument reads behind the call as it read before'; 0 by the template 'total and deterministic' (their statements: YtcpmofdhljdkdaaTotals.lean).
  GIVEN WITH THE SEED: the statements are not yours to turn. If you find one false, say at which input.
  Laid BY PROGRAM, IN A SANDBOX (cutbox-rows.mjs): the forced cells as the released guide's own fill.sh prints them over the translation 823cb5c0e28bf420… (all of the seat's roots in one cut). By AI agents, Wed Nov 11 2026. No macro, syntax, notation, axiom, sorry.
-/
import Derived.Test.YtcpmofdhljdkdaaChecked
import GoSem.Claim
import GoSem.ClaimJoined
import GoSem.ClaimMapViews
import Derived.JoinedTies
import Derived.KernelRfl
namespace Go.Proofs.Ytcpmofdhljdkdaa
/- THE CELL 'sum', in the pinned program and in every row, IS THE sha256 OF THE DUMP (.gsa) THAT YtcpmofdhljdkdaaProg.lean LOADS. Nothing in Lean hashes anything: it is a label: what it is worth is what the hold of that sum in a sandbox is worth. -/
noncomputable def Try.pinned : Pinned := { name := "ytcpmofdhljdkdaa", sum := "823cb5c0e28bf4204e5159015f21d1af95adaf244b3fd93db9b174e06ca238a0", checked := Try.checked }
namespace Rows
def none {H : Type} : Left H := { results := [], args := [] }

/-- 'vellumlaw09.PersistNames': WHATEVER THE INPUT: true; the input reads as it did. -/
def persistNamesSpec : ChangeSpec := { name := "persistNames", fn := fun _ => fun
  | [] => { results := [.lit (.bool true)], args := [] }
  | _ => none }
def persistNamesRow : OpenClaim := { program := "ytcpmofdhljdkdaa", sum := "823cb5c0e28bf4204e5159015f21d1af95adaf244b3fd93db9b174e06ca238a0", func := "vellum/vellumlaw09.PersistNames", spec := "persistNames", unfollowed := true, recurses := true, apart := false }
def PersistNamesSaid : Prop := persistNamesRow.holds Try.pinned (OpenSpec.ofChange persistNamesSpec)

/-- ITS FALSE NEIGHBOUR: 'it returns false'. Refute it at one input. -/
def persistNamesWrong : ChangeSpec := { name := "persistNames", fn := fun _ => fun
  | [] => { results := [.lit (.bool false)], args := [] }
  | _ => none }
def PersistNamesWrongFalsely : Prop := persistNamesRow.holds Try.pinned (OpenSpec.ofChange persistNamesWrong)

/-- 'vellumlaw09.PersistLasts': WHATEVER THE INPUT: true; the input reads as it did. -/
def persistLastsSpec : ChangeSpec := { name := "persistLasts", fn := fun _ => fun
  | [d] => { results := [.lit (.bool true)], args := [d] }
  | _ => none }
def persistLastsRow : OpenClaim := { program := "ytcpmofdhljdkdaa", sum := "823cb5c0e28bf4204e5159015f21d1af95adaf244b3fd93db9b174e06ca238a0", func := "vellum/vellumlaw09.PersistLasts", spec := "persistLasts", unfollowed := true, recurses := true, apart := false }
def PersistLastsSaid : Prop := persistLastsRow.holds Try.pinned (OpenSpec.ofChange persistLastsSpec)

/-- ITS FALSE NEIGHBOUR: 'it returns false'. Refute it at one input. -/
def persistLastsWrong : ChangeSpec := { name := "persistLasts", fn := fun _ => fun
  | [d] => { results := [.lit (.bool false)], args := [d] }
  | _ => none }
def PersistLastsWrongFalsely : Prop := persistLastsRow.holds Try.pinned (OpenSpec.ofChange persistLastsWrong)

/-- 'vellumlaw09.PersistWhole': WHATEVER THE INPUT: true; the input reads as it did. -/
def persistWholeSpec : ChangeSpec := { name := "persistWhole", fn := fun _ => fun
  | [d] => { results := [.lit (.bool true)], args := [d] }
  | _ => none }
def persistWholeRow : OpenClaim := { program := "ytcpmofdhljdkdaa", sum := "823cb5c0e28bf4204e5159015f21d1af95adaf244b3fd93db9b174e06ca238a0", func := "vellum/vellumlaw09.PersistWhole", spec := "persistWhole", unfollowed := true, recurses := true, apart := false }
def PersistWholeSaid : Prop := persistWholeRow.holds Try.pinned (OpenSpec.ofChange persistWholeSpec)

/-- ITS FALSE NEIGHBOUR: 'it returns false'. Refute it at one input. -/
def persistWholeWrong : ChangeSpec := { name := "persistWhole", fn := fun _ => fun
  | [d] => { results := [.lit (.bool false)], args := [d] }
  | _ => none }
def PersistWholeWrongFalsely : Prop := persistWholeRow.holds Try.pinned (OpenSpec.ofChange persistWholeWrong)

/- THE SECOND FORM. 'bulk': how many values and letters a reading holds, each counted each time it is reached (what is shared counts as often as it is met; a slice's spare places count too). A statement '..UptoSaid' is the law's where the arguments, and the package variables that the reading takes, are together of bulk at most 1048576: NARROWER than '..Said'. Prove '..Said' where nothing that the law and all that it calls make is longer than what came in: it says more and counts as full. Else prove '..UptoSaid'. A law counts once. -/
mutual
def uptoBulk {H : Type} : DataW H → Nat
  | .lit (.string bytes) => bytes.length + 1
  | .lit _ => 1
  | .nil => 1
  | .ptr d => uptoBulk d + 1
  | .slice elems spare => uptoBulkAll elems + uptoBulkAll spare + 1
  | .agg parts => uptoBulkAll parts + 1
  | .iface _ d => uptoBulk d + 1
  | .map entries => uptoBulkEntries entries + 1
  | .held _ => 1
def uptoBulkAll {H : Type} : List (DataW H) → Nat
  | [] => 0
  | d :: r => uptoBulk d + uptoBulkAll r
def uptoBulkEntries {H : Type} : List (Lit × DataW H) → Nat
  | [] => 0
  | x :: r => uptoBulkEntry x + uptoBulkEntries r
def uptoBulkEntry {H : Type} : Lit × DataW H → Nat
  | (.string bytes, d) => bytes.length + uptoBulk d + 1
  | (_, d) => uptoBulk d + 1
 end
def uptoSmall : (H : Type) → List (DataW H) → Bool := fun _ ds => decide (uptoBulkAll ds ≤ 1048576)
def OpenSpec.upto (s : _root_.Go.ChangeSpec) : _root_.Go.OpenSpec := { _root_.Go.OpenSpec.ofChange s with cond := some uptoSmall }

/-- 'vellumlaw09.PersistNames', WHERE WHAT IT READS IS OF BULK AT MOST 1048576: true; the input reads as it did. -/
def persistNamesUptoRow : OpenClaim := { program := "ytcpmofdhljdkdaa", sum := "823cb5c0e28bf4204e5159015f21d1af95adaf244b3fd93db9b174e06ca238a0", func := "vellum/vellumlaw09.PersistNames", spec := "persistNames", unfollowed := true, recurses := true, apart := false, narrowed := true }
def PersistNamesUptoSaid : Prop := persistNamesUptoRow.holds Try.pinned (OpenSpec.upto persistNamesSpec)

/-- 'vellumlaw09.PersistLasts', WHERE WHAT IT READS IS OF BULK AT MOST 1048576: true; the input reads as it did. -/
def persistLastsUptoRow : OpenClaim := { program := "ytcpmofdhljdkdaa", sum := "823cb5c0e28bf4204e5159015f21d1af95adaf244b3fd93db9b174e06ca238a0", func := "vellum/vellumlaw09.PersistLasts", spec := "persistLasts", unfollowed := true, recurses := true, apart := false, narrowed := true }
def PersistLastsUptoSaid : Prop := persistLastsUptoRow.holds Try.pinned (OpenSpec.upto persistLastsSpec)

/-- 'vellumlaw09.PersistWhole', WHERE WHAT IT READS IS OF BULK AT MOST 1048576: true; the input reads as it did. -/
def persistWholeUptoRow : OpenClaim := { program := "ytcpmofdhljdkdaa", sum := "823cb5c0e28bf4204e5159015f21d1af95adaf244b3fd93db9b174e06ca238a0", func := "vellum/vellumlaw09.PersistWhole", spec := "persistWhole", unfollowed := true, recurses := true, apart := false, narrowed := true }
def PersistWholeUptoSaid : Prop := persistWholeUptoRow.holds Try.pinned (OpenSpec.upto persistWholeSpec)

end Rows
end Go.Proofs.Ytcpmofdhljdkdaa
