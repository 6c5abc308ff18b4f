/- The road of KindsRunes: for every rune it returns true, and writes nothing that was there. -/
import Derived.Test.YtihfnnhfpohakaaKAwk
import Derived.Test.YtihfnnhfpohakaaKRef4
namespace Go.Proofs.Ytihfnnhfpohakaa
open Go.RowKit
set_option linter.unusedVariables false
theorem rblankK (r : Int) (w : World) : Calls Try.prog 37 #[.int .i32 r] w fun e w' => e = .returned (.bool (blankK r)) ∧ Below w.heap.size w w' := by
  have h := rblank_any r w
  rwa [blank_same] at h
theorem rwordK (r : Int) (w : World) : Calls Try.prog 38 #[.int .i32 r] w fun e w' => e = .returned (.bool (wordK r)) ∧ Below w.heap.size w w' := by
  have h := rword_any r w
  rwa [word_same] at h
end Go.Proofs.Ytihfnnhfpohakaa
namespace Go.Proofs.Ytihfnnhfpohakaa.kindsRunes
open Go.RowKit Go.Shelf Go.Proofs.Ytihfnnhfpohakaa
end Go.Proofs.Ytihfnnhfpohakaa.kindsRunes
