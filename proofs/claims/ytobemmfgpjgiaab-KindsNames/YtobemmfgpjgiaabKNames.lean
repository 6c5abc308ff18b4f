/- The road of KindsNames: it returns true, and writes nothing that was there. -/
import Derived.Test.YtobemmfgpjgiaabKAwk
import Derived.Test.YtobemmfgpjgiaabKAlk
namespace Go.Proofs.Ytobemmfgpjgiaab.kindsNames
open Go.RowKit Go.Shelf Go.Proofs.Ytobemmfgpjgiaab
set_option linter.unusedVariables false

set_option maxHeartbeats 4000000 in
theorem walk (w : World) : Calls Try.prog 5 #[] w fun e w' => e = .returned (.bool true) ∧ Below w.heap.size w w' := by
  have f1 : foldK 215 = 215 := by decide +kernel
  have f2 : foldK 304 = 304 := by decide +kernel
  have f3 : foldK 376 = 255 := by decide +kernel
  have f4 : foldK 962 = 963 := by decide +kernel
  have f5 : foldK 7838 = 223 := by decide +kernel
  have f6 : foldK 66560 = 66600 := by decide +kernel
  have g1 : widthK 0 = 0 := by decide +kernel
  have g2 : widthK 769 = 0 := by decide +kernel
  have g3 : widthK 128512 = 2 := by decide +kernel
  have g4 : widthK 65533 = 1 := by decide +kernel
  have g5 : widthK (-1) = 1 := by decide +kernel
  have a1 : alikeV (bl { data := #[255] }) (bl { data := #[255] }) = true := by decide +kernel
  have a2 : alikeV (bl { data := #[255] }) (bl { data := #[254] }) = false := by decide +kernel
  have a3 : alikeV (bl { data := #[255] }) (bl { data := #[239, 191, 189] }) = false := by decide +kernel
  have a4 : alikeV (bl { data := #[] }) (bl { data := #[97] }) = false := by decide +kernel
  have c1 : colV (bl { data := #[9] }) 3 99 = 13 := by decide +kernel
  have c2 : colV (bl { data := #[97] }) (-5) 8 = 1 := by decide +kernel
  have HB := hide (Below.refl w.heap.size w)
  go_enter Try.func5, Try.ntmps5
  go_wp2_with (first | (go_at_call 15; refine (fold_any _ _).mono ?_; rintro e w1 ⟨rfl, rfl⟩) | (go_at_call 14; refine (width_any _ _).mono ?_; rintro e w1 ⟨rfl, rfl⟩) | (go_at_call 16; refine (alike_any _ _ _ (by decide) (by decide)).mono ?_; rintro e w1 ⟨rfl, hB1⟩; replace HB := hide (bseq HB.out hB1); clear hB1) | (go_at_call 13; refine (col_any _ _ _ _ (by decide)).mono ?_; rintro e w1 ⟨rfl, hB1⟩; replace HB := hide (bseq HB.out hB1); clear hB1) | (go_at_call 6; refine (kawake_any _).mono ?_; rintro e w1 ⟨rfl, hB1⟩; replace HB := hide (bseq HB.out hB1); clear hB1))
  go_ret
  exact ⟨rfl, HB.out⟩
end Go.Proofs.Ytobemmfgpjgiaab.kindsNames
