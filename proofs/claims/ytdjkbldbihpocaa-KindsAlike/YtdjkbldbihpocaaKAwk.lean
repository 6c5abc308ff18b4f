/- 'awake', the closed check in the statements of chapter 5, answers true wherever it is called. -/
import Derived.Test.YtdjkbldbihpocaaKBack
import Derived.Test.YtdjkbldbihpocaaKCol
namespace Go.Proofs.Ytdjkbldbihpocaa
open Go.RowKit Go.Shelf
set_option linter.unusedVariables false

def abcd : ByteArray := { data := #[97, 98, 32, 99, 100] }
def tab1 : ByteArray := { data := #[9] }
theorem ka1 (w : World) : Calls Try.prog 8 #[.int .i32 65] w fun e w' => e = .returned (.int .i32 97) ∧ w' = w := by
  have h := fold_any 65 w
  rwa [show foldK 65 = 97 by decide +kernel] at h
theorem ka2 (w : World) : Calls Try.prog 9 #[.int .i32 32] w fun e w' => e = .returned (.bool true) ∧ w' = w := by
  have h := blank_any 32 w
  rwa [show blankK 32 = true by decide +kernel] at h
theorem ka5 (w : World) : Calls Try.prog 11 #[.int .i32 8232] w fun e w' => e = .returned (.bool true) ∧ w' = w := by
  have h := kends_any 8232 w
  rwa [show endK 8232 = true by decide +kernel] at h
theorem ka6 (w : World) : Calls Try.prog 12 #[.int .i32 19990] w fun e w' => e = .returned (.int .i64 2) ∧ w' = w := by
  have h := width_any 19990 w
  rwa [show widthK 19990 = 2 by decide +kernel] at h
theorem ka7 (w : World) : Calls Try.prog 13 #[.string { data := #[97, 98, 32, 99, 100] }, .int .i64 0] w fun e w' => e = .returned (.int .i64 3) ∧ Below w.heap.size w w' := by
  have h := next_any abcd 0 w (by decide)
  rwa [show nextV (bl abcd) 0 = 3 by decide +kernel] at h
theorem ka8 (w : World) : Calls Try.prog 14 #[.string { data := #[97, 98, 32, 99, 100] }, .int .i64 5] w fun e w' => e = .returned (.int .i64 3) ∧ Below w.heap.size w w' := by
  have h := kback_any abcd 5 w (by decide)
  rwa [show backV (bl abcd) 5 = 3 by decide +kernel] at h
theorem ka9 (w : World) : Calls Try.prog 15 #[.string { data := #[9] }, .int .i64 3, .int .i64 8] w fun e w' => e = .returned (.int .i64 5) ∧ Below w.heap.size w w' := by
  have h := col_any tab1 3 8 w (by decide)
  rwa [show colV (bl tab1) 3 8 = 5 by decide +kernel] at h

set_option maxHeartbeats 2000000 in
theorem kawake_any (w : World) : Calls Try.prog 4 #[] w fun e w' => e = .returned (.bool true) ∧ Below w.heap.size w w' := by
  have hw1 : wordK 95 = true := by decide +kernel
  have hw2 : wordK 32 = false := by decide +kernel
  go_enter Try.func4, Try.ntmps4
  go_wp2_with (first | (go_at_call 8; refine (ka1 _).mono ?_; rintro e w1 ⟨rfl, rfl⟩) | (go_at_call 9; refine (ka2 _).mono ?_; rintro e w1 ⟨rfl, rfl⟩) | (go_at_call 10; refine (word_any _ _).mono ?_; rintro e w1 ⟨rfl, rfl⟩) | (go_at_call 11; refine (ka5 _).mono ?_; rintro e w1 ⟨rfl, rfl⟩) | (go_at_call 12; refine (ka6 _).mono ?_; rintro e w1 ⟨rfl, rfl⟩) | (go_at_call 13; refine (ka7 _).mono ?_; rintro e w7 ⟨rfl, hB7⟩) | (go_at_call 14; refine (ka8 _).mono ?_; rintro e w8 ⟨rfl, hB8⟩) | (go_at_call 15; refine (ka9 _).mono ?_; rintro e w9 ⟨rfl, hB9⟩))
  go_ret
  exact ⟨rfl, bseq (bseq hB7 hB8) hB9⟩
end Go.Proofs.Ytdjkbldbihpocaa
