/- The road of KindsColumns: of every text, column and tab it returns true, and writes nothing that was there. -/
import Derived.Test.YtobemmfgpjgiaaaKRCol
namespace Go.Proofs.Ytobemmfgpjgiaaa.kindsColumns
open Go.RowKit Go.Shelf Go.Proofs.Ytobemmfgpjgiaaa
set_option linter.unusedVariables false

set_option maxHeartbeats 2000000 in
theorem walk (s : ByteArray) (f tab : Int) (w : World) (hs : s.size ≤ 1048576) :
    Calls Try.prog 6 #[.string s, .int .i64 f, .int .i64 tab] w fun e w' => e = .returned (.bool true) ∧ Below w.heap.size w w' := by
  have HB := hide (Below.refl w.heap.size w)
  have hs2 : s.size ≤ 281474976710656 := by omega
  go_enter Try.func6, Try.ntmps6
  go_wp2_with (first | (go_at_call 26; refine (col_any _ _ _ _ hs2).mono ?_; rintro e w1 ⟨rfl, hB1⟩; replace HB := hide (bseq HB.out hB1); clear hB1) | (go_at_call 27; refine (rcol_any _ _ _ _ hs).mono ?_; rintro e w1 ⟨rfl, hB1⟩; replace HB := hide (bseq HB.out hB1); clear hB1) | (go_at_call 19; refine (kawake_any _).mono ?_; rintro e w1 ⟨rfl, hB1⟩; replace HB := hide (bseq HB.out hB1); clear hB1))
  go_ret
  exact ⟨rfl, HB.out⟩
end Go.Proofs.Ytobemmfgpjgiaaa.kindsColumns
