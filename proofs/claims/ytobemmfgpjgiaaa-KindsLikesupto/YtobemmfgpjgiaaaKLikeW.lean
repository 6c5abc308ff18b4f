/- The road of KindsLikes: of every two texts it returns true, and writes nothing that was there. -/
import Derived.Test.YtobemmfgpjgiaaaKRLike
namespace Go.Proofs.Ytobemmfgpjgiaaa.kindsLikes
open Go.RowKit Go.Shelf Go.Proofs.Ytobemmfgpjgiaaa
set_option linter.unusedVariables false

set_option maxHeartbeats 2000000 in
theorem walk (a b : ByteArray) (w : World) (ha : a.size ≤ 1048576) (hb : b.size ≤ 1048576) :
    Calls Try.prog 4 #[.string a, .string b] w fun e w' => e = .returned (.bool true) ∧ Below w.heap.size w w' := by
  have HB := hide (Below.refl w.heap.size w)
  have ha2 : a.size ≤ 9223372036854775807 := by omega
  have hb2 : b.size ≤ 9223372036854775807 := by omega
  have h1 := alike_comm (bl a) (bl b)
  have h2 := alike_self (bl a)
  go_enter Try.func4, Try.ntmps4
  go_wp2_with (first | (go_at_call 21; refine (alike_any _ _ _ (by assumption) (by assumption)).mono ?_; rintro e w1 ⟨rfl, hB1⟩; replace HB := hide (bseq HB.out hB1); clear hB1) | (go_at_call 20; refine (rlike_any _ _ _ ha hb).mono ?_; rintro e w1 ⟨rfl, hB1⟩; replace HB := hide (bseq HB.out hB1); clear hB1) | (go_at_call 19; refine (kawake_any _).mono ?_; rintro e w1 ⟨rfl, hB1⟩; replace HB := hide (bseq HB.out hB1); clear hB1))
  all_goals first | (go_ret; exact ⟨rfl, HB.out⟩) | (exfalso; simp_all; done)
end Go.Proofs.Ytobemmfgpjgiaaa.kindsLikes
