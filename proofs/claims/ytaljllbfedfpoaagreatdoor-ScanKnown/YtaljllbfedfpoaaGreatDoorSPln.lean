/- Package scan: which right characters stand for themselves. -/
import Derived.Test.YtaljllbfedfpoaaGreatDoorSTok
namespace Go.Proofs.YtaljllbfedfpoaaGreatDoor
open Go.RowKit Go.Shelf
set_option linter.unusedVariables false

def plainK (c : Int) : Bool := !(c == 34 || c == 92 || c == 127 || c == 133 || c == 8232 || c == 8233) && decide (32 ≤ c)
set_option maxHeartbeats 2000000 in
theorem plain_any (c : Int) (w : World) : Calls Tryz.prog 41 #[.int .i32 c] w fun e w' => e = .returned (.bool (plainK c)) ∧ w' = w := by
  obtain ⟨R, hR⟩ : ∃ R, plainK c = R := ⟨_, rfl⟩
  rw [hR]
  have HR := hide hR
  clear hR
  go_enter Tryz.func41, Tryz.ntmps41
  go_wp2
  all_goals go_ret
  all_goals refine ⟨?_, rfl⟩
  all_goals rw [← HR.out]
  all_goals refine congrArg (fun b => Ending.returned (Value.bool b)) ?_
  all_goals unfold plainK
  all_goals (generalize (c == 34) = x1 at *; generalize (c == 92) = x2 at *; generalize (c == 127) = x3 at *; generalize (c == 133) = x4 at *; generalize (c == 8232) = x5 at *; generalize (c == 8233) = x6 at *; subst_vars; simp)
end Go.Proofs.YtaljllbfedfpoaaGreatDoor
