/- Package scan: how a character is written that does not stand for itself (the short ones). -/
import Derived.Test.YtaljllbfedfpoaaGreatDoorSPln
import Derived.Test.YtaljllbfedfpoaaGreatDoorSEscA
namespace Go.Proofs.YtaljllbfedfpoaaGreatDoor
open Go.RowKit Go.Shelf
set_option linter.unusedVariables false

set_option maxRecDepth 100000 in
set_option maxHeartbeats 2000000 in
theorem escape_34 (f : Int) (w : World) : Calls Tryz.prog 43 #[.int .i32 34, .int .u8 f] w fun e w' => e = .returned (.string ⟨#[92, 34]⟩) ∧ w' = w := by
  go_enter Tryz.func43, Tryz.ntmps43
  go_wp2
  go_ret
  exact ⟨rfl, rfl⟩
set_option maxRecDepth 100000 in
set_option maxHeartbeats 2000000 in
theorem escape_92 (f : Int) (w : World) : Calls Tryz.prog 43 #[.int .i32 92, .int .u8 f] w fun e w' => e = .returned (.string ⟨#[92, 92]⟩) ∧ w' = w := by
  go_enter Tryz.func43, Tryz.ntmps43
  go_wp2
  go_ret
  exact ⟨rfl, rfl⟩
set_option maxRecDepth 100000 in
set_option maxHeartbeats 2000000 in
theorem escape_10 (f : Int) (w : World) : Calls Tryz.prog 43 #[.int .i32 10, .int .u8 f] w fun e w' => e = .returned (.string ⟨#[92, 110]⟩) ∧ w' = w := by
  go_enter Tryz.func43, Tryz.ntmps43
  go_wp2
  go_ret
  exact ⟨rfl, rfl⟩
set_option maxRecDepth 100000 in
set_option maxHeartbeats 2000000 in
theorem escape_13 (f : Int) (w : World) : Calls Tryz.prog 43 #[.int .i32 13, .int .u8 f] w fun e w' => e = .returned (.string ⟨#[92, 114]⟩) ∧ w' = w := by
  go_enter Tryz.func43, Tryz.ntmps43
  go_wp2
  go_ret
  exact ⟨rfl, rfl⟩
set_option maxRecDepth 100000 in
set_option maxHeartbeats 2000000 in
theorem escape_9 (f : Int) (w : World) : Calls Tryz.prog 43 #[.int .i32 9, .int .u8 f] w fun e w' => e = .returned (.string ⟨#[92, 116]⟩) ∧ w' = w := by
  go_enter Tryz.func43, Tryz.ntmps43
  go_wp2
  go_ret
  exact ⟨rfl, rfl⟩
end Go.Proofs.YtaljllbfedfpoaaGreatDoor
