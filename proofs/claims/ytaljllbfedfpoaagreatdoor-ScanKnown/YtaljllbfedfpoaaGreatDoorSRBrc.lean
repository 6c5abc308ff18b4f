/- The document's side of package scan: a digit of sixteen, a number in braces. -/
import Derived.Test.YtaljllbfedfpoaaGreatDoorSRBrM
import Derived.Test.YtaljllbfedfpoaaGreatDoorSRChar
import Derived.BigQuiet
import Derived.Deep.QuietTactic
namespace Go.Proofs.YtaljllbfedfpoaaGreatDoor
open Go.RowKit Go.Shelf
set_option linter.unusedVariables false

set_option maxRecDepth 100000 in
set_option maxHeartbeats 1000000 in
theorem rdigit_any (c : Nat) (w : World) (hc : c < 256) : Calls Tryz.prog 78 #[.int .u8 (c : Int)] w fun e w' => e = .returned (.int .i64 (digD c : Int)) ∧ w' = w := by
  have hcI : (c : Int) < 256 := by omega
  by_cases h1 : 48 ≤ c
  · have h1I : (48 : Int) ≤ (c : Int) := by omega
    by_cases h2 : c ≤ 57
    · have h2I : (c : Int) ≤ 57 := by omega
      have e : (digD c : Int) = (c : Int) - 48 := by unfold digD; rw [if_pos ⟨h1, h2⟩]; omega
      have HE := hide e
      clear e
      go_enter Tryz.func78, Tryz.ntmps78
      go_wp2
      go_ret
      exact ⟨by rw [HE.out]; rfl, rfl⟩
    · have h2I : (57 : Int) < (c : Int) := by omega
      by_cases h3 : 97 ≤ c
      · have h3I : (97 : Int) ≤ (c : Int) := by omega
        by_cases h4 : c ≤ 102
        · have h4I : (c : Int) ≤ 102 := by omega
          have e : (digD c : Int) = (c : Int) - 97 + 10 := by unfold digD; rw [if_neg (fun h => h2 h.2), if_pos ⟨h3, h4⟩]; omega
          have HE := hide e
          clear e
          go_enter Tryz.func78, Tryz.ntmps78
          go_wp2
          go_ret
          exact ⟨by rw [HE.out]; rfl, rfl⟩
        · have h4I : (102 : Int) < (c : Int) := by omega
          have e : digD c = 16 := by unfold digD; rw [if_neg (fun h => h2 h.2), if_neg (fun h => h4 h.2)]
          rw [e]
          clear e
          go_enter Tryz.func78, Tryz.ntmps78
          go_wp2
          go_ret
          exact ⟨rfl, rfl⟩
      · have h3I : (c : Int) < 97 := by omega
        have e : digD c = 16 := by unfold digD; rw [if_neg (fun h => h2 h.2), if_neg (fun h => h3 h.1)]
        rw [e]
        clear e
        go_enter Tryz.func78, Tryz.ntmps78
        go_wp2
        go_ret
        exact ⟨rfl, rfl⟩
  · have h1I : (c : Int) < 48 := by omega
    have h3I : (c : Int) < 97 := by omega
    have e : digD c = 16 := by unfold digD; rw [if_neg (fun h => h1 h.1), if_neg (fun h => h1 (by omega))]
    rw [e]
    clear e
    go_enter Tryz.func78, Tryz.ntmps78
    go_wp2
    go_ret
    exact ⟨rfl, rfl⟩
end Go.Proofs.YtaljllbfedfpoaaGreatDoor
