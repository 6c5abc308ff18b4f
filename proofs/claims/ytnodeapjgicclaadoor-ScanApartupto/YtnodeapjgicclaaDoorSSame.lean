/- Are two rows of tokens the same: sameTokens. -/
import Derived.Test.YtnodeapjgicclaaDoorSSpr
namespace Go.Proofs.YtnodeapjgicclaaDoor
open Go.RowKit Go.Shelf
set_option linter.unusedVariables false

set_option maxRecDepth 100000 in
set_option maxHeartbeats 4000000 in
theorem same_toks (a b : Option Addr) (c d : Nat) (xs : List TkI) (w : World) (ha : SlK w a xs) (hb : SlK w b xs) (hl : xs.length ≤ 1048576) :
    Calls Tryd.prog 9 #[.slice a xs.length c, .slice b xs.length d] w fun e w' => e = .returned (.bool true) ∧ ∃ n, w' = w.drewN n := by
  have HA := hide ha
  have HB := hide hb
  have g0 := Tryd.noGuardTk
  have hlI : (xs.length : Int) ≤ 1048576 := by omega
  clear ha hb
  go_enter Tryd.func9, Tryd.ntmps9
  go_wp2
  go_loopw [5] (fun i wr => ∃ k n : Nat, i = .int .i64 (k : Int) ∧ k ≤ xs.length ∧ wr = w.drewN n) (fun i _ => xs.length - (intOf i).toNat)
  case atStart => exact ⟨0, 0, rfl, Nat.zero_le _, rfl⟩
  case round =>
    obtain ⟨k, n, rfl, hk, hwr⟩ := hrel
    by_cases hlt : k < xs.length
    · have hltI : (k : Int) < (xs.length : Int) := by omega
      have hxk : xs[k]? = some xs[k] := List.getElem?_eq_getElem hlt
      have ha' : SlK wr a xs := by rw [hwr]; exact HA.out
      have hb' : SlK wr b xs := by rw [hwr]; exact HB.out
      obtain ⟨b0, off, rfl, v0, v1, v2, v3⟩ := tok_cells ha' hxk
      obtain ⟨b1, off1, rfl, u0, u1, u2, u3⟩ := tok_cells hb' hxk
      generalize xs[k] = x at *
      obtain ⟨k', a', t', n'⟩ := x
      simp only at v0 v1 v2 v3 u0 u1 u2 u3
      have g1 := fun W => eql_tk k' a' t' n' W
      have HWR := hide hwr
      clear ha' hb' hxk hwr
      go_wp2_with (fail)
      go_quiet (fail)
      go_wp2_with (fail)
      go_roundw
      case rel => exact ⟨k + 1, n + nq, by go_num, by omega, by rw [HWR.out, World.drewN_drewN]⟩
      case measure => simp [intOf]; omega
    · have hge : (xs.length : Int) ≤ (k : Int) := by omega
      go_wp2
      go_ret
      exact ⟨rfl, n, rfl⟩
end Go.Proofs.YtnodeapjgicclaaDoor
