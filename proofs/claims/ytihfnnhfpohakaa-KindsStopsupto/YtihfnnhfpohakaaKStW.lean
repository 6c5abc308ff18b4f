/- The road of KindsStops. -/
import Derived.Test.YtihfnnhfpohakaaKSt4
import Derived.Test.YtihfnnhfpohakaaKAwk
import Derived.Test.YtihfnnhfpohakaaKNext
import Derived.Test.YtihfnnhfpohakaaKBack
namespace Go.Proofs.Ytihfnnhfpohakaa.kindsStops
open Go.RowKit Go.Shelf Go.Proofs.Ytihfnnhfpohakaa
set_option linter.unusedVariables false

set_option maxHeartbeats 2000000 in
theorem road (s : ByteArray) (n : Int) (w : World) (hs : s.size ≤ 1048576) :
    Calls Try.prog 3 #[.string s, .int .i64 n] w fun e w' => e = .returned (.bool true) ∧ Below w.heap.size w w' := by
  have k1 := fun (n : Int) w => next_any s n w (by omega)
  have k2 := fun (n : Int) w => rnext_any s n w hs
  have k3 := fun (n : Int) w => kback_any s n w (by omega)
  have k4 := fun (n : Int) w => rback_any s n w hs
  have K1 := hide k1
  have K2 := hide k2
  have K3 := hide k3
  have K4 := hide k4
  have hq1 : ∀ n, (((nextV (bl s) n : Nat) : Int) != ((nextV (bl s) n : Nat) : Int)) = false := fun n => by simp
  have hq2 : ∀ n, (((backV (bl s) n : Nat) : Int) != ((backV (bl s) n : Nat) : Int)) = false := fun n => by simp
  have hw1 : IntKind.i64.wrap ((s.size : Int) + 1) = (s.size : Int) + 1 := by rw [IntKind.wrap_i64]; omega
  clear k1 k2 k3 k4
  go_enter Try.func3, Try.ntmps3
  go_wp2_with (first | (go_at_call 5; refine (K1.out _ _).mono ?_; rintro e w1 ⟨rfl, hB1⟩) | (go_at_call 6; refine (K2.out _ _).mono ?_; rintro e w2 ⟨rfl, hB2⟩) | (go_at_call 7; refine (K3.out _ _).mono ?_; rintro e w3 ⟨rfl, hB3⟩) | (go_at_call 8; refine (K4.out _ _).mono ?_; rintro e w4 ⟨rfl, hB4⟩))
  have hB04 := bseq (bseq (bseq hB1 hB2) hB3) hB4
  have HB04 := hide hB04
  clear hB04 hB1 hB2 hB3 hB4
  go_loopw [5] (fun q wr => ∃ z : Int, q = .int .i64 z ∧ -1 ≤ z ∧ z ≤ 60 ∧ Below w.heap.size w wr) (fun q _ => (60 - intOf q).toNat)
  case atStart => exact ⟨-1, rfl, by omega, by omega, HB04.out⟩
  case round =>
    clear HB04
    obtain ⟨z, rfl, hz1, hz2, hB⟩ := hrel
    have HB := hide hB
    have hwz : IntKind.i64.wrap (z + 1) = z + 1 := by rw [IntKind.wrap_i64]; omega
    clear hB
    by_cases h1 : z ≤ (s.size : Int) + 1
    · by_cases h2 : z < 60
      · go_wp2_with (first | (go_at_call 5; refine (K1.out _ _).mono ?_; rintro e w1 ⟨rfl, hB1⟩) | (go_at_call 6; refine (K2.out _ _).mono ?_; rintro e w2 ⟨rfl, hB2⟩) | (go_at_call 7; refine (K3.out _ _).mono ?_; rintro e w3 ⟨rfl, hB3⟩) | (go_at_call 8; refine (K4.out _ _).mono ?_; rintro e w4 ⟨rfl, hB4⟩))
        go_roundw
        case rel => exact ⟨z + 1, rfl, by omega, by omega, bseq (bseq (bseq (bseq HB.out hB1) hB2) hB3) hB4⟩
        case measure => simp [intOf]; omega
      · have h2' : (60 : Int) ≤ z := by omega
        clear h2
        go_wp2_with (go_at_call 9; refine (kawake_any _).mono ?_; rintro e w5 ⟨rfl, hB5⟩)
        go_ret
        exact ⟨rfl, bseq HB.out hB5⟩
    · have h1' : (s.size : Int) + 1 < z := by omega
      clear h1
      go_wp2_with (go_at_call 9; refine (kawake_any _).mono ?_; rintro e w5 ⟨rfl, hB5⟩)
      go_ret
      exact ⟨rfl, bseq HB.out hB5⟩
end Go.Proofs.Ytihfnnhfpohakaa.kindsStops
