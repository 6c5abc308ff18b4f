/- The road of KindsRunes: for every rune it returns true, and writes nothing that was there. -/
import Derived.Test.YtobemmfgpjgiaaaKAwk
import Derived.Test.YtobemmfgpjgiaaaKRef4
namespace Go.Proofs.Ytobemmfgpjgiaaa
open Go.RowKit
set_option linter.unusedVariables false
theorem rblankK (r : Int) (w : World) : Calls Try.prog 10 #[.int .i32 r] w fun e w' => e = .returned (.bool (blankK r)) ∧ Below w.heap.size w w' := by
  have h := rblank_any r w
  rwa [blank_same] at h
theorem rwordK (r : Int) (w : World) : Calls Try.prog 12 #[.int .i32 r] w fun e w' => e = .returned (.bool (wordK r)) ∧ Below w.heap.size w w' := by
  have h := rword_any r w
  rwa [word_same] at h
theorem rwidthK (r : Int) (w : World) : Calls Try.prog 16 #[.int .i32 r] w fun e w' => e = .returned (.int .i64 (widthK r)) ∧ Below w.heap.size w w' := by
  have h := rwidth_any r w
  rwa [width_same] at h
end Go.Proofs.Ytobemmfgpjgiaaa
namespace Go.Proofs.Ytobemmfgpjgiaaa.kindsRunes
open Go.RowKit Go.Shelf Go.Proofs.Ytobemmfgpjgiaaa
set_option maxHeartbeats 4000000 in
theorem walk (r : Int) (w : World) (h1 : -2147483648 ≤ r ∧ r ≤ 2147483647) : Calls Try.prog 3 #[.int .i32 r] w fun e w' => e = .returned (.bool true) ∧ Below w.heap.size w w' := by
  go_enter Try.func3, Try.ntmps3
  go_wp2
  go_loopw [0, 3] (fun p q wr => ∃ (x i : Int), p = .int .i32 x ∧ q = .int .i64 i ∧ -2147483648 ≤ x ∧ x ≤ 2147483647 ∧ 0 ≤ i ∧ i ≤ 3 ∧ Below w.heap.size w wr) (fun _ q _ => 4 - (intOf q).toNat)
  case atStart => exact ⟨r, 0, rfl, rfl, h1.1, h1.2, by omega, by omega, Below.refl _ _⟩
  case round =>
    obtain ⟨x, i, rfl, rfl, hx1, hx2, hi0, hi3, hB⟩ := hrel
    have HB := hide hB
    clear hB h1
    by_cases hlt : i < 3
    · by_cases hx : x = 2147483647
      · have hxb : (x == 2147483647) = true := by simp [hx]
        clear hx
        go_wp2_with (first | (go_at_call 9; refine (blank_any _ _).mono ?_; rintro e w1 ⟨rfl, rfl⟩) | (go_at_call 11; refine (word_any _ _).mono ?_; rintro e w1 ⟨rfl, rfl⟩) | (go_at_call 13; refine (kends_any _ _).mono ?_; rintro e w1 ⟨rfl, rfl⟩) | (go_at_call 15; refine (width_any _ _).mono ?_; rintro e w1 ⟨rfl, rfl⟩) | (go_at_call 17; refine (fold_any _ _).mono ?_; rintro e w1 ⟨rfl, rfl⟩) | (go_at_call 14; refine (rends_any _ _).mono ?_; rintro e w1 ⟨rfl, rfl⟩) | (go_at_call 10; refine (rblankK _ _).mono ?_; rintro e w1 ⟨rfl, hB1⟩; replace HB := hide (bseq HB.out hB1); clear hB1) | (go_at_call 12; refine (rwordK _ _).mono ?_; rintro e w1 ⟨rfl, hB1⟩; replace HB := hide (bseq HB.out hB1); clear hB1) | (go_at_call 16; refine (rwidthK _ _).mono ?_; rintro e w1 ⟨rfl, hB1⟩; replace HB := hide (bseq HB.out hB1); clear hB1) | (go_at_call 18; refine (rfold_any _ _ (by omega)).mono ?_; rintro e w1 ⟨rfl, hB1⟩; replace HB := hide (bseq HB.out hB1); clear hB1) | (go_at_call 19; refine (kawake_any _).mono ?_; rintro e w1 ⟨rfl, hB1⟩; replace HB := hide (bseq HB.out hB1); clear hB1))
        all_goals first | (go_ret; exact ⟨rfl, HB.out⟩) | (exfalso; simp_all; done)
      · have hxb : (x == 2147483647) = false := by simp [hx]
        have hx3 : x ≤ 2147483646 := by omega
        clear hx
        go_wp2_with (first | (go_at_call 9; refine (blank_any _ _).mono ?_; rintro e w1 ⟨rfl, rfl⟩) | (go_at_call 11; refine (word_any _ _).mono ?_; rintro e w1 ⟨rfl, rfl⟩) | (go_at_call 13; refine (kends_any _ _).mono ?_; rintro e w1 ⟨rfl, rfl⟩) | (go_at_call 15; refine (width_any _ _).mono ?_; rintro e w1 ⟨rfl, rfl⟩) | (go_at_call 17; refine (fold_any _ _).mono ?_; rintro e w1 ⟨rfl, rfl⟩) | (go_at_call 14; refine (rends_any _ _).mono ?_; rintro e w1 ⟨rfl, rfl⟩) | (go_at_call 10; refine (rblankK _ _).mono ?_; rintro e w1 ⟨rfl, hB1⟩; replace HB := hide (bseq HB.out hB1); clear hB1) | (go_at_call 12; refine (rwordK _ _).mono ?_; rintro e w1 ⟨rfl, hB1⟩; replace HB := hide (bseq HB.out hB1); clear hB1) | (go_at_call 16; refine (rwidthK _ _).mono ?_; rintro e w1 ⟨rfl, hB1⟩; replace HB := hide (bseq HB.out hB1); clear hB1) | (go_at_call 18; refine (rfold_any _ _ (by omega)).mono ?_; rintro e w1 ⟨rfl, hB1⟩; replace HB := hide (bseq HB.out hB1); clear hB1) | (go_at_call 19; refine (kawake_any _).mono ?_; rintro e w1 ⟨rfl, hB1⟩; replace HB := hide (bseq HB.out hB1); clear hB1))
        go_roundw
        case rel => exact ⟨x + 1, i + 1, by go_num, by go_num, by omega, by omega, by omega, by omega, HB.out⟩
        case measure => simp [intOf]; omega
    · have hge : 3 ≤ i := by omega
      clear hlt
      go_wp2_with (go_at_call 19; refine (kawake_any _).mono ?_; rintro e w1 ⟨rfl, hB1⟩)
      go_ret
      exact ⟨rfl, bseq HB.out hB1⟩
end Go.Proofs.Ytobemmfgpjgiaaa.kindsRunes
