/- The road of LinesPlaces: it answers true, of every text, line and column. -/
import Derived.Test.YtegplcomhahpfaaLRPlace
import Derived.Test.YtegplcomhahpfaaLWorks
namespace Go.Proofs.Ytegplcomhahpfaa.linesPlaces
open Go.RowKit Go.Shelf Go.Proofs.Ytegplcomhahpfaa
set_option linter.unusedVariables false

set_option maxRecDepth 100000 in
set_option maxHeartbeats 4000000 in
theorem walk (s : ByteArray) (a c : Int) (w : World) (hs : s.size ≤ 1099511627776) :
    Calls Try.prog 20 #[.string s, .agg #[.int .i64 a, .int .i64 c]] w fun e w' => e = .returned (.bool true) ∧ Below w.heap.size w w' := by
  have kp := fun a c w' => place_any s a c w' (by omega)
  have kr := fun a c w' => rplace_any s a c w' hs
  generalize placeV (bl s) = V at *
  have KP := hide kp
  have KR := hide kr
  clear kp kr hs
  have P0 : Box2 (w.alloc (.cells #[.int .i64 a, .int .i64 c] 47)) w.heap.size 47 (.int .i64 a) (.int .i64 c) := heap_alloc_new _ _
  have HP0 := hide P0
  obtain ⟨p0, p1, -, -⟩ := box2_of P0
  clear P0
  go_enter Try.func20, Try.ntmps20
  go_wp2_with (first | (go_at_call 27; refine (KP.out _ _ _).mono ?_; rintro e w1 ⟨rfl, hB1⟩; obtain ⟨q0, q1, -, -⟩ := box2_of (HP0.out.below hB1)) | (go_at_call 30; refine (KR.out _ _ _).mono ?_; rintro e w2 ⟨rfl, hB2⟩))
  have hB := bseq (bseq ((Below.refl _ w).alloc (Nat.le_refl _) (.cells #[.int .i64 a, .int .i64 c] 47)) hB1) hB2
  have HB := hide hB
  clear hB hB1 hB2 HP0 p0 p1 q0 q1
  go_loopw [9] (fun q w' => ∃ l : Int, q = .int .i64 l ∧ -1 ≤ l ∧ l ≤ 5 ∧ Below w.heap.size w w') (fun q _ => (6 - intOf q).toNat)
  case atStart => exact ⟨-1, rfl, by omega, by omega, HB.out⟩
  case round =>
    clear HB
    obtain ⟨l, rfl, hl1, hl2, hB⟩ := hrel
    have HB := hide hB
    clear hB
    by_cases hl : l < 5
    · go_wp2
      go_loopw [10] (fun q w' => ∃ c : Int, q = .int .i64 c ∧ -1 ≤ c ∧ c ≤ 9 ∧ Below w.heap.size w w') (fun q _ => (10 - intOf q).toNat)
      case atStart => exact ⟨-1, rfl, by omega, by omega, HB.out⟩
      case round =>
        clear HB
        obtain ⟨c, rfl, hc1, hc2, hB⟩ := hrel
        have HB := hide hB
        clear hB
        by_cases hc : c < 9
        · go_wp2_with (first | (go_at_call 27; refine (KP.out _ _ _).mono ?_; rintro e w1 ⟨rfl, hB1⟩) | (go_at_call 30; refine (KR.out _ _ _).mono ?_; rintro e w2 ⟨rfl, hB2⟩))
          go_roundw
          case rel => exact ⟨c + 1, by go_num, by omega, by omega, bseq (bseq HB.out hB1) hB2⟩
          case measure => simp [intOf]; omega
        · have hc' : 9 ≤ c := by omega
          clear hc
          go_wp2
          go_roundw
          case rel => exact ⟨l + 1, by go_num, by omega, by omega, HB.out⟩
          case measure => simp [intOf]; omega
    · have hl' : 5 ≤ l := by omega
      clear hl
      go_wp2_with (go_at_call 16; refine (works_any _).mono ?_; rintro e w9 ⟨rfl, hB9⟩)
      go_ret
      exact ⟨rfl, bseq HB.out hB9⟩
end Go.Proofs.Ytegplcomhahpfaa.linesPlaces
