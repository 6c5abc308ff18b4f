/- The road of LinesEnds: it answers true, of every text at every place. -/
import Derived.Test.YtegplcomhahpfaaLWorks
import Derived.Test.YtegplcomhahpfaaLREnd
namespace Go.Proofs.Ytegplcomhahpfaa.linesEnds
open Go.RowKit Go.Shelf Go.Proofs.Ytegplcomhahpfaa
set_option linter.unusedVariables false

theorem endV_false {l : List UInt8} {n : Int} (h : (endV l n).2 = false) : (endV l n).1 = 0 := by
  unfold endV at *
  split
  · rename_i hc
    rw [if_pos hc] at h
    have := of_decide_eq_false h
    simp only [ne_eq, Decidable.not_not] at this
    simp [this]
  · rfl

set_option maxHeartbeats 4000000 in
theorem walk (s : ByteArray) (at' : Int) (w : World) (hs : s.size ≤ 140737488355328) (ha : -9223372036854775808 ≤ at' ∧ at' ≤ 9223372036854775807) :
    Calls Try.prog 18 #[.string s, .int .i64 at'] w fun e w' => e = .returned (.bool true) ∧ Below w.heap.size w w' := by
  have ke := fun n w' => end_any s n w' (by omega)
  have kr := fun n w' => rend_any s n w' (by omega)
  have hv := fun n => @endV_false (bl s) n
  generalize hV : endV (bl s) = V at *
  have KE := hide ke
  have KR := hide kr
  have HV := hide hv
  clear ke kr hv hV
  have hsI : (s.size : Int) ≤ 140737488355328 := by omega
  clear hs
  go_enter Try.func18, Try.ntmps18
  rcases hb0 : V at' with ⟨n0, b0⟩
  have ke0 := fun w' => KE.out at' w'
  have kr0 := fun w' => KR.out at' w'
  have hv0 := HV.out at'
  rw [hb0] at ke0 kr0 hv0
  cases b0 with
  | true =>
    have KX := hide ke0
    have KY := hide kr0
    clear ke0 kr0 hv0 hb0
    go_wp2_with (first | (go_at_call 28; refine (KX.out _).mono ?_; rintro e w1 ⟨rfl, hB1⟩) | (go_at_call 22; refine (KY.out _).mono ?_; rintro e w2 ⟨m, rfl, hm, hB2⟩; obtain rfl := hm (by first | exact rfl | trivial)))
    have HBX := hide (bseq hB1 hB2)
    clear hB1 hB2 KX KY
    go_loopw [9] (fun q w' => ∃ i : Int, q = .int .i64 i ∧ -2 ≤ i ∧ i ≤ 300 ∧ Below w.heap.size w w') (fun q _ => (301 - intOf q).toNat)
    case atStart => exact ⟨-2, rfl, by omega, by omega, HBX.out⟩
    case round =>
      obtain ⟨i, rfl, hi1, hi2, hBr⟩ := hrel
      have HBR := hide hBr
      clear hBr HBX
      by_cases hc1 : i < (s.size : Int) + 3
      · by_cases hc2 : i < 300
        · rcases hb1 : V i with ⟨n1, b1⟩
          have ke1 := fun w' => KE.out i w'
          have kr1 := fun w' => KR.out i w'
          have hv1 := HV.out i
          rw [hb1] at ke1 kr1 hv1
          cases b1 with
          | true =>
            have KX := hide ke1
            have KY := hide kr1
            clear ke1 kr1 hv1 hb1
            go_wp2_with (first | (go_at_call 28; refine (KX.out _).mono ?_; rintro e w1 ⟨rfl, hB1⟩) | (go_at_call 22; refine (KY.out _).mono ?_; rintro e w2 ⟨m, rfl, hm, hB2⟩; obtain rfl := hm (by first | exact rfl | trivial)))
            go_roundw
            case rel => exact ⟨i + 1, by go_num, by omega, by omega, bseq (bseq HBR.out hB1) hB2⟩
            case measure => simp [intOf]; omega
          | false =>
            obtain rfl := hv1 rfl
            have KX := hide ke1
            have KY := hide kr1
            clear ke1 kr1 hv1 hb1
            go_wp2_with (first | (go_at_call 28; refine (KX.out _).mono ?_; rintro e w1 ⟨rfl, hB1⟩) | (go_at_call 22; refine (KY.out _).mono ?_; rintro e w2 ⟨m, rfl, hm, hB2⟩; clear hm))
            go_roundw
            case rel => exact ⟨i + 1, by go_num, by omega, by omega, bseq (bseq HBR.out hB1) hB2⟩
            case measure => simp [intOf]; omega
        · have hc2' : (300 : Int) ≤ i := by omega
          clear hc2
          go_wp2_with (go_at_call 16; refine (works_any _).mono ?_; rintro e w9 ⟨rfl, hB9⟩)
          go_ret
          exact ⟨rfl, bseq HBR.out hB9⟩
      · have hc1' : (s.size : Int) + 3 ≤ i := by omega
        clear hc1
        go_wp2_with (go_at_call 16; refine (works_any _).mono ?_; rintro e w9 ⟨rfl, hB9⟩)
        go_ret
        exact ⟨rfl, bseq HBR.out hB9⟩
  | false =>
    obtain rfl := hv0 rfl
    have KX := hide ke0
    have KY := hide kr0
    clear ke0 kr0 hv0 hb0
    go_wp2_with (first | (go_at_call 28; refine (KX.out _).mono ?_; rintro e w1 ⟨rfl, hB1⟩) | (go_at_call 22; refine (KY.out _).mono ?_; rintro e w2 ⟨m, rfl, hm, hB2⟩; clear hm))
    have HBX := hide (bseq hB1 hB2)
    clear hB1 hB2 KX KY
    go_loopw [9] (fun q w' => ∃ i : Int, q = .int .i64 i ∧ -2 ≤ i ∧ i ≤ 300 ∧ Below w.heap.size w w') (fun q _ => (301 - intOf q).toNat)
    case atStart => exact ⟨-2, rfl, by omega, by omega, HBX.out⟩
    case round =>
      obtain ⟨i, rfl, hi1, hi2, hBr⟩ := hrel
      have HBR := hide hBr
      clear hBr HBX
      by_cases hc1 : i < (s.size : Int) + 3
      · by_cases hc2 : i < 300
        · rcases hb1 : V i with ⟨n1, b1⟩
          have ke1 := fun w' => KE.out i w'
          have kr1 := fun w' => KR.out i w'
          have hv1 := HV.out i
          rw [hb1] at ke1 kr1 hv1
          cases b1 with
          | true =>
            have KX := hide ke1
            have KY := hide kr1
            clear ke1 kr1 hv1 hb1
            go_wp2_with (first | (go_at_call 28; refine (KX.out _).mono ?_; rintro e w1 ⟨rfl, hB1⟩) | (go_at_call 22; refine (KY.out _).mono ?_; rintro e w2 ⟨m, rfl, hm, hB2⟩; obtain rfl := hm (by first | exact rfl | trivial)))
            go_roundw
            case rel => exact ⟨i + 1, by go_num, by omega, by omega, bseq (bseq HBR.out hB1) hB2⟩
            case measure => simp [intOf]; omega
          | false =>
            obtain rfl := hv1 rfl
            have KX := hide ke1
            have KY := hide kr1
            clear ke1 kr1 hv1 hb1
            go_wp2_with (first | (go_at_call 28; refine (KX.out _).mono ?_; rintro e w1 ⟨rfl, hB1⟩) | (go_at_call 22; refine (KY.out _).mono ?_; rintro e w2 ⟨m, rfl, hm, hB2⟩; clear hm))
            go_roundw
            case rel => exact ⟨i + 1, by go_num, by omega, by omega, bseq (bseq HBR.out hB1) hB2⟩
            case measure => simp [intOf]; omega
        · have hc2' : (300 : Int) ≤ i := by omega
          clear hc2
          go_wp2_with (go_at_call 16; refine (works_any _).mono ?_; rintro e w9 ⟨rfl, hB9⟩)
          go_ret
          exact ⟨rfl, bseq HBR.out hB9⟩
      · have hc1' : (s.size : Int) + 3 ≤ i := by omega
        clear hc1
        go_wp2_with (go_at_call 16; refine (works_any _).mono ?_; rintro e w9 ⟨rfl, hB9⟩)
        go_ret
        exact ⟨rfl, bseq HBR.out hB9⟩
end Go.Proofs.Ytegplcomhahpfaa.linesEnds
