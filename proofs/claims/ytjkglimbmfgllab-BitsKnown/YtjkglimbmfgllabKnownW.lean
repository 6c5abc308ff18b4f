/- The road of BitsKnown: it returns true and writes nothing that was there. -/
import Derived.Test.YtjkglimbmfgllabRoundsW
import Derived.Test.YtjkglimbmfgllabTakesW
import Derived.Test.YtjkglimbmfgllabRangesW
namespace Go.Proofs.Ytjkglimbmfgllab.bitsKnown
open Go.RowKit Go.Proofs.Ytjkglimbmfgllab
set_option linter.unusedVariables false

theorem wf_i64 {n : Int} (h1 : -9223372036854775808 ≤ n) (h2 : n ≤ 9223372036854775807) : (Lit.int .i64 n).wf = true := by
  simp [Lit.wf, IntKind.min, IntKind.max, IntKind.signed, IntKind.bits]
  omega

/-- What the walk keeps: what lay, and its two lists. -/
def Inv (w W : World) : Prop := Below w.heap.size w W ∧ OwnB W w.heap.size (List.replicate 32 0) ∧ OwnB W (w.heap.size + 1) (List.replicate 32 255)
theorem Inv.below {w W W' : World} (h : Inv w W) (hb : Below W.heap.size W W') : Inv w W' := ⟨bseq h.1 hb, h.2.1.below hb h.2.1.lt, h.2.2.below hb h.2.2.lt⟩

theorem kR (w W : World) (a b : Int) (hI : Inv w W) (h1 : -9223372036854775808 ≤ a) (h2 : a ≤ 9223372036854775807) (h3 : -9223372036854775808 ≤ b) (h4 : b ≤ 9223372036854775807) :
    Calls Try.prog 17 #[.int .i64 a, .int .i64 b] W fun e W' => e = .returned (.bool true) ∧ Inv w W' :=
  (bitsRounds.walk a b (wf_i64 h1 h2) (wf_i64 h3 h4) W).mono fun e W' h => ⟨h.1, hI.below h.2⟩
theorem kG (w W : World) (a m few : Int) (hI : Inv w W) (h1 : -9223372036854775808 ≤ a) (h2 : a ≤ 9223372036854775807) (h3 : 0 ≤ few) (h4 : few ≤ 255) :
    Calls Try.prog 18 #[.int .i64 a, .int .i64 m, .int .u8 few] W fun e W' => e = .returned (.bool true) ∧ Inv w W' :=
  (bitsRanges.walk a m few W h1 h2 h3 h4).mono fun e W' h => ⟨h.1, hI.below h.2⟩
theorem kT0 (w W : World) (p : Int) (hI : Inv w W) (h1 : -9223372036854775808 ≤ p) (h2 : p ≤ 9223372036854775807) :
    Calls Try.prog 19 #[.slice none 0 0, .int .i64 p] W fun e W' => e = .returned (.bool true) ∧ Inv w W' :=
  (bitsTakes.walk none 0 [] p W (.inl rfl) (by simp) h1 h2).mono fun e W' h => ⟨h.1, hI.below h.2⟩
theorem kT9 (w W : World) (p : Int) (hI : Inv w W) (h1 : -9223372036854775808 ≤ p) (h2 : p ≤ 9223372036854775807) :
    Calls Try.prog 19 #[.slice (some ⟨W.heap.size, 0, none⟩) 9 9, .int .i64 p] (W.alloc (.cells #[.int .u8 1, .int .u8 2, .int .u8 3, .int .u8 4, .int .u8 5, .int .u8 6, .int .u8 7, .int .u8 8, .int .u8 9] 5))
      fun e W' => e = .returned (.bool true) ∧ Inv w W' := by
  have hA : Below W.heap.size W (W.alloc (.cells #[.int .u8 1, .int .u8 2, .int .u8 3, .int .u8 4, .int .u8 5, .int .u8 6, .int .u8 7, .int .u8 8, .int .u8 9] 5)) := (Below.refl _ _).alloc (Nat.le_refl _) _
  have hO : OwnB (W.alloc (.cells #[.int .u8 1, .int .u8 2, .int .u8 3, .int .u8 4, .int .u8 5, .int .u8 6, .int .u8 7, .int .u8 8, .int .u8 9] 5)) W.heap.size [1, 2, 3, 4, 5, 6, 7, 8, 9] := heap_alloc_new W _
  exact (bitsTakes.walk (some ⟨W.heap.size, 0, none⟩) 9 [1, 2, 3, 4, 5, 6, 7, 8, 9] p _ (hO.sl (by simp)) (by simp) h1 h2).mono fun e W' h => ⟨h.1, hI.below (bseq hA h.2)⟩
theorem kW (w W : World) (hI : Inv w W) : Calls Try.prog 11 #[] W fun e W' => e = .returned (.bool true) ∧ Inv w W' :=
  (works_any W).mono fun e W' h => ⟨h.1, hI.below h.2⟩

theorem ones : moreV 0 (List.replicate 32 0) = 2324772522 := by decide +kernel
theorem twos : moreV 0 (List.replicate 32 255) = 1655221059 := by decide +kernel
theorem kS {w W : World} (g x : Nat) (hx : x < 256) (hI : Inv w W) (hO : OwnB W g (List.replicate 32 x)) :
    Calls Try.prog 7 #[.slice (some ⟨W.heap.size, 0, none⟩) 1 1] (W.alloc (.cells #[.slice (some ⟨g, 0, none⟩) 32 32] 22)) fun e w' => e = .returned (.int .u32 (moreV 0 (List.replicate 32 x))) ∧ Inv w w' := by
  have h := sum_one W (some ⟨g, 0, none⟩) 32 (List.replicate 32 x) (hO.sl (by intro y hy; rw [List.eq_of_mem_replicate hy]; exact hx)) (by simp [maxLen])
  rw [List.length_replicate] at h
  exact h.mono fun e W' h => ⟨h.1, hI.below h.2⟩
theorem kS1 {w W : World} (hI : Inv w W) : Calls Try.prog 7 #[.slice (some ⟨W.heap.size, 0, none⟩) 1 1] (W.alloc (.cells #[.slice (some ⟨w.heap.size, 0, none⟩) 32 32] 22)) fun e w' => e = .returned (.int .u32 2324772522) ∧ Inv w w' := by
  have h := kS w.heap.size 0 (by omega) hI hI.2.1
  rw [ones] at h
  exact h
theorem kS2 {w W : World} (hI : Inv w W) : Calls Try.prog 7 #[.slice (some ⟨W.heap.size, 0, none⟩) 1 1] (W.alloc (.cells #[.slice (some ⟨w.heap.size + 1, 0, none⟩) 32 32] 22)) fun e w' => e = .returned (.int .u32 1655221059) ∧ Inv w w' := by
  have h := kS (w.heap.size + 1) 255 (by omega) hI hI.2.2
  rw [twos] at h
  exact h
theorem kS0 {w W : World} (hI : Inv w W) : Calls Try.prog 7 #[.slice none 0 0] W fun e w' => e = .returned (.int .u32 0) ∧ Inv w w' :=
  (sum_any none 0 [] W (.inl rfl) (by decide)).mono fun e W' h => ⟨h.1, by rw [h.2]; exact hI⟩

set_option maxHeartbeats 2000000 in
theorem walk (w : World) : Calls Try.prog 6 #[] w fun e w' => e = .returned (.bool true) ∧ Below w.heap.size w w' := by
  have hmk : ∀ w, Sem.run Try.prog (Instr.makeSlice 22 (.int .i64 32) (.int .i64 32)) w = .ok (.slice (some ⟨w.heap.size, 0, none⟩) 32 32) (w.alloc (.cells (madeCells #[.int .u8 0] 32) 5)) :=
    run_make_row' (P := Try.prog) 22 5 (.int .u8 0) 1 Try.underlying22 Try.info5 rfl .i64 .i64 32 (by omega) (by omega)
  have hO1 := (OwnB.made w 32).of_block (Below.heap_alloc (w.alloc (.cells (madeCells #[.int .u8 0] 32) 5)) (.cells (madeCells #[.int .u8 0] 32) 5) w.heap.size (by simp))
  have hO2 := OwnB.made (w.alloc (.cells (madeCells #[.int .u8 0] 32) 5)) 32
  rw [World.size_alloc] at hO2
  have hB0 : Below w.heap.size w ((w.alloc (.cells (madeCells #[.int .u8 0] 32) 5)).alloc (.cells (madeCells #[.int .u8 0] 32) 5)) := bitsRanges.two_below w _ _
  have HO1 := hide hO1
  have HO2 := hide hO2
  have HB0 := hide hB0
  clear hO1 hO2 hB0
  go_enter Try.func6, Try.ntmps6
  go_wp2
  clear hmk
  go_loopw [3] (fun i wr => ∃ k : Nat, k ≤ 32 ∧ i = .int .i64 k ∧ OwnB wr w.heap.size (List.replicate 32 0) ∧ OwnB wr (w.heap.size + 1) (lay [] (List.replicate 32 255) k) ∧ Below w.heap.size w wr) (fun i _ => 32 - (intOf i).toNat)
  case atStart => exact ⟨0, by omega, rfl, HO1.out, by rw [lay_zero]; simpa using HO2.out, HB0.out⟩
  case round =>
    clear HO1 HO2 HB0
    obtain ⟨k, hk, rfl, h1, h2, hB⟩ := hrel
    have H1 := hide h1
    have H2 := hide h2
    have HB := hide hB
    by_cases hlt : k < 32
    · have hc := h2.cell k 0 (by have h := lay_get [] (List.replicate 32 255) k (by simpa using hlt); rwa [List.length_nil, Nat.zero_add] at h)
      have hf := h2.frozen k
      clear h1 h2 hB
      go_wp2
      go_roundw
      case rel =>
        refine ⟨k + 1, by omega, by go_num, H1.out.of_block (Below.heap_setCell _ _ _ _ (show w.heap.size ≠ w.heap.size + 1 by omega)), ?_, HB.out.setCell (show w.heap.size ≤ w.heap.size + 1 by omega) _⟩
        have h := lay_set [] (List.replicate 32 255) k 255 (by rw [List.getElem?_replicate, if_pos hlt])
        rw [List.length_nil, Nat.zero_add] at h
        rw [← h]
        exact H2.out.set k 255
      case measure => simp [intOf]; omega
    · have hk32 : k = 32 := by omega
      have hI : Inv w wr := ⟨hB, h1, by
        have h := lay_all [] (List.replicate 32 255)
        rw [List.length_replicate] at h
        rw [hk32, h] at h2
        exact h2⟩
      have HI := hide hI
      have hki : (k : Int) = 32 := by omega
      rw [hki]
      clear h1 h2 hB H1 H2 HB hI hki hk32 hlt hk
      go_wp2
      go_loopw [4] (fun i wq => ∃ k : Nat, k ≤ 71 ∧ i = .int .i64 ((k : Int) - 1) ∧ Inv w wq) (fun i _ => (70 - intOf i).toNat)
      case atStart => exact ⟨0, by omega, rfl, HI.out⟩
      case round =>
        clear HI
        obtain ⟨k, hk, rfl, hI⟩ := hrel
        by_cases hlt : k < 71
        · go_wp2_with (first | (go_at_call 17; refine (kR w _ _ _ (by assumption) (by omega) (by omega) (by omega) (by omega)).mono ?_; rintro e w1 ⟨rfl, hI1⟩) | (go_at_call 18; refine (kG w _ _ _ _ (by assumption) (by omega) (by omega) (by omega) (by omega)).mono ?_; rintro e w1 ⟨rfl, hI1⟩) | (go_at_call 19; refine (kT9 w _ _ (by assumption) (by omega) (by omega)).mono ?_; rintro e w1 ⟨rfl, hI1⟩))
          go_roundw
          case rel => exact ⟨k + 1, by omega, int_congr' (by omega), hI1⟩
          case measure => simp [intOf]; omega
        · have hk71 : k = 71 := by omega
          subst hk71
          go_wp2_with fail
          refine (kS1 hI).mono ?_
          rintro e w1 ⟨rfl, hI1⟩
          go_wp2_with fail
          refine (kS2 hI1).mono ?_
          rintro e w2 ⟨rfl, hI2⟩
          go_wp2_with fail
          refine (kS0 hI2).mono ?_
          rintro e w3 ⟨rfl, hI3⟩
          clear hI hI1 hI2
          go_wp2_with (first | (go_at_call 17; refine (kR w _ _ _ (by assumption) (by omega) (by omega) (by omega) (by omega)).mono ?_; rintro e w4 ⟨rfl, hI4⟩) | (go_at_call 18; refine (kG w _ _ _ _ (by assumption) (by omega) (by omega) (by omega) (by omega)).mono ?_; rintro e w4 ⟨rfl, hI4⟩) | (go_at_call 19; refine (kT0 w _ _ (by assumption) (by omega) (by omega)).mono ?_; rintro e w4 ⟨rfl, hI4⟩) | (go_at_call 11; refine (kW w _ (by assumption)).mono ?_; rintro e w4 ⟨rfl, hI4⟩))
          go_ret
          exact ⟨rfl, hI4.1⟩
end Go.Proofs.Ytjkglimbmfgllab.bitsKnown
