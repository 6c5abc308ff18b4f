/- What the document's answer is for a tally: Counts, head, tail, Of, May, Check. -/
import Derived.Test.YtojbclifafmllaaTCh
import Derived.Test.YtojbclifafmllaaURefC
namespace Go.Proofs.Ytojbclifafmllaa
open Go.RowKit
set_option linter.unusedVariables false

theorem row_afterR {W W' : World} {o : Obj} (hB : Below (W.alloc o).heap.size (W.alloc o) W') : W'.heap[W.heap.size]? = some o := by
  rw [hB.block _ (by simp)]
  exact heap_alloc_new W o
theorem refEnds_any (r : Nat) (w : World) :
    Calls Try.prog 36 #[.int .i32 (r : Nat)] w fun e w' => e = .returned (.bool (decide (r = 133 ∨ r = 8232 ∨ r = 8233))) ∧ w' = w := by
  have key : decide (r = 133 ∨ r = 8232 ∨ r = 8233) = ((((r : Int) == 133) || ((r : Int) == 8232)) || ((r : Int) == 8233)) := by
    rw [Bool.eq_iff_iff]
    simp only [Bool.or_eq_true, decide_eq_true_eq, beq_iff_eq]
    omega
  have K := hide key
  clear key
  go_enter Try.func36, Try.ntmps36
  go_wp2
  all_goals
    go_ret
    refine ⟨?_, rfl⟩
    rw [K.out]
    try simp [*]

theorem refCut_any (s : ByteArray) (w : World) :
    Calls Try.prog 37 #[.string s, .int .i64 3] w fun e w' => e = .returned (.string (hd s)) ∧ w' = w := by
  by_cases h : 3 < s.size
  · have h' : (3 : Int) < (s.size : Int) := by omega
    have h2 : (3 : Int) ≤ (s.size : Int) := by omega
    clear h
    go_enter Try.func37, Try.ntmps37
    go_wp2
    go_ret
    exact ⟨rfl, rfl⟩
  · have h' : (s.size : Int) ≤ 3 := by omega
    have e : s = hd s := bl_inj (by unfold hd; rw [bl_to, List.take_of_length_le (by rw [bl_len]; omega)])
    rw [← e]
    clear h e
    go_enter Try.func37, Try.ntmps37
    go_wp2
    go_ret
    exact ⟨rfl, rfl⟩

theorem refHead_any (s : ByteArray) (w : World) :
    Calls Try.prog 22 #[.string s] w fun e w' => e = .returned (.string (hd s)) ∧ w' = w := by
  have K := hide (fun w => refCut_any s w)
  go_enter Try.func22, Try.ntmps22
  go_wp2_with (go_at_call 37; refine (K.out _).mono ?_; rintro e w1 ⟨rfl, rfl⟩)
  go_ret
  exact ⟨rfl, rfl⟩

theorem refTail_any (s : ByteArray) (w : World) (hs : s.size ≤ 9223372036854775807) :
    Calls Try.prog 23 #[.string s] w fun e w' => e = .returned (.string (tl s)) ∧ w' = w := by
  by_cases h : 3 < s.size
  · have h' : (3 : Int) < (s.size : Int) := by omega
    have e1 : ((s.size : Int) - 3).toNat = s.size - 3 := by omega
    have hw : IntKind.i64.wrap ((s.size : Int) - 3) = (s.size : Int) - 3 := by rw [IntKind.wrap_i64]; omega
    clear h
    go_enter Try.func23, Try.ntmps23
    go_wp2
    go_ret
    exact ⟨rfl, rfl⟩
  · have h' : (s.size : Int) ≤ 3 := by omega
    have e : s = tl s := bl_inj (by unfold tl; rw [bl_from, show s.size - 3 = 0 by omega, List.drop_zero])
    rw [← e]
    clear h e
    go_enter Try.func23, Try.ntmps23
    go_wp2
    go_ret
    exact ⟨rfl, rfl⟩

set_option maxHeartbeats 1000000 in
theorem refCounts_any (s : ByteArray) (w : World) (hs : s.size ≤ 9223372036854775807) :
    Calls Try.prog 21 #[.string s] w fun e w' => e = .returned (.tuple #[.int .i64 (chn (bl s) : Nat), .int .i64 (lin (bl s) : Nat)]) ∧ Below w.heap.size w w' := by
  go_enter Try.func21, Try.ntmps21
  go_wp2
  go_loopw [4, 5, 6] (fun c l a wr => ∃ k m pos : Nat, c = .int .i64 k ∧ l = .int .i64 m ∧ a = .int .i64 pos ∧ pos ≤ s.size ∧ k ≤ pos ∧ m ≤ k ∧ k + chn ((bl s).drop pos) = chn (bl s) ∧ m + lin ((bl s).drop pos) = lin (bl s) ∧ Below w.heap.size w wr) (fun _ _ a _ => s.size - (intOf a).toNat)
  case atStart => exact ⟨0, 0, 0, rfl, rfl, rfl, by omega, by omega, by omega, by simp, by simp, Below.refl _ _⟩
  case round =>
    obtain ⟨k, m, pos, rfl, rfl, rfl, hp, hkp, hmk, hch, hli, hB⟩ := hrel
    have HB := hide hB
    clear hB
    by_cases hlt : pos < s.size
    · have hne := bl_drop_ne hlt
      have hlt' : (pos : Int) < (s.size : Int) := by omega
      have h1 := cw_pos ((bl s).drop pos)
      have h2 := cw_len _ hne
      rw [List.length_drop, bl_len] at h2
      rw [chn_step _ hne, List.drop_drop] at hch
      rw [lin_step _ hne, List.drop_drop] at hli
      have kf := fun w => refFirst_any (s.extract pos s.size) w (by rw [ByteArray.size_extract]; omega)
      rw [bl_from, firstV_ne hne] at kf
      have KR := hide (fun w => refEnds_any (rune ((bl s).drop pos)) w)
      have hone : refOne ((bl s).drop pos) = if by' ((bl s).drop pos) 0 = 10 ∨ (by' ((bl s).drop pos) 0 = 13 ∧ by' ((bl s).drop pos) 1 ≠ 10) ∨ (W ((bl s).drop pos) ≠ 0 ∧ (rune ((bl s).drop pos) = 133 ∨ rune ((bl s).drop pos) = 8232 ∨ rune ((bl s).drop pos) = 8233)) then 1 else 0 := rfl
      have g0 : by' ((bl s).drop pos) 0 = (s[pos]'hlt).toNat := by rw [by'_drop, Nat.add_zero]; exact by'_get s pos hlt
      have g1 : (h : pos + 1 < s.size) → by' ((bl s).drop pos) 1 = (s[pos + 1]'h).toNat := fun h => by rw [by'_drop]; exact by'_get s (pos + 1) h
      have g2 : ¬ pos + 1 < s.size → by' ((bl s).drop pos) 1 = 0 := fun h => by rw [by'_drop]; exact by'_beyond _ _ (by rw [bl_len]; omega)
      have g13 : by' ((bl s).drop pos) 0 = 13 → rune ((bl s).drop pos) = 13 ∧ W ((bl s).drop pos) = 1 := fun h => by have := rune_of_low (l := (bl s).drop pos) (by omega); omega
      rw [g0] at hone g13
      generalize rune ((bl s).drop pos) = r at *
      generalize cw ((bl s).drop pos) = c at *
      generalize W ((bl s).drop pos) = wd' at *
      generalize by' ((bl s).drop pos) 1 = b1 at *
      have KF := hide kf
      have HO := hide hone
      have HCH := hide hch
      have HLI := hide hli
      have hw1 : IntKind.i64.wrap ((pos : Int) + 1) = (pos : Int) + 1 := by rw [IntKind.wrap_i64]; omega
      clear kf hone hch hli g0 hne
      -- the round's two ends
      have fin : ∀ m' : Nat, m' + lin ((bl s).drop (pos + c)) = lin (bl s) → m' ≤ k + 1 → ∀ wz : World, Below w.heap.size w wz → ∃ k' m'' pos' : Nat, Value.int .i64 ((k : Int) + 1) = .int .i64 k' ∧ Value.int .i64 (m' : Nat) = .int .i64 m'' ∧ Value.int .i64 ((pos : Int) + (c : Int)) = .int .i64 pos' ∧ pos' ≤ s.size ∧ k' ≤ pos' ∧ m'' ≤ k' ∧ k' + chn ((bl s).drop pos') = chn (bl s) ∧ m'' + lin ((bl s).drop pos') = lin (bl s) ∧ Below w.heap.size w wz := by
        intro m' g1 g2 wz g3
        exact ⟨k + 1, m', pos + c, rfl, rfl, rfl, by omega, by omega, g2, by have := HCH.out; omega, g1, g3⟩
      have FIN := hide fin
      clear fin
      by_cases h10 : (s[pos]'hlt).toNat = 10
      · have c10 : (((s[pos]'hlt).toNat : Int) == 10) = true := by simp; omega
        have HO1 : Hid (refOne ((bl s).drop pos) = 1) := hide (HO.out.trans (if_pos (.inl h10)))
        clear g1 g2 g13 h10
        go_wp2_with (go_at_call 35; refine (KF.out _).mono ?_; rintro e w1 ⟨rfl, hB1⟩)
        go_roundw
        case rel => exact FIN.out (m + 1) (by have := HLI.out; have := HO1.out; omega) (by omega) _ (bseq HB.out hB1)
        case measure => simp [intOf]; omega
      · have c10 : (((s[pos]'hlt).toNat : Int) == 10) = false := by simp; omega
        by_cases h13 : (s[pos]'hlt).toNat = 13
        · have c13 : (((s[pos]'hlt).toNat : Int) == 13) = true := by simp; omega
          obtain ⟨rfl, rfl⟩ := g13 h13
          have hR : decide ((1 : Nat) ≠ 0) = true := rfl
          have hE : decide ((13 : Nat) = 133 ∨ (13 : Nat) = 8232 ∨ (13 : Nat) = 8233) = false := by decide
          rw [hE] at KR
          by_cases hend : pos + 1 < s.size
          · have ce : ((pos : Int) + 1 == (s.size : Int)) = false := by simp; omega
            have hi1 : (pos : Int) + 1 < (s.size : Int) := by omega
            have hi2 : ((pos : Int) + 1).toNat = pos + 1 := by omega
            have gg := g1 hend
            by_cases hb1 : (s[pos + 1]'hend).toNat = 10
            · have cb : (((s[pos + 1]'hend).toNat : Int) != 10) = false := by simp; omega
              have HO1 : Hid (refOne ((bl s).drop pos) = 0) := hide (HO.out.trans (if_neg (by omega)))
              clear g1 g2 g13 h10 h13 hb1 gg hR hE
              go_wp2_with (first | (go_at_call 35; refine (KF.out _).mono ?_; rintro e w1 ⟨rfl, hB1⟩) | (go_at_call 36; refine (KR.out _).mono ?_; rintro e w2 ⟨rfl, rfl⟩))
              go_roundw
              case rel => exact FIN.out m (by have := HLI.out; have := HO1.out; omega) (by omega) _ (bseq HB.out hB1)
              case measure => simp [intOf]; omega
            · have cb : (((s[pos + 1]'hend).toNat : Int) != 10) = true := by simp; omega
              have HO1 : Hid (refOne ((bl s).drop pos) = 1) := hide (HO.out.trans (if_pos (by omega)))
              clear g1 g2 g13 h10 h13 hb1 gg hR hE
              go_wp2_with (first | (go_at_call 35; refine (KF.out _).mono ?_; rintro e w1 ⟨rfl, hB1⟩) | (go_at_call 36; refine (KR.out _).mono ?_; rintro e w2 ⟨rfl, rfl⟩))
              go_roundw
              case rel => exact FIN.out (m + 1) (by have := HLI.out; have := HO1.out; omega) (by omega) _ (bseq HB.out hB1)
              case measure => simp [intOf]; omega
          · have ce : ((pos : Int) + 1 == (s.size : Int)) = true := by simp; omega
            have gg := g2 hend
            have HO1 : Hid (refOne ((bl s).drop pos) = 1) := hide (HO.out.trans (if_pos (by omega)))
            clear g1 g2 g13 h10 h13 gg hR hE
            go_wp2_with (first | (go_at_call 35; refine (KF.out _).mono ?_; rintro e w1 ⟨rfl, hB1⟩) | (go_at_call 36; refine (KR.out _).mono ?_; rintro e w2 ⟨rfl, rfl⟩))
            go_roundw
            case rel => exact FIN.out (m + 1) (by have := HLI.out; have := HO1.out; omega) (by omega) _ (bseq HB.out hB1)
            case measure => simp [intOf]; omega
        · have c13 : (((s[pos]'hlt).toNat : Int) == 13) = false := by simp; omega
          by_cases hw0 : wd' = 0
          · have hR : decide (wd' ≠ 0) = false := decide_eq_false (by omega)
            rw [hR] at KF
            have HO1 : Hid (refOne ((bl s).drop pos) = 0) := hide (HO.out.trans (if_neg (by omega)))
            clear g1 g2 g13 h10 h13 hR hw0
            go_wp2_with (first | (go_at_call 35; refine (KF.out _).mono ?_; rintro e w1 ⟨rfl, hB1⟩) | (go_at_call 36; refine (KR.out _).mono ?_; rintro e w2 ⟨rfl, rfl⟩))
            go_roundw
            case rel => exact FIN.out m (by have := HLI.out; have := HO1.out; omega) (by omega) _ (bseq HB.out hB1)
            case measure => simp [intOf]; omega
          · have hR : decide (wd' ≠ 0) = true := decide_eq_true (by omega)
            rw [hR] at KF
            by_cases he : r = 133 ∨ r = 8232 ∨ r = 8233
            · rw [decide_eq_true he] at KR
              have HO1 : Hid (refOne ((bl s).drop pos) = 1) := hide (HO.out.trans (if_pos (by omega)))
              clear g1 g2 g13 h10 h13 hR hw0 he
              go_wp2_with (first | (go_at_call 35; refine (KF.out _).mono ?_; rintro e w1 ⟨rfl, hB1⟩) | (go_at_call 36; refine (KR.out _).mono ?_; rintro e w2 ⟨rfl, rfl⟩))
              go_roundw
              case rel => exact FIN.out (m + 1) (by have := HLI.out; have := HO1.out; omega) (by omega) _ (bseq HB.out hB1)
              case measure => simp [intOf]; omega
            · rw [decide_eq_false he] at KR
              have HO1 : Hid (refOne ((bl s).drop pos) = 0) := hide (HO.out.trans (if_neg (by omega)))
              clear g1 g2 g13 h10 h13 hR hw0 he
              go_wp2_with (first | (go_at_call 35; refine (KF.out _).mono ?_; rintro e w1 ⟨rfl, hB1⟩) | (go_at_call 36; refine (KR.out _).mono ?_; rintro e w2 ⟨rfl, rfl⟩))
              go_roundw
              case rel => exact FIN.out m (by have := HLI.out; have := HO1.out; omega) (by omega) _ (bseq HB.out hB1)
              case measure => simp [intOf]; omega
    · have h3 : (bl s).drop pos = [] := List.drop_eq_nil_of_le (by rw [bl_len]; omega)
      rw [h3, chn_nil] at hch
      rw [h3, lin_nil] at hli
      have hk : k = chn (bl s) := by omega
      have hm : m = lin (bl s) := by omega
      subst hk hm
      clear hch hli h3
      have hge : (s.size : Int) ≤ (pos : Int) := by omega
      go_wp2
      go_ret2
      exact ⟨rfl, HB.out⟩

theorem refOf_any (s : ByteArray) (w : World) (hs : s.size ≤ 9223372036854775807) :
    Calls Try.prog 7 #[.string s] w fun e w' => e = .returned (.agg (tyC s.size (chn (bl s)) (lin (bl s)) (hd s) (tl s))) ∧ Below w.heap.size w w' := by
  have KC := hide (fun w => refCounts_any s w hs)
  have KH := hide (fun w => refHead_any s w)
  have KT := hide (fun w => refTail_any s w hs)
  go_enter Try.func7, Try.ntmps7
  go_wp2_with (first | (go_at_call 21; refine (KC.out _).mono ?_; rintro e w1 ⟨rfl, hB1⟩; obtain ⟨⟨d0, d1, d2, d3, d4⟩, ⟨f0, f1, f2, f3, f4⟩, R, _, BB⟩ := chain5 (row_afterR hB1) (.int .i64 s.size) (.int .i64 (chn (bl s) : Nat)) (.int .i64 (lin (bl s) : Nat)) (.string (hd s)) (.string (tl s)); replace R := hide R; replace BB := hide BB) | (go_at_call 22; refine (KH.out _).mono ?_; rintro e w2 ⟨rfl, rfl⟩) | (go_at_call 23; refine (KT.out _).mono ?_; rintro e w3 ⟨rfl, rfl⟩))
  (try simp only [Exit.inBlock, Exit.then])
  refine bodyPost_ret (results_cell_row rfl _ _ w.heap.size _ _ _ _ rfl R.out Try.underlying24 rfl (by kernel_rfl)) rfl ?_
  exact ⟨rfl, BB.out _ _ (Nat.le_refl _) (bseq ((Below.refl _ w).alloc (Nat.le_refl _) _) hB1)⟩
end Go.Proofs.Ytojbclifafmllaa
