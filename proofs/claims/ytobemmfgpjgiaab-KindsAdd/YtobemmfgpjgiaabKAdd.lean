/- The road of KindsAdd: of every two texts, columns and tabs it returns true, and writes nothing that was there. -/
import Derived.Test.YtobemmfgpjgiaabKAwk
import Derived.Test.YtobemmfgpjgiaabKAddM
import Derived.Deep.QuietTactic
import Derived.BigQuiet
import Derived.WalkSmall
namespace Go.Proofs.Ytobemmfgpjgiaab.kindsAdd
open Go.RowKit Go.Shelf Go.Proofs.Ytobemmfgpjgiaab
set_option linter.unusedVariables false

theorem laid (w w1 : World) (a b : ByteArray) (f tab : Int) (t : TypeId) (h : Below (w.alloc (.cells #[.string a, .string b, .int .i64 f, .int .i64 tab] t)).heap.size (w.alloc (.cells #[.string a, .string b, .int .i64 f, .int .i64 tab] t)) w1) :
    (w1.cell? ⟨w.heap.size, 0, none⟩ = some (.string a) ∧ w1.cell? ⟨w.heap.size, 1, none⟩ = some (.string b) ∧ w1.cell? ⟨w.heap.size, 2, none⟩ = some (.int .i64 f) ∧ w1.cell? ⟨w.heap.size, 3, none⟩ = some (.int .i64 tab)) ∧ Below w.heap.size w w1 := by
  have hl : ∀ j, w1.cell? ⟨w.heap.size, j, none⟩ = (w.alloc (.cells #[.string a, .string b, .int .i64 f, .int .i64 tab] t)).cell? ⟨w.heap.size, j, none⟩ := fun j => h.cell (p := ⟨w.heap.size, j, none⟩) (by simp)
  refine ⟨⟨?_, ?_, ?_, ?_⟩, ((Below.refl _ w).alloc (Nat.le_refl _) _).trans (h.mono (by simp))⟩
  · rw [hl]; simp
  · rw [hl]; simp
  · rw [hl]; simp
  · rw [hl]; simp
theorem bl_add (a b : ByteArray) : bl (a ++ b) = bl a ++ bl b := by unfold bl; simp
set_option maxHeartbeats 8000000 in
theorem walk (a b : ByteArray) (f tab : Int) (w : World) (ha : a.size ≤ 140737488355328) (hb : b.size ≤ 140737488355328) (hf : -9223372036854775808 ≤ f ∧ f ≤ 9223372036854775807) (ht : -9223372036854775808 ≤ tab ∧ tab ≤ 9223372036854775807) :
    Calls Try.prog 4 #[.agg #[.string a, .string b, .int .i64 f, .int .i64 tab]] w fun e w' => e = .returned (.bool true) ∧ Below w.heap.size w w' := by
  have kp := fun w => pending_any a w (by omega)
  have hpl := pend_le (bl a)
  rw [bl_len] at hpl
  have hso := seam_open (bl a) (bl b)
  rw [bl_len] at hso
  generalize pendingV (bl a) = n at *
  have hnI : (n : Int) ≤ (a.size : Int) := by omega
  have hn3 : (n : Int) ≤ 3 := by omega
  have eN : (a.size : Int) - (n : Int) = ((a.size - n : Nat) : Int) := by omega
  have kc := fun w => closes_any (a.extract (a.size - n) a.size) b w (by omega)
  rw [bl_from] at kc
  have HB := hide trivial
  by_cases hc : closesV ((bl a).drop (a.size - n)) (bl b) = 0
  · rw [hc] at kc
    have hrr := hso hc
    have KP := hide kp
    have KC := hide kc
    have haC : a.size ≤ 281474976710656 := by omega
    have hbC : b.size ≤ 281474976710656 := by omega
    have habC : (a ++ b).size ≤ 281474976710656 := by rw [ByteArray.size_append]; omega
    have hpb := colV_bd (bl a) (f.tmod 100000) tab
    have hplain := col_plain (bl a) (f.tmod 100000) tab
    have hab := col_add (bl a) (bl b) (f.tmod 100000) tab hrr
    rw [bl_len] at hpb
    rw [← bl_add] at hab
    obtain ⟨F, hF⟩ : ∃ F, f.tmod 100000 = F := ⟨_, rfl⟩
    have hF1 : -100000 < F := by have := Int.lt_tmod_of_pos f (show (0 : Int) < 100000 by decide); omega
    have hF2 : F < 100000 := by have := Int.tmod_lt_of_pos f (show (0 : Int) < 100000 by decide); omega
    rw [hF] at hpb hplain hab
    obtain ⟨p, hp⟩ : ∃ p, colV (bl a) F tab = p := ⟨_, rfl⟩
    rw [hp] at hpb hplain hab
    have hp0 : 0 ≤ p := hpb.1
    have hp1 : p ≤ 2251799813685248 := by omega
    have hqb := colV_bd (bl b) (max 0 F + p) tab
    rw [bl_len] at hqb
    have htab := col_tab (max 0 F + p) tab (by omega)
    have hzb := colV_bd [9] (max 0 F + p) tab
    obtain ⟨q, hq⟩ : ∃ q, colV (bl b) (max 0 F + p) tab = q := ⟨_, rfl⟩
    obtain ⟨z, hz⟩ : ∃ z, colV [9] (max 0 F + p) tab = z := ⟨_, rfl⟩
    have hz9 : bl { data := #[9] } = [9] := rfl
    rw [← hz9] at hz htab hzb
    rw [hq] at hqb hab
    rw [hz] at htab hzb
    have hq0 : 0 ≤ q := hqb.1
    have hq1 : q ≤ 2251799813685248 := by omega
    have hz0 : 0 ≤ z := hzb.1
    have hz1 : z ≤ 16 := by simpa [hz9] using hzb.2
    have HPL := hide hplain
    have hab9 : ¬ 9223372036854775807 < a.size + b.size := by omega
    clear kp kc hso hc hpl hrr hplain hpb hqb hzb hz9 ha hb
    unfold tabV at htab
    have hF0 : F < 0 ∨ 0 ≤ F := by omega
    have ht0 : tab ≤ 0 ∨ (1 ≤ tab ∧ tab ≤ 16) ∨ 16 < tab := by omega
    rcases hF0 with hFs | hFs
    · have hm : max 0 F = 0 := by omega
      rw [hm, Int.zero_add] at hq hz htab
      clear hm
      rcases ht0 with hts | ⟨hts, hts2⟩ | hts
      · rw [show min (max 1 tab) 16 = 1 by omega] at htab
        go_enter Try.func4, Try.ntmps4
        go_wp2_with (go_at_call 6; refine (kawake_any _).mono ?_; rintro e w1 ⟨rfl, hB1⟩; replace HB := hide (laid _ _ _ _ _ _ _ hB1).2; obtain ⟨⟨c0, c1, c2, c3⟩, -⟩ := laid _ _ _ _ _ _ _ hB1; clear hB1)
        go_quiet (fail)
        replace HB := hide (below_drewN HB.out nq)
        clear c0 c1 c2 c3
        go_wp2_with (first | (go_at_call 11; refine (KP.out _).mono ?_; rintro e w2 ⟨rfl, hB1⟩; replace HB := hide (bseq HB.out hB1); clear hB1) | (go_at_call 12; refine (KC.out _).mono ?_; rintro e w3 ⟨rfl, hB1⟩; replace HB := hide (bseq HB.out hB1); clear hB1) | (go_at_call 13; refine (col_any _ _ _ _ (by first | assumption | decide)).mono ?_; rintro e w4 ⟨rfl, hB1⟩; replace HB := hide (bseq HB.out hB1); clear hB1))
        all_goals
          clear KP KC hq hz hab htab hp
          try clear htm
          go_loopw [11, 12] (fun u v wr => ∃ (pos : Nat) (g : Bool) (m : Int), wr = w4.iter a pos ∧ u = .bool g ∧ v = .int .i64 m ∧ pos ≤ a.size ∧ 0 ≤ m ∧ m ≤ 2 * pos ∧ (g && decide (9 ∉ runesV ((bl a).drop pos))) = decide (9 ∉ runesV (bl a)) ∧ m + sumW (runesV ((bl a).drop pos)) = sumW (runesV (bl a))) (fun _ _ wr => a.size - wr.iterPos w4.heap.size)
          case atStart => exact ⟨0, true, 0, rfl, rfl, rfl, by omega, by omega, by omega, by simp, by simp⟩
          case round =>
            obtain ⟨pos, g, m, rfl, rfl, rfl, hps, hm0, hm1, hg, hm⟩ := hrel
            by_cases hlt : pos < a.size
            · have hnx : ∀ ty, (Instr.next (.pointer (some ⟨w4.heap.size, 0, none⟩)) true ty).run Try.prog (w4.iter a pos) = _ := fun ty => next_in w4 a pos ty hlt
              have h1 := cw_pos ((bl a).drop pos)
              have h2 := cw_len _ (bl_drop_ne hlt)
              rw [List.length_drop, bl_len] at h2
              rw [runesV_cons _ (bl_drop_ne hlt), List.drop_drop] at hg hm
              simp only [sumW] at hm
              have kw := fun w => width_any (rune ((bl a).drop pos) : Nat) w
              have hwb := widthK_vals (rune ((bl a).drop pos) : Nat)
              generalize rune ((bl a).drop pos) = r at *
              generalize cw ((bl a).drop pos) = c at *
              generalize widthK (r : Int) = x at *
              have hx0 := hwb.1
              have hx1 := hwb.2
              have KW := hide kw
              have HM := hide hm
              clear kw hm hwb
              have hmC : m ≤ 562949953421312 := by omega
              by_cases hr : r = 9
              · subst hr
                have hg2 : false = decide (9 ∉ runesV (bl a)) := by rw [← hg]; simp
                have HG := hide hg2
                clear hg hg2
                cases g with
                | true =>
                  go_wp2_with (go_at_call 14; refine (KW.out _).mono ?_; rintro e w6 ⟨rfl, rfl⟩)
                  go_roundw
                  case rel => exact ⟨pos + c, false, m + x, rfl, rfl, by go_num, by omega, by omega, by omega, by simpa using HG.out, by have := HM.out; omega⟩
                  case measure => simp; omega
                | false =>
                  go_wp2_with (go_at_call 14; refine (KW.out _).mono ?_; rintro e w6 ⟨rfl, rfl⟩)
                  go_roundw
                  case rel => exact ⟨pos + c, false, m + x, rfl, rfl, by go_num, by omega, by omega, by omega, by simpa using HG.out, by have := HM.out; omega⟩
                  case measure => simp; omega
              · have hr1 : ((r : Int) != 9) = true := by simp; omega
                have hg2 : (g && decide (9 ∉ runesV ((bl a).drop (pos + c)))) = decide (9 ∉ runesV (bl a)) := by
                  rw [← hg]
                  have e : (9 ∉ r :: runesV ((bl a).drop (pos + c))) ↔ 9 ∉ runesV ((bl a).drop (pos + c)) := by
                    rw [List.mem_cons, not_or]; exact ⟨fun h => h.2, fun h => ⟨fun e => hr e.symm, h⟩⟩
                  rw [decide_eq_decide.2 e]
                have HG := hide hg2
                clear hg hg2 hr
                cases g with
                | true =>
                  go_wp2_with (go_at_call 14; refine (KW.out _).mono ?_; rintro e w6 ⟨rfl, rfl⟩)
                  go_roundw
                  case rel => exact ⟨pos + c, true, m + x, rfl, rfl, by go_num, by omega, by omega, by omega, HG.out, by have := HM.out; omega⟩
                  case measure => simp; omega
                | false =>
                  go_wp2_with (go_at_call 14; refine (KW.out _).mono ?_; rintro e w6 ⟨rfl, rfl⟩)
                  go_roundw
                  case rel => exact ⟨pos + c, false, m + x, rfl, rfl, by go_num, by omega, by omega, by omega, HG.out, by have := HM.out; omega⟩
                  case measure => simp; omega
            · have hnx : ∀ ty, (Instr.next (.pointer (some ⟨w4.heap.size, 0, none⟩)) true ty).run Try.prog (w4.iter a pos) = _ := fun ty => run_next_end w4 a pos ty hlt
              rw [List.drop_eq_nil_of_le (by rw [bl_len]; omega), runesV_nil] at hg hm
              simp only [sumW, Int.add_zero] at hm
              cases g with
              | true =>
                have hn9 : 9 ∉ runesV (bl a) := by simpa using hg
                have hpm : p = m := (HPL.out hn9).trans hm.symm
                subst hpm
                clear hg hm hn9
                go_wp2
                go_ret
                exact ⟨rfl, bseq HB.out (iter_below _ _ _)⟩
              | false =>
                clear hg hm
                go_wp2
                go_ret
                exact ⟨rfl, bseq HB.out (iter_below _ _ _)⟩
      · rw [show min (max 1 tab) 16 = tab by omega] at htab
        go_enter Try.func4, Try.ntmps4
        go_wp2_with (go_at_call 6; refine (kawake_any _).mono ?_; rintro e w1 ⟨rfl, hB1⟩; replace HB := hide (laid _ _ _ _ _ _ _ hB1).2; obtain ⟨⟨c0, c1, c2, c3⟩, -⟩ := laid _ _ _ _ _ _ _ hB1; clear hB1)
        go_quiet (fail)
        replace HB := hide (below_drewN HB.out nq)
        clear c0 c1 c2 c3
        go_wp2_with (first | (go_at_call 11; refine (KP.out _).mono ?_; rintro e w2 ⟨rfl, hB1⟩; replace HB := hide (bseq HB.out hB1); clear hB1) | (go_at_call 12; refine (KC.out _).mono ?_; rintro e w3 ⟨rfl, hB1⟩; replace HB := hide (bseq HB.out hB1); clear hB1) | (go_at_call 13; refine (col_any _ _ _ _ (by first | assumption | decide)).mono ?_; rintro e w4 ⟨rfl, hB1⟩; replace HB := hide (bseq HB.out hB1); clear hB1))
        all_goals
          clear KP KC hq hz hab htab hp
          try clear htm
          go_loopw [11, 12] (fun u v wr => ∃ (pos : Nat) (g : Bool) (m : Int), wr = w4.iter a pos ∧ u = .bool g ∧ v = .int .i64 m ∧ pos ≤ a.size ∧ 0 ≤ m ∧ m ≤ 2 * pos ∧ (g && decide (9 ∉ runesV ((bl a).drop pos))) = decide (9 ∉ runesV (bl a)) ∧ m + sumW (runesV ((bl a).drop pos)) = sumW (runesV (bl a))) (fun _ _ wr => a.size - wr.iterPos w4.heap.size)
          case atStart => exact ⟨0, true, 0, rfl, rfl, rfl, by omega, by omega, by omega, by simp, by simp⟩
          case round =>
            obtain ⟨pos, g, m, rfl, rfl, rfl, hps, hm0, hm1, hg, hm⟩ := hrel
            by_cases hlt : pos < a.size
            · have hnx : ∀ ty, (Instr.next (.pointer (some ⟨w4.heap.size, 0, none⟩)) true ty).run Try.prog (w4.iter a pos) = _ := fun ty => next_in w4 a pos ty hlt
              have h1 := cw_pos ((bl a).drop pos)
              have h2 := cw_len _ (bl_drop_ne hlt)
              rw [List.length_drop, bl_len] at h2
              rw [runesV_cons _ (bl_drop_ne hlt), List.drop_drop] at hg hm
              simp only [sumW] at hm
              have kw := fun w => width_any (rune ((bl a).drop pos) : Nat) w
              have hwb := widthK_vals (rune ((bl a).drop pos) : Nat)
              generalize rune ((bl a).drop pos) = r at *
              generalize cw ((bl a).drop pos) = c at *
              generalize widthK (r : Int) = x at *
              have hx0 := hwb.1
              have hx1 := hwb.2
              have KW := hide kw
              have HM := hide hm
              clear kw hm hwb
              have hmC : m ≤ 562949953421312 := by omega
              by_cases hr : r = 9
              · subst hr
                have hg2 : false = decide (9 ∉ runesV (bl a)) := by rw [← hg]; simp
                have HG := hide hg2
                clear hg hg2
                cases g with
                | true =>
                  go_wp2_with (go_at_call 14; refine (KW.out _).mono ?_; rintro e w6 ⟨rfl, rfl⟩)
                  go_roundw
                  case rel => exact ⟨pos + c, false, m + x, rfl, rfl, by go_num, by omega, by omega, by omega, by simpa using HG.out, by have := HM.out; omega⟩
                  case measure => simp; omega
                | false =>
                  go_wp2_with (go_at_call 14; refine (KW.out _).mono ?_; rintro e w6 ⟨rfl, rfl⟩)
                  go_roundw
                  case rel => exact ⟨pos + c, false, m + x, rfl, rfl, by go_num, by omega, by omega, by omega, by simpa using HG.out, by have := HM.out; omega⟩
                  case measure => simp; omega
              · have hr1 : ((r : Int) != 9) = true := by simp; omega
                have hg2 : (g && decide (9 ∉ runesV ((bl a).drop (pos + c)))) = decide (9 ∉ runesV (bl a)) := by
                  rw [← hg]
                  have e : (9 ∉ r :: runesV ((bl a).drop (pos + c))) ↔ 9 ∉ runesV ((bl a).drop (pos + c)) := by
                    rw [List.mem_cons, not_or]; exact ⟨fun h => h.2, fun h => ⟨fun e => hr e.symm, h⟩⟩
                  rw [decide_eq_decide.2 e]
                have HG := hide hg2
                clear hg hg2 hr
                cases g with
                | true =>
                  go_wp2_with (go_at_call 14; refine (KW.out _).mono ?_; rintro e w6 ⟨rfl, rfl⟩)
                  go_roundw
                  case rel => exact ⟨pos + c, true, m + x, rfl, rfl, by go_num, by omega, by omega, by omega, HG.out, by have := HM.out; omega⟩
                  case measure => simp; omega
                | false =>
                  go_wp2_with (go_at_call 14; refine (KW.out _).mono ?_; rintro e w6 ⟨rfl, rfl⟩)
                  go_roundw
                  case rel => exact ⟨pos + c, false, m + x, rfl, rfl, by go_num, by omega, by omega, by omega, HG.out, by have := HM.out; omega⟩
                  case measure => simp; omega
            · have hnx : ∀ ty, (Instr.next (.pointer (some ⟨w4.heap.size, 0, none⟩)) true ty).run Try.prog (w4.iter a pos) = _ := fun ty => run_next_end w4 a pos ty hlt
              rw [List.drop_eq_nil_of_le (by rw [bl_len]; omega), runesV_nil] at hg hm
              simp only [sumW, Int.add_zero] at hm
              cases g with
              | true =>
                have hn9 : 9 ∉ runesV (bl a) := by simpa using hg
                have hpm : p = m := (HPL.out hn9).trans hm.symm
                subst hpm
                clear hg hm hn9
                go_wp2
                go_ret
                exact ⟨rfl, bseq HB.out (iter_below _ _ _)⟩
              | false =>
                clear hg hm
                go_wp2
                go_ret
                exact ⟨rfl, bseq HB.out (iter_below _ _ _)⟩
      · rw [show min (max 1 tab) 16 = 16 by omega] at htab
        go_enter Try.func4, Try.ntmps4
        go_wp2_with (go_at_call 6; refine (kawake_any _).mono ?_; rintro e w1 ⟨rfl, hB1⟩; replace HB := hide (laid _ _ _ _ _ _ _ hB1).2; obtain ⟨⟨c0, c1, c2, c3⟩, -⟩ := laid _ _ _ _ _ _ _ hB1; clear hB1)
        go_quiet (fail)
        replace HB := hide (below_drewN HB.out nq)
        clear c0 c1 c2 c3
        go_wp2_with (first | (go_at_call 11; refine (KP.out _).mono ?_; rintro e w2 ⟨rfl, hB1⟩; replace HB := hide (bseq HB.out hB1); clear hB1) | (go_at_call 12; refine (KC.out _).mono ?_; rintro e w3 ⟨rfl, hB1⟩; replace HB := hide (bseq HB.out hB1); clear hB1) | (go_at_call 13; refine (col_any _ _ _ _ (by first | assumption | decide)).mono ?_; rintro e w4 ⟨rfl, hB1⟩; replace HB := hide (bseq HB.out hB1); clear hB1))
        all_goals
          clear KP KC hq hz hab htab hp
          try clear htm
          go_loopw [11, 12] (fun u v wr => ∃ (pos : Nat) (g : Bool) (m : Int), wr = w4.iter a pos ∧ u = .bool g ∧ v = .int .i64 m ∧ pos ≤ a.size ∧ 0 ≤ m ∧ m ≤ 2 * pos ∧ (g && decide (9 ∉ runesV ((bl a).drop pos))) = decide (9 ∉ runesV (bl a)) ∧ m + sumW (runesV ((bl a).drop pos)) = sumW (runesV (bl a))) (fun _ _ wr => a.size - wr.iterPos w4.heap.size)
          case atStart => exact ⟨0, true, 0, rfl, rfl, rfl, by omega, by omega, by omega, by simp, by simp⟩
          case round =>
            obtain ⟨pos, g, m, rfl, rfl, rfl, hps, hm0, hm1, hg, hm⟩ := hrel
            by_cases hlt : pos < a.size
            · have hnx : ∀ ty, (Instr.next (.pointer (some ⟨w4.heap.size, 0, none⟩)) true ty).run Try.prog (w4.iter a pos) = _ := fun ty => next_in w4 a pos ty hlt
              have h1 := cw_pos ((bl a).drop pos)
              have h2 := cw_len _ (bl_drop_ne hlt)
              rw [List.length_drop, bl_len] at h2
              rw [runesV_cons _ (bl_drop_ne hlt), List.drop_drop] at hg hm
              simp only [sumW] at hm
              have kw := fun w => width_any (rune ((bl a).drop pos) : Nat) w
              have hwb := widthK_vals (rune ((bl a).drop pos) : Nat)
              generalize rune ((bl a).drop pos) = r at *
              generalize cw ((bl a).drop pos) = c at *
              generalize widthK (r : Int) = x at *
              have hx0 := hwb.1
              have hx1 := hwb.2
              have KW := hide kw
              have HM := hide hm
              clear kw hm hwb
              have hmC : m ≤ 562949953421312 := by omega
              by_cases hr : r = 9
              · subst hr
                have hg2 : false = decide (9 ∉ runesV (bl a)) := by rw [← hg]; simp
                have HG := hide hg2
                clear hg hg2
                cases g with
                | true =>
                  go_wp2_with (go_at_call 14; refine (KW.out _).mono ?_; rintro e w6 ⟨rfl, rfl⟩)
                  go_roundw
                  case rel => exact ⟨pos + c, false, m + x, rfl, rfl, by go_num, by omega, by omega, by omega, by simpa using HG.out, by have := HM.out; omega⟩
                  case measure => simp; omega
                | false =>
                  go_wp2_with (go_at_call 14; refine (KW.out _).mono ?_; rintro e w6 ⟨rfl, rfl⟩)
                  go_roundw
                  case rel => exact ⟨pos + c, false, m + x, rfl, rfl, by go_num, by omega, by omega, by omega, by simpa using HG.out, by have := HM.out; omega⟩
                  case measure => simp; omega
              · have hr1 : ((r : Int) != 9) = true := by simp; omega
                have hg2 : (g && decide (9 ∉ runesV ((bl a).drop (pos + c)))) = decide (9 ∉ runesV (bl a)) := by
                  rw [← hg]
                  have e : (9 ∉ r :: runesV ((bl a).drop (pos + c))) ↔ 9 ∉ runesV ((bl a).drop (pos + c)) := by
                    rw [List.mem_cons, not_or]; exact ⟨fun h => h.2, fun h => ⟨fun e => hr e.symm, h⟩⟩
                  rw [decide_eq_decide.2 e]
                have HG := hide hg2
                clear hg hg2 hr
                cases g with
                | true =>
                  go_wp2_with (go_at_call 14; refine (KW.out _).mono ?_; rintro e w6 ⟨rfl, rfl⟩)
                  go_roundw
                  case rel => exact ⟨pos + c, true, m + x, rfl, rfl, by go_num, by omega, by omega, by omega, HG.out, by have := HM.out; omega⟩
                  case measure => simp; omega
                | false =>
                  go_wp2_with (go_at_call 14; refine (KW.out _).mono ?_; rintro e w6 ⟨rfl, rfl⟩)
                  go_roundw
                  case rel => exact ⟨pos + c, false, m + x, rfl, rfl, by go_num, by omega, by omega, by omega, HG.out, by have := HM.out; omega⟩
                  case measure => simp; omega
            · have hnx : ∀ ty, (Instr.next (.pointer (some ⟨w4.heap.size, 0, none⟩)) true ty).run Try.prog (w4.iter a pos) = _ := fun ty => run_next_end w4 a pos ty hlt
              rw [List.drop_eq_nil_of_le (by rw [bl_len]; omega), runesV_nil] at hg hm
              simp only [sumW, Int.add_zero] at hm
              cases g with
              | true =>
                have hn9 : 9 ∉ runesV (bl a) := by simpa using hg
                have hpm : p = m := (HPL.out hn9).trans hm.symm
                subst hpm
                clear hg hm hn9
                go_wp2
                go_ret
                exact ⟨rfl, bseq HB.out (iter_below _ _ _)⟩
              | false =>
                clear hg hm
                go_wp2
                go_ret
                exact ⟨rfl, bseq HB.out (iter_below _ _ _)⟩
    · have hm : max 0 F = F := by omega
      rw [hm] at hq hz htab
      clear hm
      rcases ht0 with hts | ⟨hts, hts2⟩ | hts
      · rw [show min (max 1 tab) 16 = 1 by omega] at htab
        go_enter Try.func4, Try.ntmps4
        go_wp2_with (go_at_call 6; refine (kawake_any _).mono ?_; rintro e w1 ⟨rfl, hB1⟩; replace HB := hide (laid _ _ _ _ _ _ _ hB1).2; obtain ⟨⟨c0, c1, c2, c3⟩, -⟩ := laid _ _ _ _ _ _ _ hB1; clear hB1)
        go_quiet (fail)
        replace HB := hide (below_drewN HB.out nq)
        clear c0 c1 c2 c3
        go_wp2_with (first | (go_at_call 11; refine (KP.out _).mono ?_; rintro e w2 ⟨rfl, hB1⟩; replace HB := hide (bseq HB.out hB1); clear hB1) | (go_at_call 12; refine (KC.out _).mono ?_; rintro e w3 ⟨rfl, hB1⟩; replace HB := hide (bseq HB.out hB1); clear hB1) | (go_at_call 13; refine (col_any _ _ _ _ (by first | assumption | decide)).mono ?_; rintro e w4 ⟨rfl, hB1⟩; replace HB := hide (bseq HB.out hB1); clear hB1))
        all_goals
          clear KP KC hq hz hab htab hp
          try clear htm
          go_loopw [11, 12] (fun u v wr => ∃ (pos : Nat) (g : Bool) (m : Int), wr = w4.iter a pos ∧ u = .bool g ∧ v = .int .i64 m ∧ pos ≤ a.size ∧ 0 ≤ m ∧ m ≤ 2 * pos ∧ (g && decide (9 ∉ runesV ((bl a).drop pos))) = decide (9 ∉ runesV (bl a)) ∧ m + sumW (runesV ((bl a).drop pos)) = sumW (runesV (bl a))) (fun _ _ wr => a.size - wr.iterPos w4.heap.size)
          case atStart => exact ⟨0, true, 0, rfl, rfl, rfl, by omega, by omega, by omega, by simp, by simp⟩
          case round =>
            obtain ⟨pos, g, m, rfl, rfl, rfl, hps, hm0, hm1, hg, hm⟩ := hrel
            by_cases hlt : pos < a.size
            · have hnx : ∀ ty, (Instr.next (.pointer (some ⟨w4.heap.size, 0, none⟩)) true ty).run Try.prog (w4.iter a pos) = _ := fun ty => next_in w4 a pos ty hlt
              have h1 := cw_pos ((bl a).drop pos)
              have h2 := cw_len _ (bl_drop_ne hlt)
              rw [List.length_drop, bl_len] at h2
              rw [runesV_cons _ (bl_drop_ne hlt), List.drop_drop] at hg hm
              simp only [sumW] at hm
              have kw := fun w => width_any (rune ((bl a).drop pos) : Nat) w
              have hwb := widthK_vals (rune ((bl a).drop pos) : Nat)
              generalize rune ((bl a).drop pos) = r at *
              generalize cw ((bl a).drop pos) = c at *
              generalize widthK (r : Int) = x at *
              have hx0 := hwb.1
              have hx1 := hwb.2
              have KW := hide kw
              have HM := hide hm
              clear kw hm hwb
              have hmC : m ≤ 562949953421312 := by omega
              by_cases hr : r = 9
              · subst hr
                have hg2 : false = decide (9 ∉ runesV (bl a)) := by rw [← hg]; simp
                have HG := hide hg2
                clear hg hg2
                cases g with
                | true =>
                  go_wp2_with (go_at_call 14; refine (KW.out _).mono ?_; rintro e w6 ⟨rfl, rfl⟩)
                  go_roundw
                  case rel => exact ⟨pos + c, false, m + x, rfl, rfl, by go_num, by omega, by omega, by omega, by simpa using HG.out, by have := HM.out; omega⟩
                  case measure => simp; omega
                | false =>
                  go_wp2_with (go_at_call 14; refine (KW.out _).mono ?_; rintro e w6 ⟨rfl, rfl⟩)
                  go_roundw
                  case rel => exact ⟨pos + c, false, m + x, rfl, rfl, by go_num, by omega, by omega, by omega, by simpa using HG.out, by have := HM.out; omega⟩
                  case measure => simp; omega
              · have hr1 : ((r : Int) != 9) = true := by simp; omega
                have hg2 : (g && decide (9 ∉ runesV ((bl a).drop (pos + c)))) = decide (9 ∉ runesV (bl a)) := by
                  rw [← hg]
                  have e : (9 ∉ r :: runesV ((bl a).drop (pos + c))) ↔ 9 ∉ runesV ((bl a).drop (pos + c)) := by
                    rw [List.mem_cons, not_or]; exact ⟨fun h => h.2, fun h => ⟨fun e => hr e.symm, h⟩⟩
                  rw [decide_eq_decide.2 e]
                have HG := hide hg2
                clear hg hg2 hr
                cases g with
                | true =>
                  go_wp2_with (go_at_call 14; refine (KW.out _).mono ?_; rintro e w6 ⟨rfl, rfl⟩)
                  go_roundw
                  case rel => exact ⟨pos + c, true, m + x, rfl, rfl, by go_num, by omega, by omega, by omega, HG.out, by have := HM.out; omega⟩
                  case measure => simp; omega
                | false =>
                  go_wp2_with (go_at_call 14; refine (KW.out _).mono ?_; rintro e w6 ⟨rfl, rfl⟩)
                  go_roundw
                  case rel => exact ⟨pos + c, false, m + x, rfl, rfl, by go_num, by omega, by omega, by omega, HG.out, by have := HM.out; omega⟩
                  case measure => simp; omega
            · have hnx : ∀ ty, (Instr.next (.pointer (some ⟨w4.heap.size, 0, none⟩)) true ty).run Try.prog (w4.iter a pos) = _ := fun ty => run_next_end w4 a pos ty hlt
              rw [List.drop_eq_nil_of_le (by rw [bl_len]; omega), runesV_nil] at hg hm
              simp only [sumW, Int.add_zero] at hm
              cases g with
              | true =>
                have hn9 : 9 ∉ runesV (bl a) := by simpa using hg
                have hpm : p = m := (HPL.out hn9).trans hm.symm
                subst hpm
                clear hg hm hn9
                go_wp2
                go_ret
                exact ⟨rfl, bseq HB.out (iter_below _ _ _)⟩
              | false =>
                clear hg hm
                go_wp2
                go_ret
                exact ⟨rfl, bseq HB.out (iter_below _ _ _)⟩
      · rw [show min (max 1 tab) 16 = tab by omega] at htab
        have htm : (wrap64 (F + p + z)).tmod tab = 0 := by rw [wrap64_id _ (by omega), Int.tmod_eq_emod_of_nonneg (by omega)]; exact htab
        go_enter Try.func4, Try.ntmps4
        go_wp2_with (go_at_call 6; refine (kawake_any _).mono ?_; rintro e w1 ⟨rfl, hB1⟩; replace HB := hide (laid _ _ _ _ _ _ _ hB1).2; obtain ⟨⟨c0, c1, c2, c3⟩, -⟩ := laid _ _ _ _ _ _ _ hB1; clear hB1)
        go_quiet (fail)
        replace HB := hide (below_drewN HB.out nq)
        clear c0 c1 c2 c3
        go_wp2_with (first | (go_at_call 11; refine (KP.out _).mono ?_; rintro e w2 ⟨rfl, hB1⟩; replace HB := hide (bseq HB.out hB1); clear hB1) | (go_at_call 12; refine (KC.out _).mono ?_; rintro e w3 ⟨rfl, hB1⟩; replace HB := hide (bseq HB.out hB1); clear hB1) | (go_at_call 13; refine (col_any _ _ _ _ (by first | assumption | decide)).mono ?_; rintro e w4 ⟨rfl, hB1⟩; replace HB := hide (bseq HB.out hB1); clear hB1))
        all_goals
          clear KP KC hq hz hab htab hp
          try clear htm
          go_loopw [11, 12] (fun u v wr => ∃ (pos : Nat) (g : Bool) (m : Int), wr = w4.iter a pos ∧ u = .bool g ∧ v = .int .i64 m ∧ pos ≤ a.size ∧ 0 ≤ m ∧ m ≤ 2 * pos ∧ (g && decide (9 ∉ runesV ((bl a).drop pos))) = decide (9 ∉ runesV (bl a)) ∧ m + sumW (runesV ((bl a).drop pos)) = sumW (runesV (bl a))) (fun _ _ wr => a.size - wr.iterPos w4.heap.size)
          case atStart => exact ⟨0, true, 0, rfl, rfl, rfl, by omega, by omega, by omega, by simp, by simp⟩
          case round =>
            obtain ⟨pos, g, m, rfl, rfl, rfl, hps, hm0, hm1, hg, hm⟩ := hrel
            by_cases hlt : pos < a.size
            · have hnx : ∀ ty, (Instr.next (.pointer (some ⟨w4.heap.size, 0, none⟩)) true ty).run Try.prog (w4.iter a pos) = _ := fun ty => next_in w4 a pos ty hlt
              have h1 := cw_pos ((bl a).drop pos)
              have h2 := cw_len _ (bl_drop_ne hlt)
              rw [List.length_drop, bl_len] at h2
              rw [runesV_cons _ (bl_drop_ne hlt), List.drop_drop] at hg hm
              simp only [sumW] at hm
              have kw := fun w => width_any (rune ((bl a).drop pos) : Nat) w
              have hwb := widthK_vals (rune ((bl a).drop pos) : Nat)
              generalize rune ((bl a).drop pos) = r at *
              generalize cw ((bl a).drop pos) = c at *
              generalize widthK (r : Int) = x at *
              have hx0 := hwb.1
              have hx1 := hwb.2
              have KW := hide kw
              have HM := hide hm
              clear kw hm hwb
              have hmC : m ≤ 562949953421312 := by omega
              by_cases hr : r = 9
              · subst hr
                have hg2 : false = decide (9 ∉ runesV (bl a)) := by rw [← hg]; simp
                have HG := hide hg2
                clear hg hg2
                cases g with
                | true =>
                  go_wp2_with (go_at_call 14; refine (KW.out _).mono ?_; rintro e w6 ⟨rfl, rfl⟩)
                  go_roundw
                  case rel => exact ⟨pos + c, false, m + x, rfl, rfl, by go_num, by omega, by omega, by omega, by simpa using HG.out, by have := HM.out; omega⟩
                  case measure => simp; omega
                | false =>
                  go_wp2_with (go_at_call 14; refine (KW.out _).mono ?_; rintro e w6 ⟨rfl, rfl⟩)
                  go_roundw
                  case rel => exact ⟨pos + c, false, m + x, rfl, rfl, by go_num, by omega, by omega, by omega, by simpa using HG.out, by have := HM.out; omega⟩
                  case measure => simp; omega
              · have hr1 : ((r : Int) != 9) = true := by simp; omega
                have hg2 : (g && decide (9 ∉ runesV ((bl a).drop (pos + c)))) = decide (9 ∉ runesV (bl a)) := by
                  rw [← hg]
                  have e : (9 ∉ r :: runesV ((bl a).drop (pos + c))) ↔ 9 ∉ runesV ((bl a).drop (pos + c)) := by
                    rw [List.mem_cons, not_or]; exact ⟨fun h => h.2, fun h => ⟨fun e => hr e.symm, h⟩⟩
                  rw [decide_eq_decide.2 e]
                have HG := hide hg2
                clear hg hg2 hr
                cases g with
                | true =>
                  go_wp2_with (go_at_call 14; refine (KW.out _).mono ?_; rintro e w6 ⟨rfl, rfl⟩)
                  go_roundw
                  case rel => exact ⟨pos + c, true, m + x, rfl, rfl, by go_num, by omega, by omega, by omega, HG.out, by have := HM.out; omega⟩
                  case measure => simp; omega
                | false =>
                  go_wp2_with (go_at_call 14; refine (KW.out _).mono ?_; rintro e w6 ⟨rfl, rfl⟩)
                  go_roundw
                  case rel => exact ⟨pos + c, false, m + x, rfl, rfl, by go_num, by omega, by omega, by omega, HG.out, by have := HM.out; omega⟩
                  case measure => simp; omega
            · have hnx : ∀ ty, (Instr.next (.pointer (some ⟨w4.heap.size, 0, none⟩)) true ty).run Try.prog (w4.iter a pos) = _ := fun ty => run_next_end w4 a pos ty hlt
              rw [List.drop_eq_nil_of_le (by rw [bl_len]; omega), runesV_nil] at hg hm
              simp only [sumW, Int.add_zero] at hm
              cases g with
              | true =>
                have hn9 : 9 ∉ runesV (bl a) := by simpa using hg
                have hpm : p = m := (HPL.out hn9).trans hm.symm
                subst hpm
                clear hg hm hn9
                go_wp2
                go_ret
                exact ⟨rfl, bseq HB.out (iter_below _ _ _)⟩
              | false =>
                clear hg hm
                go_wp2
                go_ret
                exact ⟨rfl, bseq HB.out (iter_below _ _ _)⟩
      · rw [show min (max 1 tab) 16 = 16 by omega] at htab
        have htm : (wrap64 (F + p + z)).tmod 16 = 0 := by rw [wrap64_id _ (by omega), Int.tmod_eq_emod_of_nonneg (by omega)]; exact htab
        go_enter Try.func4, Try.ntmps4
        go_wp2_with (go_at_call 6; refine (kawake_any _).mono ?_; rintro e w1 ⟨rfl, hB1⟩; replace HB := hide (laid _ _ _ _ _ _ _ hB1).2; obtain ⟨⟨c0, c1, c2, c3⟩, -⟩ := laid _ _ _ _ _ _ _ hB1; clear hB1)
        go_quiet (fail)
        replace HB := hide (below_drewN HB.out nq)
        clear c0 c1 c2 c3
        go_wp2_with (first | (go_at_call 11; refine (KP.out _).mono ?_; rintro e w2 ⟨rfl, hB1⟩; replace HB := hide (bseq HB.out hB1); clear hB1) | (go_at_call 12; refine (KC.out _).mono ?_; rintro e w3 ⟨rfl, hB1⟩; replace HB := hide (bseq HB.out hB1); clear hB1) | (go_at_call 13; refine (col_any _ _ _ _ (by first | assumption | decide)).mono ?_; rintro e w4 ⟨rfl, hB1⟩; replace HB := hide (bseq HB.out hB1); clear hB1))
        all_goals
          clear KP KC hq hz hab htab hp
          try clear htm
          go_loopw [11, 12] (fun u v wr => ∃ (pos : Nat) (g : Bool) (m : Int), wr = w4.iter a pos ∧ u = .bool g ∧ v = .int .i64 m ∧ pos ≤ a.size ∧ 0 ≤ m ∧ m ≤ 2 * pos ∧ (g && decide (9 ∉ runesV ((bl a).drop pos))) = decide (9 ∉ runesV (bl a)) ∧ m + sumW (runesV ((bl a).drop pos)) = sumW (runesV (bl a))) (fun _ _ wr => a.size - wr.iterPos w4.heap.size)
          case atStart => exact ⟨0, true, 0, rfl, rfl, rfl, by omega, by omega, by omega, by simp, by simp⟩
          case round =>
            obtain ⟨pos, g, m, rfl, rfl, rfl, hps, hm0, hm1, hg, hm⟩ := hrel
            by_cases hlt : pos < a.size
            · have hnx : ∀ ty, (Instr.next (.pointer (some ⟨w4.heap.size, 0, none⟩)) true ty).run Try.prog (w4.iter a pos) = _ := fun ty => next_in w4 a pos ty hlt
              have h1 := cw_pos ((bl a).drop pos)
              have h2 := cw_len _ (bl_drop_ne hlt)
              rw [List.length_drop, bl_len] at h2
              rw [runesV_cons _ (bl_drop_ne hlt), List.drop_drop] at hg hm
              simp only [sumW] at hm
              have kw := fun w => width_any (rune ((bl a).drop pos) : Nat) w
              have hwb := widthK_vals (rune ((bl a).drop pos) : Nat)
              generalize rune ((bl a).drop pos) = r at *
              generalize cw ((bl a).drop pos) = c at *
              generalize widthK (r : Int) = x at *
              have hx0 := hwb.1
              have hx1 := hwb.2
              have KW := hide kw
              have HM := hide hm
              clear kw hm hwb
              have hmC : m ≤ 562949953421312 := by omega
              by_cases hr : r = 9
              · subst hr
                have hg2 : false = decide (9 ∉ runesV (bl a)) := by rw [← hg]; simp
                have HG := hide hg2
                clear hg hg2
                cases g with
                | true =>
                  go_wp2_with (go_at_call 14; refine (KW.out _).mono ?_; rintro e w6 ⟨rfl, rfl⟩)
                  go_roundw
                  case rel => exact ⟨pos + c, false, m + x, rfl, rfl, by go_num, by omega, by omega, by omega, by simpa using HG.out, by have := HM.out; omega⟩
                  case measure => simp; omega
                | false =>
                  go_wp2_with (go_at_call 14; refine (KW.out _).mono ?_; rintro e w6 ⟨rfl, rfl⟩)
                  go_roundw
                  case rel => exact ⟨pos + c, false, m + x, rfl, rfl, by go_num, by omega, by omega, by omega, by simpa using HG.out, by have := HM.out; omega⟩
                  case measure => simp; omega
              · have hr1 : ((r : Int) != 9) = true := by simp; omega
                have hg2 : (g && decide (9 ∉ runesV ((bl a).drop (pos + c)))) = decide (9 ∉ runesV (bl a)) := by
                  rw [← hg]
                  have e : (9 ∉ r :: runesV ((bl a).drop (pos + c))) ↔ 9 ∉ runesV ((bl a).drop (pos + c)) := by
                    rw [List.mem_cons, not_or]; exact ⟨fun h => h.2, fun h => ⟨fun e => hr e.symm, h⟩⟩
                  rw [decide_eq_decide.2 e]
                have HG := hide hg2
                clear hg hg2 hr
                cases g with
                | true =>
                  go_wp2_with (go_at_call 14; refine (KW.out _).mono ?_; rintro e w6 ⟨rfl, rfl⟩)
                  go_roundw
                  case rel => exact ⟨pos + c, true, m + x, rfl, rfl, by go_num, by omega, by omega, by omega, HG.out, by have := HM.out; omega⟩
                  case measure => simp; omega
                | false =>
                  go_wp2_with (go_at_call 14; refine (KW.out _).mono ?_; rintro e w6 ⟨rfl, rfl⟩)
                  go_roundw
                  case rel => exact ⟨pos + c, false, m + x, rfl, rfl, by go_num, by omega, by omega, by omega, HG.out, by have := HM.out; omega⟩
                  case measure => simp; omega
            · have hnx : ∀ ty, (Instr.next (.pointer (some ⟨w4.heap.size, 0, none⟩)) true ty).run Try.prog (w4.iter a pos) = _ := fun ty => run_next_end w4 a pos ty hlt
              rw [List.drop_eq_nil_of_le (by rw [bl_len]; omega), runesV_nil] at hg hm
              simp only [sumW, Int.add_zero] at hm
              cases g with
              | true =>
                have hn9 : 9 ∉ runesV (bl a) := by simpa using hg
                have hpm : p = m := (HPL.out hn9).trans hm.symm
                subst hpm
                clear hg hm hn9
                go_wp2
                go_ret
                exact ⟨rfl, bseq HB.out (iter_below _ _ _)⟩
              | false =>
                clear hg hm
                go_wp2
                go_ret
                exact ⟨rfl, bseq HB.out (iter_below _ _ _)⟩
  · have hcn : ((closesV ((bl a).drop (a.size - n)) (bl b) : Nat) : Int) ≠ 0 := by omega
    generalize closesV ((bl a).drop (a.size - n)) (bl b) = c at *
    have hcb : ((c : Int) != 0) = true := by simp; omega
    have KP := hide kp
    have KC := hide kc
    have EN := hide eN
    clear kp kc hso hc hcn hpl
    go_enter Try.func4, Try.ntmps4
    go_wp2_with (go_at_call 6; refine (kawake_any _).mono ?_; rintro e w1 ⟨rfl, hB1⟩; replace HB := hide (laid _ _ _ _ _ _ _ hB1).2; obtain ⟨⟨c0, c1, c2, c3⟩, -⟩ := laid _ _ _ _ _ _ _ hB1; clear hB1)
    go_quiet (fail)
    replace HB := hide (below_drewN HB.out nq)
    clear c0 c1 c2 c3
    go_wp2_with (first | (go_at_call 11; refine (KP.out _).mono ?_; rintro e w2 ⟨rfl, hB1⟩; replace HB := hide (bseq HB.out hB1); clear hB1) | (go_at_call 12; refine (KC.out _).mono ?_; rintro e w3 ⟨rfl, hB1⟩; replace HB := hide (bseq HB.out hB1); clear hB1))
    go_ret
    exact ⟨rfl, HB.out⟩
end Go.Proofs.Ytobemmfgpjgiaab.kindsAdd
