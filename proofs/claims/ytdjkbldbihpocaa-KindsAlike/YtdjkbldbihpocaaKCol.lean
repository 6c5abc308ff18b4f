/- What kinds.Columns answers. -/
import Derived.Test.YtdjkbldbihpocaaKRune
import Derived.Test.YtdjkbldbihpocaaKBk
namespace Go.Proofs.Ytdjkbldbihpocaa
open Go.RowKit Go.Shelf
set_option linter.unusedVariables false

theorem wrap64_id (n : Int) (h : -9223372036854775808 ≤ n ∧ n ≤ 9223372036854775807) : wrap64 n = n := by unfold wrap64; omega
def tabV (tab : Int) : Int := min (max 1 tab) 16
/-- Columns that one character takes, behind n of them. -/
def colC (t p n : Int) (r : Nat) : Int := if r = 9 then t - (p + n) % t else widthK (r : Int)
def colL (t p n : Int) : List (Nat × Nat × Nat) → Int
  | [] => n
  | e :: l => colL t p (n + colC t p n e.2.1) l
def colV (l : List UInt8) (from' tab : Int) : Int := colL (tabV tab) (max 0 from' % tabV tab) 0 (Cs 0 l)
theorem widthK_vals (r : Int) : 0 ≤ widthK r ∧ widthK r ≤ 2 := by
  unfold widthK; split; omega; split <;> omega
theorem tabV_bd (tab : Int) : 1 ≤ tabV tab ∧ tabV tab ≤ 16 := by unfold tabV; omega
theorem emod_bd (a t : Int) (ht : 1 ≤ t) : 0 ≤ a % t ∧ a % t < t := ⟨Int.emod_nonneg _ (by omega), Int.emod_lt_of_pos _ (by omega)⟩
theorem colC_9 (t p n : Int) : colC t p n 9 = t - (p + n) % t := by unfold colC; rw [if_pos rfl]
theorem colC_ne (t p n : Int) {r : Nat} (h : r ≠ 9) : colC t p n r = widthK (r : Int) := by unfold colC; rw [if_neg h]
theorem colC_bd {t p n : Int} (r : Nat) (ht : 1 ≤ t ∧ t ≤ 16) (hp : 0 ≤ p) (hn : 0 ≤ n) : 0 ≤ colC t p n r ∧ colC t p n r ≤ 16 := by
  unfold colC
  split
  · have := emod_bd (p + n) t ht.1; omega
  · have := widthK_vals (r : Int); omega

set_option maxHeartbeats 2000000 in
theorem col_any (s : ByteArray) (from' tab : Int) (w : World) (hs : s.size ≤ 281474976710656) :
    Calls Try.prog 15 #[.string s, .int .i64 from', .int .i64 tab] w fun e w' => e = .returned (.int .i64 (colV (bl s) from' tab)) ∧ Below w.heap.size w w' := by
  have ht := tabV_bd tab
  have htn : tabV tab ≠ 0 := by omega
  have hte : tabV tab = min (max 1 tab) 16 := rfl
  have hp := emod_bd (max 0 from') (tabV tab) ht.1
  have hv : colV (bl s) from' tab = colL (tabV tab) (max 0 from' % tabV tab) 0 (Cs 0 (bl s)) := rfl
  rw [hv]
  clear hv
  generalize tabV tab = t at *
  obtain ⟨P, hP⟩ : ∃ P, max 0 from' % t = P := ⟨_, rfl⟩
  rw [hP] at hp ⊢
  obtain ⟨R, hR⟩ : ∃ R, colL t P 0 (Cs 0 (bl s)) = R := ⟨_, rfl⟩
  rw [hR]
  have HR := hide hR
  have HP := hide hP
  clear hR hP
  go_enter Try.func15, Try.ntmps15
  go_wp2
  all_goals
    have hP' := HP.out
    first | (have e : t = 1 := (by omega); subst e) | (have e : t = 16 := (by omega); subst e) | (have e : t = tab := (by omega); subst e)
    first | (have e : P = 0 := (by omega); subst e) | (have e : P = from' % 16 := (by omega); subst e) | (have e : P = 0 := (by rw [← hP', show max 0 from' = 0 by omega]; simp); subst e) | (have e : P = from' % t := (by rw [← hP', show max 0 from' = from' by omega]); subst e)
    clear hP' HP hte
    go_loopw [8] (fun q wr => ∃ (pos : Nat) (n : Int), wr = w.iter s pos ∧ q = .int .i64 n ∧ pos ≤ s.size ∧ 0 ≤ n ∧ n ≤ 16 * pos ∧ colL _ _ n (Cs pos ((bl s).drop pos)) = R) (fun _ wr => s.size - wr.iterPos w.heap.size)
    case atStart => exact ⟨0, 0, rfl, rfl, by omega, by omega, by omega, by simpa using HR.out⟩
    case round =>
      clear HR
      obtain ⟨pos, n, rfl, rfl, hps, hn0, hn1, hL⟩ := hrel
      by_cases hlt : pos < s.size
      · have hnx : ∀ ty, (Instr.next (.pointer (some ⟨w.heap.size, 0, none⟩)) true ty).run Try.prog (w.iter s pos) = _ := fun ty => next_in w s pos ty hlt
        have h1 := cw_pos ((bl s).drop pos)
        have h2 := cw_len _ (bl_drop_ne hlt)
        rw [List.length_drop, bl_len] at h2
        rw [Cs_cons _ _ (bl_drop_ne hlt), List.drop_drop] at hL
        simp only [colL] at hL
        have hcb := colC_bd (rune ((bl s).drop pos)) ht hp.1 hn0
        have kw := fun w => width_any (rune ((bl s).drop pos) : Nat) w
        have KW := hide kw
        clear kw
        have hp1 := hp.1
        have hp2 := hp.2
        have ht1 := ht.1
        have ht2 := ht.2
        clear ht hp
        generalize rune ((bl s).drop pos) = r at *
        generalize cw ((bl s).drop pos) = c at *
        by_cases hr : r = 9
        · subst hr
          rw [colC_9] at hcb hL
          have HL := hide hL
          clear hL
          go_wp2
          go_roundw
          case rel =>
            refine ⟨pos + c, _, rfl, ?_, ?_, ?_, ?_, HL.out⟩
            · first | (congr 1; omega) | (congr 1; simp only [Int.emod_add_emod, Int.zero_add] at hcb ⊢; rw [wrap64_id (_ - _) (by omega), wrap64_id _ (by omega)])
            all_goals omega
          case measure => simp; omega
        · have hr1 : ((r : Int) == 9) = false := by simp; omega
          rw [colC_ne _ _ _ hr] at hcb hL
          have HL := hide hL
          clear hL
          generalize widthK (r : Int) = x at *
          clear hr
          go_wp2_with (go_at_call 12; refine (KW.out _).mono ?_; rintro e w2 ⟨rfl, rfl⟩)
          go_roundw
          case rel => exact ⟨pos + c, n + x, rfl, by go_num, by omega, by omega, by omega, HL.out⟩
          case measure => simp; omega
      · have hnx : ∀ ty, (Instr.next (.pointer (some ⟨w.heap.size, 0, none⟩)) true ty).run Try.prog (w.iter s pos) = _ := fun ty => run_next_end w s pos ty hlt
        rw [List.drop_eq_nil_of_le (by rw [bl_len]; omega), Cs_nil] at hL
        have HL := hide hL
        clear hL
        go_wp2
        go_ret
        exact ⟨ret_int HL.out, iter_below _ _ _⟩
end Go.Proofs.Ytdjkbldbihpocaa
