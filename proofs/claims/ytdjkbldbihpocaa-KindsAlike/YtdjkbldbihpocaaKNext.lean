/- What kinds.classOf and Next answer. -/
import Derived.Test.YtdjkbldbihpocaaKRune
import Derived.Test.YtdjkbldbihpocaaKInto
namespace Go.Proofs.Ytdjkbldbihpocaa
open Go.RowKit Go.Shelf
set_option linter.unusedVariables false

/-- The class of a rune: 0 other, 1 blank, 2 word. -/
def clsK (r : Int) : Int := if blankK r then 1 else if wordK r then 2 else 0
set_option maxHeartbeats 1000000 in
theorem class_any (r : Int) (w : World) : Calls Try.prog 22 #[.int .i32 r] w fun e w' => e = .returned (.int .i64 (clsK r)) ∧ w' = w := by
  go_enter Try.func22, Try.ntmps22
  go_wp2_with (first | (go_at_call 9; refine (blank_any _ _).mono ?_; rintro e w1 ⟨rfl, rfl⟩) | (go_at_call 10; refine (word_any _ _).mono ?_; rintro e w1 ⟨rfl, rfl⟩))
  all_goals go_ret
  all_goals refine ⟨ret_k ?_, rfl⟩
  all_goals first | (simp [clsK, *]; done) | (simp_all; done)

/-- The first of these places whose character is no blank and of another class than the one ahead of it. -/
def nxt (a : Int) : List (Nat × Nat × Nat) → Option Nat
  | [] => none
  | e :: t => if clsK (e.2.1 : Int) ≠ 1 ∧ clsK (e.2.1 : Int) ≠ a then some e.1 else nxt (clsK (e.2.1 : Int)) t
def nextP (l : List UInt8) (p : Nat) : Nat := match Cs 0 (l.drop p) with
  | [] => l.length
  | e :: t => match nxt (clsK (e.2.1 : Int)) t with
    | none => l.length
    | some q => p + q
def nextV (l : List UInt8) (n : Int) : Nat := nextP l (intoV l n)
/-- What is still to be found behind a place. -/
def nxtG (a : Int) (pos : Nat) (l : List UInt8) (R p N : Nat) : Prop :=
  (match nxt a (Cs pos (l.drop pos)) with | none => N | some q => p + q) = R
theorem nxtG_here {a : Int} {pos : Nat} {l : List UInt8} {R p N : Nat} (hlt : pos < l.length) (h : nxtG a pos l R p N) (h1 : clsK (rune (l.drop pos) : Nat) ≠ 1) (h2 : clsK (rune (l.drop pos) : Nat) ≠ a) : p + pos = R := by
  unfold nxtG at h
  rw [Cs_cons _ _ (drop_ne hlt)] at h
  simp only [nxt] at h
  rw [if_pos ⟨h1, h2⟩] at h
  exact h
theorem nxtG_on {a : Int} {pos : Nat} {l : List UInt8} {R p N : Nat} (hlt : pos < l.length) (h : nxtG a pos l R p N) (h1 : clsK (rune (l.drop pos) : Nat) = 1 ∨ clsK (rune (l.drop pos) : Nat) = a) : nxtG (clsK (rune (l.drop pos) : Nat)) (pos + cw (l.drop pos)) l R p N := by
  unfold nxtG at h ⊢
  rw [Cs_cons _ _ (drop_ne hlt)] at h
  simp only [nxt] at h
  rw [if_neg (fun h => h1.elim h.1 h.2), List.drop_drop] at h
  exact h
theorem nxtG_end {a : Int} {pos : Nat} {l : List UInt8} {R p N : Nat} (hlt : l.length ≤ pos) (h : nxtG a pos l R p N) : N = R := by
  unfold nxtG at h
  rw [List.drop_eq_nil_of_le hlt] at h
  exact h
theorem nxtG_start {l : List UInt8} {p : Nat} (hlt : 0 < (l.drop p).length) : nxtG (clsK (rune (l.drop p) : Nat)) (cw (l.drop p)) (l.drop p) (nextP l p) p l.length := by
  unfold nxtG nextP
  rw [Cs_cons 0 _ (List.length_pos_iff.1 hlt), Nat.zero_add]
theorem nextP_end {l : List UInt8} {p : Nat} (hlt : (l.drop p).length = 0) : nextP l p = l.length := by
  unfold nextP
  rw [List.length_eq_zero_iff.1 hlt]
  rfl
theorem clsK_vals (r : Int) : clsK r = 0 ∨ clsK r = 1 ∨ clsK r = 2 := by
  unfold clsK; split; exact .inr (.inl rfl); split; exact .inr (.inr rfl); exact .inl rfl

set_option maxHeartbeats 2000000 in
theorem next_any (s : ByteArray) (n : Int) (w : World) (hs : s.size ≤ 9223372036854775807) :
    Calls Try.prog 13 #[.string s, .int .i64 n] w fun e w' => e = .returned (.int .i64 (nextV (bl s) n : Nat)) ∧ Below w.heap.size w w' := by
  have hi := into_le (bl s) n
  rw [bl_len] at hi
  have ki := fun w => into_any s n w hs
  have hv : nextV (bl s) n = nextP (bl s) (intoV (bl s) n) := rfl
  rw [hv]
  clear hv
  generalize intoV (bl s) n = p at *
  have hpI : (p : Int) ≤ (s.size : Int) := by omega
  have e' : bl (s.extract p s.size) = (bl s).drop p := bl_from s p
  have hsz : (s.extract p s.size).size = s.size - p := by simp
  have hst := fun h => @nxtG_start (bl s) p h
  have hen := fun h => @nextP_end (bl s) p h
  rw [← e', bl_len, bl_len] at hst
  rw [← e', bl_len, bl_len] at hen
  generalize nextP (bl s) p = R at *
  have KI := hide ki
  have HST := hide hst
  have HEN := hide hen
  clear ki hst hen
  obtain ⟨t, ht⟩ : ∃ t, s.extract p s.size = t := ⟨_, rfl⟩
  rw [ht] at hsz e' HST HEN
  go_enter Try.func13, Try.ntmps13
  go_wp2_with (go_at_call 21; refine (KI.out _).mono ?_; rintro e w1 ⟨rfl, hB⟩)
  clear ht
  go_loopw [6] (fun q wr => ∃ (pos : Nat) (a : Int), wr = w1.iter t pos ∧ q = .int .i64 a ∧ pos ≤ t.size ∧ ((pos = 0 ∧ a = 1) ∨ (0 < pos ∧ nxtG a pos (bl t) R p s.size))) (fun _ wr => t.size - wr.iterPos w1.heap.size)
  case atStart => exact ⟨0, 1, rfl, rfl, by omega, .inl ⟨rfl, rfl⟩⟩
  case round =>
    obtain ⟨pos, a, rfl, rfl, hps, hg⟩ := hrel
    by_cases hlt : pos < t.size
    · have hnx : ∀ ty, (Instr.next (.pointer (some ⟨w1.heap.size, 0, none⟩)) true ty).run Try.prog (w1.iter t pos) = _ := fun ty => next_in w1 t pos ty hlt
      have h1 := cw_pos ((bl t).drop pos)
      have h2 := cw_len _ (bl_drop_ne hlt)
      rw [List.length_drop, bl_len] at h2
      have kc := fun w => class_any (rune ((bl t).drop pos) : Nat) w
      have KC := hide kc
      clear kc
      have hltl : pos < (bl t).length := by rw [bl_len]; exact hlt
      rcases hg with ⟨rfl, rfl⟩ | ⟨hp0, hg⟩
      · have hst := HST.out hlt
        rw [List.drop_zero] at *
        generalize rune (bl t) = r at *
        generalize cw (bl t) = c at *
        generalize clsK (r : Int) = k at *
        have HS := hide hst
        clear HST HEN KI hst
        go_wp2_with (go_at_call 22; refine (KC.out _).mono ?_; rintro e w2 ⟨rfl, rfl⟩)
        go_roundw
        case rel => exact ⟨c, k, by simp, rfl, by omega, .inr ⟨by omega, HS.out⟩⟩
        case measure => simp; omega
      · have hp1 : decide ((0 : Int) < (pos : Int)) = true := by simp; omega
        have hhere := fun h k => nxtG_here hltl hg h k
        have hon := fun h => nxtG_on hltl hg h
        have hwr : ((p : Int) + (pos : Int)) ≤ 9223372036854775807 := by omega
        generalize rune ((bl t).drop pos) = r at *
        generalize cw ((bl t).drop pos) = c at *
        generalize clsK (r : Int) = k at *
        clear hg
        by_cases hk1 : k = 1
        · subst hk1
          have HS := hide (hon (.inl rfl))
          clear HST HEN KI hon hhere
          go_wp2_with (go_at_call 22; refine (KC.out _).mono ?_; rintro e w2 ⟨rfl, rfl⟩)
          go_roundw
          case rel => exact ⟨pos + c, 1, rfl, rfl, by omega, .inr ⟨by omega, HS.out⟩⟩
          case measure => simp; omega
        · have hb1 : (k != 1) = true := by simp [hk1]
          by_cases hka : k = a
          · subst hka
            have HS := hide (hon (.inr rfl))
            clear HST HEN KI hon hhere hk1
            go_wp2_with (go_at_call 22; refine (KC.out _).mono ?_; rintro e w2 ⟨rfl, rfl⟩)
            go_roundw
            case rel => exact ⟨pos + c, k, rfl, rfl, by omega, .inr ⟨by omega, HS.out⟩⟩
            case measure => simp; omega
          · have hb2 : (k != a) = true := by simp [hka]
            have HS := hide (hhere hk1 hka)
            clear HST HEN KI hon hhere hk1 hka
            go_wp2_with (go_at_call 22; refine (KC.out _).mono ?_; rintro e w2 ⟨rfl, rfl⟩)
            go_ret
            refine ⟨ret_int ?_, bseq hB (iter_below _ _ _)⟩
            have := HS.out
            go_num
    · have hnx : ∀ ty, (Instr.next (.pointer (some ⟨w1.heap.size, 0, none⟩)) true ty).run Try.prog (w1.iter t pos) = _ := fun ty => run_next_end w1 t pos ty hlt
      have hR : (s.size : Int) = (R : Int) := by
        rcases hg with ⟨rfl, rfl⟩ | ⟨hp0, hg⟩
        · have := HEN.out (by omega); omega
        · have := nxtG_end (by rw [bl_len]; omega) hg; omega
      have HR := hide hR
      clear hg hR HST HEN KI
      go_wp2
      go_ret
      exact ⟨ret_int HR.out, bseq hB (iter_below _ _ _)⟩
end Go.Proofs.Ytdjkbldbihpocaa
