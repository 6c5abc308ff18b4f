/- What utf.Closes, proper and Pending answer, of every text. -/
import Derived.Test.YtfiocfhehofheaaUPlaces
import Derived.WalkLawsBesides
namespace Go.Proofs.Ytfiocfhehofheaa
open Go.RowKit
set_option linter.unusedVariables false

def closesV (p q : List UInt8) : Nat := if p = [] ∨ 4 ≤ p.length then 0 else cw (p ++ q.take 3) - p.length
def properV (p : List UInt8) : Bool := decide (0 < closesV p [128, 128, 128]) || decide (0 < closesV p [191, 191, 191])
def pendF (l : List UInt8) : Nat → Nat → Nat
  | 0, _ => 0
  | f + 1, n => if n ≤ l.length then (if properV (l.drop (l.length - n)) = true then n else pendF l f (n + 1)) else 0
def pendingV (l : List UInt8) : Nat := pendF l 3 1

theorem bl_append (a b : ByteArray) : bl (a ++ b) = bl a ++ bl b := by
  unfold bl
  rw [ByteArray.data_append]; simp

theorem closes_none (p q : ByteArray) (w : World) (h : p.size = 0 ∨ 4 ≤ p.size) :
    Calls Try.prog 25 #[.string p, .string q] w fun e w' => e = .returned (.int .i64 0) ∧ Below w.heap.size w w' := by
  by_cases h0 : p.size = 0
  · have h1 := isEmpty_true h0
    clear h h0
    go_enter Try.func25, Try.ntmps25
    go_wp2
    go_ret
    exact ⟨rfl, Below.refl _ _⟩
  · have h1 := isEmpty_false (s := p) (by omega)
    have h2 : (4 : Int) ≤ (p.size : Int) := by omega
    clear h h0
    go_enter Try.func25, Try.ntmps25
    go_wp2
    go_ret
    exact ⟨rfl, Below.refl _ _⟩

set_option maxHeartbeats 400000 in
theorem closes_some (p q : ByteArray) (w : World) (h0 : 0 < p.size) (h4 : p.size < 4) (hq : q.size ≤ 9223372036854775807) :
    Calls Try.prog 25 #[.string p, .string q] w fun e w' => e = .returned (.int .i64 (closesV (bl p) (bl q) : Nat)) ∧ Below w.heap.size w w' := by
  have h1 := isEmpty_false h0
  have hp4 : (p.size : Int) < 4 := by omega
  have hcw := cw_le4 (bl p ++ (bl q).take 3)
  have hcp := cw_pos (bl p ++ (bl q).take 3)
  have hcall : ∀ t : ByteArray, t.size ≤ 3 → bl t = (bl q).take 3 → ∀ w, Calls Try.prog 13 #[.string (p ++ t)] w fun e w' => e = .returned (.tuple #[.int .i32 (rune (bl p ++ (bl q).take 3) : Nat), .int .i64 (cw (bl p ++ (bl q).take 3) : Nat), .bool (decide (W (bl p ++ (bl q).take 3) ≠ 0))]) ∧ Below w.heap.size w w' := by
    intro t ht hbt w
    have := first_any (p ++ t) w (by rw [ByteArray.size_append]; omega)
    rw [bl_append, hbt, firstV_ne (fun e => bl_ne h0 (List.append_eq_nil_iff.1 e).1)] at this
    exact this
  unfold closesV
  rw [if_neg (by rw [bl_len]; intro h; rcases h with h | h; exact bl_ne h0 h; omega), bl_len]
  generalize cw (bl p ++ (bl q).take 3) = c at *
  generalize rune (bl p ++ (bl q).take 3) = r at *
  generalize decide (W (bl p ++ (bl q).take 3) ≠ 0) = g at *
  by_cases hk : 3 < q.size
  · have hk' : (3 : Int) < (q.size : Int) := by omega
    have HC := hide (hcall (q.extract 0 3) (by rw [ByteArray.size_extract]; omega) (by rw [bl_to]))
    clear hcall
    go_enter Try.func25, Try.ntmps25
    go_wp2_with (go_at_call 13; refine (HC.out _).mono ?_; rintro e w2 ⟨rfl, hB⟩)
    all_goals
      go_ret
      refine ⟨ret_int ?_, hB⟩
      omega
  · have hk' : (q.size : Int) ≤ 3 := by omega
    have HC := hide (hcall q (by omega) (by rw [List.take_of_length_le (by rw [bl_len]; omega)]))
    clear hcall
    go_enter Try.func25, Try.ntmps25
    go_wp2_with (go_at_call 13; refine (HC.out _).mono ?_; rintro e w2 ⟨rfl, hB⟩)
    all_goals
      go_ret
      refine ⟨ret_int ?_, hB⟩
      omega

theorem closes_any (p q : ByteArray) (w : World) (hq : q.size ≤ 9223372036854775807) :
    Calls Try.prog 25 #[.string p, .string q] w fun e w' => e = .returned (.int .i64 (closesV (bl p) (bl q) : Nat)) ∧ Below w.heap.size w w' := by
  by_cases h : p.size = 0 ∨ 4 ≤ p.size
  · have : closesV (bl p) (bl q) = 0 := by
      unfold closesV
      rw [if_pos]
      rcases h with h | h
      · exact .inl (bl_nil h)
      · exact .inr (by rw [bl_len]; exact h)
    rw [this]
    exact closes_none p q w h
  · exact closes_some p q w (by omega) (by omega) hq

theorem proper_any (p : ByteArray) (w : World) : Calls Try.prog 35 #[.string p] w fun e w' => e = .returned (.bool (properV (bl p))) ∧ Below w.heap.size w w' := by
  have k1 := fun w => closes_any p { data := #[128, 128, 128] } w (by decide)
  have k2 := fun w => closes_any p { data := #[191, 191, 191] } w (by decide)
  have e1 : bl { data := #[128, 128, 128] } = [128, 128, 128] := rfl
  have e2 : bl { data := #[191, 191, 191] } = [191, 191, 191] := rfl
  rw [e1] at k1
  rw [e2] at k2
  unfold properV
  generalize closesV (bl p) [128, 128, 128] = a at *
  generalize closesV (bl p) [191, 191, 191] = b at *
  have K1 := hide k1
  have K2 := hide k2
  clear k1 k2 e1 e2
  by_cases ha : 0 < a
  · have ha' : (0 : Int) < (a : Int) := by omega
    rw [decide_eq_true ha, Bool.true_or]
    clear ha
    go_enter Try.func35, Try.ntmps35
    go_wp2_with (go_at_call 25; refine (K1.out _).mono ?_; rintro e w2 ⟨rfl, hB⟩)
    go_ret
    exact ⟨rfl, hB⟩
  · have ha' : (a : Int) ≤ 0 := by omega
    rw [decide_eq_false ha, Bool.false_or]
    clear ha
    by_cases hb : 0 < b
    · have hb' : (0 : Int) < (b : Int) := by omega
      rw [decide_eq_true hb]
      clear hb
      have M1 := hide trivial
      go_enter Try.func35, Try.ntmps35
      go_wp2_with (first | (go_at_call 25; clear M1; refine (K1.out _).mono ?_; rintro e w2 ⟨rfl, hB⟩) | (go_at_call 25; refine (K2.out _).mono ?_; rintro e w3 ⟨rfl, hB3⟩))
      go_ret
      first | exact ⟨rfl, bseq hB hB3⟩ | exact ⟨ret_bool (decide_eq_true (by omega)), bseq hB hB3⟩
    · have hb' : (b : Int) ≤ 0 := by omega
      rw [decide_eq_false hb]
      clear hb
      have M1 := hide trivial
      go_enter Try.func35, Try.ntmps35
      go_wp2_with (first | (go_at_call 25; clear M1; refine (K1.out _).mono ?_; rintro e w2 ⟨rfl, hB⟩) | (go_at_call 25; refine (K2.out _).mono ?_; rintro e w3 ⟨rfl, hB3⟩))
      go_ret
      first | exact ⟨rfl, bseq hB hB3⟩ | exact ⟨ret_bool (decide_eq_false (by omega)), bseq hB hB3⟩

set_option maxHeartbeats 400000 in
theorem pending_any (s : ByteArray) (w : World) (hs : s.size ≤ 9223372036854775807) :
    Calls Try.prog 24 #[.string s] w fun e w' => e = .returned (.int .i64 (pendingV (bl s) : Nat)) ∧ Below w.heap.size w w' := by
  go_enter Try.func24, Try.ntmps24
  go_wp2
  go_loopw [3] (fun q w' => ∃ n f : Nat, n + f = 4 ∧ 1 ≤ n ∧ q = .int .i64 n ∧ Below w.heap.size w w' ∧ pendF (bl s) f n = pendingV (bl s)) (fun q _ => 4 - (intOf q).toNat)
  case atStart => exact ⟨1, 3, rfl, by omega, rfl, Below.refl _ _, rfl⟩
  case round =>
    obtain ⟨n, f, hnf, hn1, rfl, hB, hp⟩ := hrel
    have HB := hide hB
    have HP := hide hp
    clear hB hp
    by_cases h4 : n = 4
    · subst h4
      have hf : f = 0 := by omega
      subst hf
      go_wp2
      go_ret
      exact ⟨ret_int (by rw [← HP.out]; rfl), HB.out⟩
    · have h4' : (n : Int) < 4 := by omega
      obtain ⟨g, rfl⟩ : ∃ g, f = g + 1 := ⟨f - 1, by omega⟩
      by_cases hl : n ≤ s.size
      · have hl' : (n : Int) ≤ (s.size : Int) := by omega
        have hpr := fun w => proper_any (s.extract (s.size - n) s.size) w
        rw [bl_from] at hpr
        have e1 : ((s.size : Int) - (n : Int)).toNat = s.size - n := by omega
        have HE := hide hpr
        clear hpr
        by_cases hc : properV ((bl s).drop (s.size - n)) = true
        · rw [hc] at HE
          have HC := hide hc
          clear hc
          go_wp2_with (go_at_call 35; refine (HE.out _).mono ?_; rintro e w2 ⟨rfl, hB2⟩)
          go_ret
          refine ⟨ret_int ?_, bseq HB.out hB2⟩
          rw [← HP.out]
          unfold pendF
          rw [bl_len, if_pos hl, if_pos HC.out]
        · have hc' : properV ((bl s).drop (s.size - n)) = false := by simpa using hc
          rw [hc'] at HE
          have HC := hide hc
          clear hc hc'
          go_wp2_with (go_at_call 35; refine (HE.out _).mono ?_; rintro e w2 ⟨rfl, hB2⟩)
          go_roundw
          case rel =>
            refine ⟨n + 1, g, by omega, by omega, by go_num, bseq HB.out hB2, ?_⟩
            rw [← HP.out]
            show _ = pendF (bl s) (g + 1) n
            conv => rhs; unfold pendF
            rw [bl_len, if_pos hl, if_neg HC.out]
          case measure => simp [intOf]; omega
      · have hl' : (s.size : Int) < (n : Int) := by omega
        go_wp2
        go_ret
        refine ⟨ret_int ?_, HB.out⟩
        rw [← HP.out]
        unfold pendF
        rw [bl_len, if_neg hl]
        rfl
end Go.Proofs.Ytfiocfhehofheaa
