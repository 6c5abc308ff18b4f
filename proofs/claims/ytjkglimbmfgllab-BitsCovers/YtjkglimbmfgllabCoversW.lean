/- The road of BitsCovers: for every place and every length it returns true and writes nothing that was there. -/
import Derived.Test.YtjkglimbmfgllabRangesW
import Derived.Deep.QuietTactic
import Derived.BigQuiet
namespace Go.Proofs.Ytjkglimbmfgllab.bitsCovers
open Go.RowKit Go.Proofs.Ytjkglimbmfgllab Go.Proofs.Ytjkglimbmfgllab.bitsRanges
set_option linter.unusedVariables false

/-- How many lines the first words of a range are of. -/
def lineCount (fw l0 : Int) (i : Nat) : Nat := if i = 0 then 0 else ((fw + i - 1) / 8 - l0 + 1).toNat

theorem count_add {a : Int} {k : Nat} (g1 : 0 ≤ a) (h : k = 0 ∨ (a / 8 + (k : Int)) % 8 = 0) : lineCount (a / 8) (a / 64) (k + 1) = lineCount (a / 8) (a / 64) k + 1 := by
  unfold lineCount
  rw [if_neg (by omega)]
  split <;> omega
theorem count_val {a : Int} {k : Nat} (g1 : 0 ≤ a) (h : k = 0 ∨ (a / 8 + (k : Int)) % 8 = 0) : a / 64 + (lineCount (a / 8) (a / 64) k : Int) = (a / 8 + (k : Int)) / 8 := by
  unfold lineCount
  split <;> omega
theorem count_same {a : Int} {k : Nat} (g1 : 0 ≤ a) (h0 : ¬ k = 0) (h : ¬ (a / 8 + (k : Int)) % 8 = 0) : lineCount (a / 8) (a / 64) (k + 1) = lineCount (a / 8) (a / 64) k := by
  unfold lineCount
  rw [if_neg (by omega), if_neg h0]
  omega
theorem ownsRow_drewN {W : World} {base : Nat} {e : TypeId} {size : Nat} {v : Value} {k : Nat} {xs : List Value} (h : W.ownsRow base e size v k xs) (n : Nat) : (W.drewN n).ownsRow base e size v k xs := h

theorem gone_two {gf : Nat} {s : Int} {X : List Int} {n q : Nat} {a m : Int} (h : Tells gf s X n q a m) (W : World) :
    Calls Try.prog 13 #[.func (.func gf) #[] #[.pointer (some ⟨W.heap.size, 0, none⟩), .pointer (some ⟨W.heap.size + 1, 0, none⟩)], .int .i64 q] ((W.alloc (.cells #[.int .i64 a] 3)).alloc (.cells #[.int .i64 m] 3))
      fun e w' => ∃ a1 c1, e = .returned (.slice a1 n c1) ∧ SlI w' a1 X ∧ Below W.heap.size W w' := by
  have ht := Two.new W a m
  refine (h.2 _ W.heap.size (W.heap.size + 1) (by have := ht.1; omega) ht.1 ht.2.1 ht.2.2).mono ?_
  rintro e w' ⟨a1, c1, rfl, hs, hB⟩
  exact ⟨a1, c1, rfl, hs, bseq (two_below W _ _) hB⟩

set_option maxHeartbeats 2000000 in
theorem bad_low (a n : Int) (w : World) (ha1 : -9223372036854775808 ≤ a) (ha2 : a ≤ 9223372036854775807) (hn : n ≤ 4096) (hb : a < 0 ∨ n < 1 ∨ 9223372036854775807 - a < n) :
    Calls Try.prog 5 #[.int .i64 a, .int .i64 n] w fun e w' => e = .returned (.bool true) ∧ Below w.heap.size w w' := by
  have t8 := tells8 a (n) 1000 ha1 ha2 (by omega) (by omega)
  have t64 := tells64 a (n) 1000 ha1 ha2 (by omega) (by omega)
  have e8 : (unitsV 8 a (n)).take 1000 = [] := by unfold unitsV; rw [if_pos hb]; rfl
  have e64 : (unitsV 64 a (n)).take 1000 = [] := by unfold unitsV; rw [if_pos hb]; rfl
  rw [e8] at t8
  rw [e64] at t64
  have G8 := hide (gone_two t8)
  have G64 := hide (gone_two t64)
  clear t8 t64 e8 e64
  rcases (show a < 0 ∨ (0 ≤ a ∧ n < 1) ∨ (0 ≤ a ∧ 1 ≤ n ∧ 9223372036854775807 - a < n) by omega) with c | ⟨c, c1⟩ | ⟨c, c1, c2⟩
  all_goals
    clear hb
    go_enter Try.func5, Try.ntmps5
    go_wp2_with (first | (go_at_call 14; refine (words_in _ _ _).mono ?_; rintro e w1 ⟨rfl, rfl⟩) | (go_at_call 15; refine (lines_any _ _ _).mono ?_; rintro e w1 ⟨rfl, rfl⟩) | (go_at_call 13; refine (unhide G8 w).mono ?_; rintro e w2 ⟨a8, c8, rfl, hs8, hB2⟩; clear G8) | (go_at_call 13; refine (unhide G64 w2).mono ?_; rintro e w3 ⟨a64, c64, rfl, hs64, hB3⟩) | (go_at_call 11; refine (works_any _).mono ?_; rintro e w4 ⟨rfl, hB4⟩))
    go_ret
    exact ⟨rfl, bseq (bseq hB2 hB3) hB4⟩

set_option maxHeartbeats 2000000 in
theorem good_low (a n : Int) (w : World) (hn : n ≤ 4096) (g1 : 0 ≤ a) (g2 : 1 ≤ n) (g3 : n ≤ 9223372036854775807 - a) :
    Calls Try.prog 5 #[.int .i64 a, .int .i64 n] w fun e w' => e = .returned (.bool true) ∧ Below w.heap.size w w' := by
  obtain ⟨i0, hi, hz0, hz1, hz2⟩ := info_parts Try.info3
  have t8 := tells8 a (n) 1000 (by omega) (by omega) (by omega) (by omega)
  have t64 := tells64 a (n) 1000 (by omega) (by omega) (by omega) (by omega)
  obtain ⟨N8, h8⟩ : ∃ N8 : Nat, (N8 : Int) = (a + (n) - 1) / 8 - a / 8 + 1 := ⟨((a + (n) - 1) / 8 - a / 8 + 1).toNat, by omega⟩
  obtain ⟨N64, h64⟩ : ∃ N64 : Nat, (N64 : Int) = (a + (n) - 1) / 64 - a / 64 + 1 := ⟨((a + (n) - 1) / 64 - a / 64 + 1).toNat, by omega⟩
  have hN8 : N8 ≤ 600 := by omega
  have hN8b : 1 ≤ N8 := by omega
  have e8 : (unitsV 8 a (n)).take 1000 = upto (a / 8) N8 := by
    unfold unitsV; rw [if_neg (by omega), show ((a + (n) - 1) / 8 - a / 8 + 1).toNat = N8 by omega, List.take_of_length_le (by rw [upto_length]; omega)]
  have e64 : (unitsV 64 a (n)).take 1000 = upto (a / 64) N64 := by
    unfold unitsV; rw [if_neg (by omega), show ((a + (n) - 1) / 64 - a / 64 + 1).toNat = N64 by omega, List.take_of_length_le (by rw [upto_length]; omega)]
  rw [e8, upto_length] at t8
  rw [e64, upto_length] at t64
  have G8 := hide (gone_two t8)
  have G64 := hide (gone_two t64)
  have H8 := hide h8
  have H64 := hide h64
  have hsub : a + ((n) - 1) = a + (n) - 1 := by omega
  have HSUB := hide hsub
  clear t8 t64 e8 e64 h8 h64 hsub
  go_enter Try.func5, Try.ntmps5
  go_wp2_with (first | (go_at_call 14; refine (words_in _ _ _).mono ?_; rintro e w1 ⟨rfl, rfl⟩) | (go_at_call 15; refine (lines_any _ _ _).mono ?_; rintro e w1 ⟨rfl, rfl⟩) | (go_at_call 13; refine (unhide G8 w).mono ?_; rintro e w2 ⟨a8, c8, rfl, hs8, hB2⟩; clear G8) | (go_at_call 13; refine (unhide G64 w2).mono ?_; rintro e w3 ⟨a64, c64, rfl, hs64, hB3⟩))
  have HB3 := hide (bseq hB2 hB3)
  have HS8 := hide (hs8.below hB3)
  have HS64 := hide hs64
  clear hs8 hs64 hB2 hB3 G64
  go_loopw [7, 8] (fun v i wr => ∃ (k : Nat) (a1 : Option Addr) (c1 : Nat), k ≤ N8 ∧ i = .int .i64 k ∧ v = .slice a1 (lineCount (a / 8) (a / 64) k) c1 ∧ wr.ownsRow w3.heap.size 3 1 (.slice a1 (lineCount (a / 8) (a / 64) k) c1) (lineCount (a / 8) (a / 64) k) ((upto (a / 64) (lineCount (a / 8) (a / 64) k)).map (Value.int .i64)) ∧ Below w3.heap.size w3 wr) (fun _ i _ => N8 - (intOf i).toNat)
  case atStart => exact ⟨0, none, 0, by omega, rfl, rfl, World.ownsRow_nil _ _ _ _, Below.refl _ _⟩
  case round =>
    obtain ⟨k, a1, c1, hk, rfl, rfl, hown, hB⟩ := hrel
    have HO := hide hown
    have HB := hide hB
    have hsz := hB.size
    clear hown hB
    obtain ⟨b8, o8, rfl, hb8, hseg⟩ : ∃ b off, a8 = some ⟨b, off, none⟩ ∧ b < w3.heap.size ∧ ∀ (i : Nat) (x : Int), (upto (a / 8) N8)[i]? = some x → w3.cell? ⟨b, off + i, none⟩ = some (.int .i64 x) := by
      rcases HS8.out with h | h
      · have := congrArg List.length h; rw [upto_length] at this; simp at this; omega
      · exact h
    have hat : ∀ i, i < N8 → wr.cell? ⟨b8, o8 + i, none⟩ = some (.int .i64 (a / 8 + (i : Int))) := fun i hi => (HB.out.cell (p := ⟨b8, o8 + i, none⟩) hb8).trans (hseg i _ (by unfold upto; rw [List.getElem?_map, List.getElem?_range hi]; rfl))
    have HAT := hide hat
    clear hseg hat
    by_cases hlt : k < N8
    · have hki : (k : Int) < (N8 : Int) := by omega
      have hc := HAT.out k hlt
      have hq1 : ((a / 8 + (k : Int)) != (a / 8 + (k : Int))) = false := by simp
      have hup : a / 8 + (k : Int) ≤ 1152921504606846976 := by have := H8.out; omega
      have hlo : 0 ≤ a / 8 + (k : Int) := by omega
      have hlc : lineCount (a / 8) (a / 64) k ≤ 1000 := by unfold lineCount; split <;> omega
      have HLC := hide hlc
      clear hlc
      by_cases hk0 : k = 0
      · have hg0 : ((k : Int) == 0) = true := by rw [beq_iff_eq]; omega
        have HADD : Hid (k = 0 ∨ (a / 8 + (k : Int)) % 8 = 0) := .inl hk0
        clear hk0
        go_wp2
        go_quiet (fail)
        go_wp2_with (at_builtin; refine wpList_append_own _ rfl _ _ 23 rfl w3.heap.size 3 i0 (.int .i64 0) 1 8 Try.underlying23 hi hz0 hz1 hz2 rfl (by omega) _ _ _ rfl ((ownsRow_drewN HO.out nq).alloc _) ⟨wr.heap.size, 0, none⟩ 1 1 [.int .i64 ((a / 8 + (k : Int)) / 8)] rfl rfl (cell_one_new _ _ _) (by simp [Value.oneCell']) (by unfold maxLen; have := HLC.out; omega) (by have := HLC.out; omega) (by simp; omega) ?_; intro v3 w5 hown3 hgrow3 _; obtain ⟨g3, c3, rfl⟩ := ownsRow_succ hown3)
        have HO3 := hide hown3
        have HB3' : Hid (Below w3.heap.size w3 w5) := ((below_drewN HB.out nq).alloc (by simp; omega) _).grown hgrow3 (by simp; omega) (fun j e => (HO.out.lt j e).1)
        clear hown3 hgrow3
        go_wp2
        go_roundw
        case rel =>
          have hl1 : lineCount (a / 8) (a / 64) (k + 1) = lineCount (a / 8) (a / 64) k + 1 := count_add g1 HADD.out
          refine ⟨k + 1, _, c3, by omega, by go_num, by rw [hl1], ?_, HB3'.out⟩
          rw [hl1, upto_succ, count_val g1 HADD.out]
          simpa using HO3.out
        case measure => simp [intOf]; omega
      · have hg0 : ((k : Int) == 0) = false := beq_eq_false_iff_ne.2 (by omega)
        have hcm := HAT.out (k - 1) (by omega)
        have hto : ((k : Int) - 1).toNat = k - 1 := by omega
        have hv : a / 8 + ((k - 1 : Nat) : Int) = a / 8 + (k : Int) - 1 := by omega
        rw [hv] at hcm
        have hi1 : 0 ≤ (k : Int) - 1 := by omega
        have hi2 : (k : Int) - 1 < (N8 : Int) := by omega
        have hlo2 : 0 ≤ a / 8 + (k : Int) - 1 := by omega
        have HK0 := hide hk0
        clear hv hk0
        by_cases hnew : (a / 8 + (k : Int)) % 8 = 0
        · have hq2 : ((a / 8 + (k : Int)) / 8 != (a / 8 + (k : Int) - 1) / 8) = true := by rw [bne_iff_ne]; omega
          have HADD : Hid (k = 0 ∨ (a / 8 + (k : Int)) % 8 = 0) := .inr hnew
          clear hnew
          go_wp2
          go_quiet (fail)
          go_wp2_with (at_builtin; refine wpList_append_own _ rfl _ _ 23 rfl w3.heap.size 3 i0 (.int .i64 0) 1 8 Try.underlying23 hi hz0 hz1 hz2 rfl (by omega) _ _ _ rfl ((ownsRow_drewN HO.out nq).alloc _) ⟨wr.heap.size, 0, none⟩ 1 1 [.int .i64 ((a / 8 + (k : Int)) / 8)] rfl rfl (cell_one_new _ _ _) (by simp [Value.oneCell']) (by unfold maxLen; have := HLC.out; omega) (by have := HLC.out; omega) (by simp; omega) ?_; intro v3 w5 hown3 hgrow3 _; obtain ⟨g3, c3, rfl⟩ := ownsRow_succ hown3)
          have HO3 := hide hown3
          have HB3' : Hid (Below w3.heap.size w3 w5) := ((below_drewN HB.out nq).alloc (by simp; omega) _).grown hgrow3 (by simp; omega) (fun j e => (HO.out.lt j e).1)
          clear hown3 hgrow3
          go_wp2
          go_roundw
          case rel =>
            have hl1 : lineCount (a / 8) (a / 64) (k + 1) = lineCount (a / 8) (a / 64) k + 1 := count_add g1 HADD.out
            refine ⟨k + 1, _, c3, by omega, by go_num, by rw [hl1], ?_, HB3'.out⟩
            rw [hl1, upto_succ, count_val g1 HADD.out]
            simpa using HO3.out
          case measure => simp [intOf]; omega
        · have hq2 : ((a / 8 + (k : Int)) / 8 != (a / 8 + (k : Int) - 1) / 8) = false := by rw [bne_eq_false_iff_eq]; omega
          have HNEW := hide hnew
          clear hnew
          go_wp2
          go_quiet (fail)
          go_wp2
          go_roundw
          case rel =>
            have hl1 : lineCount (a / 8) (a / 64) (k + 1) = lineCount (a / 8) (a / 64) k := count_same g1 HK0.out HNEW.out
            exact ⟨k + 1, a1, c1, by omega, by go_num, by rw [hl1], by rw [hl1]; exact ownsRow_drewN HO.out nq, below_drewN HB.out nq⟩
          case measure => simp [intOf]; omega
    · have hkN : k = N8 := by omega
      have hlN : lineCount (a / 8) (a / 64) k = N64 := by
        have e1 := H8.out
        have e2 := H64.out
        unfold lineCount
        rw [if_neg (by omega)]
        omega
      have hge : ¬ ((k : Int) < (N8 : Int)) := by omega
      have hpos : (0 : Int) < (N8 : Int) := by omega
      rw [hlN] at HO ⊢
      have hw1 : SlI wr a1 (upto (a / 64) N64) := by
        obtain ⟨a', c', e1, e2⟩ := sli_of_owns (zs := upto (a / 64) N64) (by rw [upto_length]; exact HO.out)
        rw [upto_length] at e1
        cases e1
        exact e2
      have HW1 := hide hw1
      have HW2 := hide (HS64.out.below HB.out)
      have hce := HAT.out (N8 - 1) (by omega)
      have hval : a / 8 + ((N8 - 1 : Nat) : Int) = (a + (n - 1)) / 8 := by
        have e1 := H8.out
        omega
      rw [hval] at hce
      have hto : ((N8 : Int) - 1).toNat = N8 - 1 := by omega
      have hi1 : 0 ≤ (N8 : Int) - 1 := by omega
      have hi2 : (N8 : Int) - 1 < (N8 : Int) := by omega
      have heq : ((a + (n - 1)) / 8 == (a + (n - 1)) / 8) = true := by simp
      clear hw1 hval hlN
      go_wp2_with (first | (go_at_call 16; refine (eq_self a64 a1 c64 c1 (upto (a / 64) N64) N64 (upto_length _ _) wr HW2.out HW1.out (by have := H64.out; omega)).mono ?_; rintro e w6 ⟨rfl, hB6⟩) | (go_at_call 11; refine (works_any _).mono ?_; rintro e w7 ⟨rfl, hB7⟩))
      go_ret
      exact ⟨rfl, bseq (bseq (bseq HB3.out HB.out) hB6) hB7⟩

set_option maxHeartbeats 2000000 in
theorem bad_high (a n : Int) (w : World) (ha1 : -9223372036854775808 ≤ a) (ha2 : a ≤ 9223372036854775807) (hn : 4096 < n) (hb : a < 0 ∨ n % 4097 < 1 ∨ 9223372036854775807 - a < n % 4097) :
    Calls Try.prog 5 #[.int .i64 a, .int .i64 n] w fun e w' => e = .returned (.bool true) ∧ Below w.heap.size w w' := by
  have hp0 : 0 ≤ n % 4097 := by omega
  have hp1 : n % 4097 ≤ 4096 := by omega
  have t8 := tells8 a (n % 4097) 1000 ha1 ha2 (by omega) (by omega)
  have t64 := tells64 a (n % 4097) 1000 ha1 ha2 (by omega) (by omega)
  have e8 : (unitsV 8 a (n % 4097)).take 1000 = [] := by unfold unitsV; rw [if_pos hb]; rfl
  have e64 : (unitsV 64 a (n % 4097)).take 1000 = [] := by unfold unitsV; rw [if_pos hb]; rfl
  rw [e8] at t8
  rw [e64] at t64
  have G8 := hide (gone_two t8)
  have G64 := hide (gone_two t64)
  clear t8 t64 e8 e64
  rcases (show a < 0 ∨ (0 ≤ a ∧ n % 4097 < 1) ∨ (0 ≤ a ∧ 1 ≤ n % 4097 ∧ 9223372036854775807 - a < n % 4097) by omega) with c | ⟨c, c1⟩ | ⟨c, c1, c2⟩
  all_goals
    clear hb
    go_enter Try.func5, Try.ntmps5
    go_wp2_with (first | (go_at_call 14; refine (words_in _ _ _).mono ?_; rintro e w1 ⟨rfl, rfl⟩) | (go_at_call 15; refine (lines_any _ _ _).mono ?_; rintro e w1 ⟨rfl, rfl⟩) | (go_at_call 13; refine (unhide G8 w).mono ?_; rintro e w2 ⟨a8, c8, rfl, hs8, hB2⟩; clear G8) | (go_at_call 13; refine (unhide G64 w2).mono ?_; rintro e w3 ⟨a64, c64, rfl, hs64, hB3⟩) | (go_at_call 11; refine (works_any _).mono ?_; rintro e w4 ⟨rfl, hB4⟩))
    go_ret
    exact ⟨rfl, bseq (bseq hB2 hB3) hB4⟩

set_option maxHeartbeats 2000000 in
theorem good_high (a n : Int) (w : World) (hn : 4096 < n) (g1 : 0 ≤ a) (g2 : 1 ≤ n % 4097) (g3 : n % 4097 ≤ 9223372036854775807 - a) :
    Calls Try.prog 5 #[.int .i64 a, .int .i64 n] w fun e w' => e = .returned (.bool true) ∧ Below w.heap.size w w' := by
  have hp0 : 0 ≤ n % 4097 := by omega
  have hp1 : n % 4097 ≤ 4096 := by omega
  obtain ⟨i0, hi, hz0, hz1, hz2⟩ := info_parts Try.info3
  have t8 := tells8 a (n % 4097) 1000 (by omega) (by omega) (by omega) (by omega)
  have t64 := tells64 a (n % 4097) 1000 (by omega) (by omega) (by omega) (by omega)
  obtain ⟨N8, h8⟩ : ∃ N8 : Nat, (N8 : Int) = (a + (n % 4097) - 1) / 8 - a / 8 + 1 := ⟨((a + (n % 4097) - 1) / 8 - a / 8 + 1).toNat, by omega⟩
  obtain ⟨N64, h64⟩ : ∃ N64 : Nat, (N64 : Int) = (a + (n % 4097) - 1) / 64 - a / 64 + 1 := ⟨((a + (n % 4097) - 1) / 64 - a / 64 + 1).toNat, by omega⟩
  have hN8 : N8 ≤ 600 := by omega
  have hN8b : 1 ≤ N8 := by omega
  have e8 : (unitsV 8 a (n % 4097)).take 1000 = upto (a / 8) N8 := by
    unfold unitsV; rw [if_neg (by omega), show ((a + (n % 4097) - 1) / 8 - a / 8 + 1).toNat = N8 by omega, List.take_of_length_le (by rw [upto_length]; omega)]
  have e64 : (unitsV 64 a (n % 4097)).take 1000 = upto (a / 64) N64 := by
    unfold unitsV; rw [if_neg (by omega), show ((a + (n % 4097) - 1) / 64 - a / 64 + 1).toNat = N64 by omega, List.take_of_length_le (by rw [upto_length]; omega)]
  rw [e8, upto_length] at t8
  rw [e64, upto_length] at t64
  have G8 := hide (gone_two t8)
  have G64 := hide (gone_two t64)
  have H8 := hide h8
  have H64 := hide h64
  have hsub : a + ((n % 4097) - 1) = a + (n % 4097) - 1 := by omega
  have HSUB := hide hsub
  clear t8 t64 e8 e64 h8 h64 hsub
  go_enter Try.func5, Try.ntmps5
  go_wp2_with (first | (go_at_call 14; refine (words_in _ _ _).mono ?_; rintro e w1 ⟨rfl, rfl⟩) | (go_at_call 15; refine (lines_any _ _ _).mono ?_; rintro e w1 ⟨rfl, rfl⟩) | (go_at_call 13; refine (unhide G8 w).mono ?_; rintro e w2 ⟨a8, c8, rfl, hs8, hB2⟩; clear G8) | (go_at_call 13; refine (unhide G64 w2).mono ?_; rintro e w3 ⟨a64, c64, rfl, hs64, hB3⟩))
  have HB3 := hide (bseq hB2 hB3)
  have HS8 := hide (hs8.below hB3)
  have HS64 := hide hs64
  clear hs8 hs64 hB2 hB3 G64
  go_loopw [7, 8] (fun v i wr => ∃ (k : Nat) (a1 : Option Addr) (c1 : Nat), k ≤ N8 ∧ i = .int .i64 k ∧ v = .slice a1 (lineCount (a / 8) (a / 64) k) c1 ∧ wr.ownsRow w3.heap.size 3 1 (.slice a1 (lineCount (a / 8) (a / 64) k) c1) (lineCount (a / 8) (a / 64) k) ((upto (a / 64) (lineCount (a / 8) (a / 64) k)).map (Value.int .i64)) ∧ Below w3.heap.size w3 wr) (fun _ i _ => N8 - (intOf i).toNat)
  case atStart => exact ⟨0, none, 0, by omega, rfl, rfl, World.ownsRow_nil _ _ _ _, Below.refl _ _⟩
  case round =>
    obtain ⟨k, a1, c1, hk, rfl, rfl, hown, hB⟩ := hrel
    have HO := hide hown
    have HB := hide hB
    have hsz := hB.size
    clear hown hB
    obtain ⟨b8, o8, rfl, hb8, hseg⟩ : ∃ b off, a8 = some ⟨b, off, none⟩ ∧ b < w3.heap.size ∧ ∀ (i : Nat) (x : Int), (upto (a / 8) N8)[i]? = some x → w3.cell? ⟨b, off + i, none⟩ = some (.int .i64 x) := by
      rcases HS8.out with h | h
      · have := congrArg List.length h; rw [upto_length] at this; simp at this; omega
      · exact h
    have hat : ∀ i, i < N8 → wr.cell? ⟨b8, o8 + i, none⟩ = some (.int .i64 (a / 8 + (i : Int))) := fun i hi => (HB.out.cell (p := ⟨b8, o8 + i, none⟩) hb8).trans (hseg i _ (by unfold upto; rw [List.getElem?_map, List.getElem?_range hi]; rfl))
    have HAT := hide hat
    clear hseg hat
    by_cases hlt : k < N8
    · have hki : (k : Int) < (N8 : Int) := by omega
      have hc := HAT.out k hlt
      have hq1 : ((a / 8 + (k : Int)) != (a / 8 + (k : Int))) = false := by simp
      have hup : a / 8 + (k : Int) ≤ 1152921504606846976 := by have := H8.out; omega
      have hlo : 0 ≤ a / 8 + (k : Int) := by omega
      have hlc : lineCount (a / 8) (a / 64) k ≤ 1000 := by unfold lineCount; split <;> omega
      have HLC := hide hlc
      clear hlc
      by_cases hk0 : k = 0
      · have hg0 : ((k : Int) == 0) = true := by rw [beq_iff_eq]; omega
        have HADD : Hid (k = 0 ∨ (a / 8 + (k : Int)) % 8 = 0) := .inl hk0
        clear hk0
        go_wp2
        go_quiet (fail)
        go_wp2_with (at_builtin; refine wpList_append_own _ rfl _ _ 23 rfl w3.heap.size 3 i0 (.int .i64 0) 1 8 Try.underlying23 hi hz0 hz1 hz2 rfl (by omega) _ _ _ rfl ((ownsRow_drewN HO.out nq).alloc _) ⟨wr.heap.size, 0, none⟩ 1 1 [.int .i64 ((a / 8 + (k : Int)) / 8)] rfl rfl (cell_one_new _ _ _) (by simp [Value.oneCell']) (by unfold maxLen; have := HLC.out; omega) (by have := HLC.out; omega) (by simp; omega) ?_; intro v3 w5 hown3 hgrow3 _; obtain ⟨g3, c3, rfl⟩ := ownsRow_succ hown3)
        have HO3 := hide hown3
        have HB3' : Hid (Below w3.heap.size w3 w5) := ((below_drewN HB.out nq).alloc (by simp; omega) _).grown hgrow3 (by simp; omega) (fun j e => (HO.out.lt j e).1)
        clear hown3 hgrow3
        go_wp2
        go_roundw
        case rel =>
          have hl1 : lineCount (a / 8) (a / 64) (k + 1) = lineCount (a / 8) (a / 64) k + 1 := count_add g1 HADD.out
          refine ⟨k + 1, _, c3, by omega, by go_num, by rw [hl1], ?_, HB3'.out⟩
          rw [hl1, upto_succ, count_val g1 HADD.out]
          simpa using HO3.out
        case measure => simp [intOf]; omega
      · have hg0 : ((k : Int) == 0) = false := beq_eq_false_iff_ne.2 (by omega)
        have hcm := HAT.out (k - 1) (by omega)
        have hto : ((k : Int) - 1).toNat = k - 1 := by omega
        have hv : a / 8 + ((k - 1 : Nat) : Int) = a / 8 + (k : Int) - 1 := by omega
        rw [hv] at hcm
        have hi1 : 0 ≤ (k : Int) - 1 := by omega
        have hi2 : (k : Int) - 1 < (N8 : Int) := by omega
        have hlo2 : 0 ≤ a / 8 + (k : Int) - 1 := by omega
        have HK0 := hide hk0
        clear hv hk0
        by_cases hnew : (a / 8 + (k : Int)) % 8 = 0
        · have hq2 : ((a / 8 + (k : Int)) / 8 != (a / 8 + (k : Int) - 1) / 8) = true := by rw [bne_iff_ne]; omega
          have HADD : Hid (k = 0 ∨ (a / 8 + (k : Int)) % 8 = 0) := .inr hnew
          clear hnew
          go_wp2
          go_quiet (fail)
          go_wp2_with (at_builtin; refine wpList_append_own _ rfl _ _ 23 rfl w3.heap.size 3 i0 (.int .i64 0) 1 8 Try.underlying23 hi hz0 hz1 hz2 rfl (by omega) _ _ _ rfl ((ownsRow_drewN HO.out nq).alloc _) ⟨wr.heap.size, 0, none⟩ 1 1 [.int .i64 ((a / 8 + (k : Int)) / 8)] rfl rfl (cell_one_new _ _ _) (by simp [Value.oneCell']) (by unfold maxLen; have := HLC.out; omega) (by have := HLC.out; omega) (by simp; omega) ?_; intro v3 w5 hown3 hgrow3 _; obtain ⟨g3, c3, rfl⟩ := ownsRow_succ hown3)
          have HO3 := hide hown3
          have HB3' : Hid (Below w3.heap.size w3 w5) := ((below_drewN HB.out nq).alloc (by simp; omega) _).grown hgrow3 (by simp; omega) (fun j e => (HO.out.lt j e).1)
          clear hown3 hgrow3
          go_wp2
          go_roundw
          case rel =>
            have hl1 : lineCount (a / 8) (a / 64) (k + 1) = lineCount (a / 8) (a / 64) k + 1 := count_add g1 HADD.out
            refine ⟨k + 1, _, c3, by omega, by go_num, by rw [hl1], ?_, HB3'.out⟩
            rw [hl1, upto_succ, count_val g1 HADD.out]
            simpa using HO3.out
          case measure => simp [intOf]; omega
        · have hq2 : ((a / 8 + (k : Int)) / 8 != (a / 8 + (k : Int) - 1) / 8) = false := by rw [bne_eq_false_iff_eq]; omega
          have HNEW := hide hnew
          clear hnew
          go_wp2
          go_quiet (fail)
          go_wp2
          go_roundw
          case rel =>
            have hl1 : lineCount (a / 8) (a / 64) (k + 1) = lineCount (a / 8) (a / 64) k := count_same g1 HK0.out HNEW.out
            exact ⟨k + 1, a1, c1, by omega, by go_num, by rw [hl1], by rw [hl1]; exact ownsRow_drewN HO.out nq, below_drewN HB.out nq⟩
          case measure => simp [intOf]; omega
    · have hkN : k = N8 := by omega
      have hlN : lineCount (a / 8) (a / 64) k = N64 := by
        have e1 := H8.out
        have e2 := H64.out
        unfold lineCount
        rw [if_neg (by omega)]
        omega
      have hge : ¬ ((k : Int) < (N8 : Int)) := by omega
      have hpos : (0 : Int) < (N8 : Int) := by omega
      rw [hlN] at HO ⊢
      have hw1 : SlI wr a1 (upto (a / 64) N64) := by
        obtain ⟨a', c', e1, e2⟩ := sli_of_owns (zs := upto (a / 64) N64) (by rw [upto_length]; exact HO.out)
        rw [upto_length] at e1
        cases e1
        exact e2
      have HW1 := hide hw1
      have HW2 := hide (HS64.out.below HB.out)
      have hce := HAT.out (N8 - 1) (by omega)
      have hval : a / 8 + ((N8 - 1 : Nat) : Int) = (a + ((n % 4097) - 1)) / 8 := by
        have e1 := H8.out
        omega
      rw [hval] at hce
      have hto : ((N8 : Int) - 1).toNat = N8 - 1 := by omega
      have hi1 : 0 ≤ (N8 : Int) - 1 := by omega
      have hi2 : (N8 : Int) - 1 < (N8 : Int) := by omega
      have heq : ((a + ((n % 4097) - 1)) / 8 == (a + ((n % 4097) - 1)) / 8) = true := by simp
      clear hw1 hval hlN
      go_wp2_with (first | (go_at_call 16; refine (eq_self a64 a1 c64 c1 (upto (a / 64) N64) N64 (upto_length _ _) wr HW2.out HW1.out (by have := H64.out; omega)).mono ?_; rintro e w6 ⟨rfl, hB6⟩) | (go_at_call 11; refine (works_any _).mono ?_; rintro e w7 ⟨rfl, hB7⟩))
      go_ret
      exact ⟨rfl, bseq (bseq (bseq HB3.out HB.out) hB6) hB7⟩

theorem walk (a n : Int) (w : World) (ha1 : -9223372036854775808 ≤ a) (ha2 : a ≤ 9223372036854775807) (hn1 : -9223372036854775808 ≤ n) (hn2 : n ≤ 9223372036854775807) :
    Calls Try.prog 5 #[.int .i64 a, .int .i64 n] w fun e w' => e = .returned (.bool true) ∧ Below w.heap.size w w' := by
  by_cases hn : n ≤ 4096
  · by_cases hb : a < 0 ∨ n < 1 ∨ 9223372036854775807 - a < n
    · exact bad_low a n w ha1 ha2 hn hb
    · exact good_low a n w hn (by omega) (by omega) (by omega)
  · by_cases hb : a < 0 ∨ n % 4097 < 1 ∨ 9223372036854775807 - a < n % 4097
    · exact bad_high a n w ha1 ha2 (by omega) hb
    · exact good_high a n w (by omega) (by omega) (by omega) (by omega)

end Go.Proofs.Ytjkglimbmfgllab.bitsCovers
