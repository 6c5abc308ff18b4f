/- What the document's Units answers for words and for lines: the first of the numbers of the units that a range touches. -/
import Derived.Test.YtjkglimbmfgllabWords
import Derived.Test.YtjkglimbmfgllabEq
namespace Go.Proofs.Ytjkglimbmfgllab
open Go.RowKit
set_option linter.unusedVariables false

theorem units8_bad (a m : Int) (most : Nat) (w : World) (hb1 : -9223372036854775808 ≤ a) (hb2 : a ≤ 9223372036854775807) (h : a < 0 ∨ m < 1 ∨ 9223372036854775807 - a < m) :
    Calls Try.prog 26 #[.int .i64 a, .int .i64 m, .int .i64 8, .int .i64 most] w fun e w' => e = .returned (.slice none 0 0) ∧ w' = w := by
  by_cases c1 : a < 0
  · clear h
    go_enter Try.func26, Try.ntmps26
    go_wp2
    go_ret
    exact ⟨rfl, rfl⟩
  · by_cases c2 : m < 1
    · have c3 : 0 ≤ a := by omega
      clear h
      go_enter Try.func26, Try.ntmps26
      go_wp2
      go_ret
      exact ⟨rfl, rfl⟩
    · have c3 : 0 ≤ a := by omega
      have c4 : 1 ≤ m := by omega
      have c5 : 9223372036854775807 - a < m := by omega
      clear h
      go_enter Try.func26, Try.ntmps26
      go_wp2
      go_ret
      exact ⟨rfl, rfl⟩

set_option maxHeartbeats 400000 in
theorem units8_good (a m : Int) (most : Nat) (w : World) (g1 : 0 ≤ a) (g2 : 1 ≤ m) (g3 : m ≤ 9223372036854775807 - a) (hm1 : 1 ≤ most) (hm2 : most ≤ 100000) :
    Calls Try.prog 26 #[.int .i64 a, .int .i64 m, .int .i64 8, .int .i64 most] w fun e w' => ∃ v, e = .returned v ∧ w'.ownsRow w.heap.size 3 1 v ((unitsV 8 a m).take most).length (((unitsV 8 a m).take most).map (Value.int .i64)) ∧ Below w.heap.size w w' := by
  obtain ⟨i0, hi, hz0, hz1, hz2⟩ := info_parts Try.info3
  have hu : unitsV 8 a m = upto (a / 8) ((a + m - 1) / 8 - a / 8 + 1).toNat := by unfold unitsV; rw [if_neg (by omega)]
  generalize hL : (unitsV 8 a m).take most = L
  rw [hu] at hL
  have HL := hide hL
  clear hu hL
  have e1 : a + (m - 1) = a + m - 1 := by omega
  go_enter Try.func26, Try.ntmps26
  go_wp2
  go_loopw [9, 10] (fun v u wr => ∃ (k : Nat) (a1 : Option Addr) (c1 : Nat), v = .slice a1 k c1 ∧ k ≤ most ∧ (k : Int) ≤ (a + m - 1) / 8 - a / 8 + 1 ∧ u = .int .i64 (a / 8 + k) ∧ wr.ownsRow w.heap.size 3 1 (.slice a1 k c1) k ((upto (a / 8) k).map (Value.int .i64)) ∧ Below w.heap.size w wr) (fun _ u _ => ((a + m - 1) / 8 + 1 - intOf u).toNat)
  case atStart => exact ⟨0, none, 0, rfl, by omega, by omega, int_congr0 (by simp), World.ownsRow_nil _ _ _ _, Below.refl _ _⟩
  case round =>
    obtain ⟨k, a1, c1, rfl, hk1, hk2, rfl, hown, hB⟩ := hrel
    by_cases hgo : k < most ∧ (k : Int) ≤ (a + m - 1) / 8 - a / 8
    · obtain ⟨t1, t2⟩ := hgo
      have t3 : a / 8 + (k : Int) ≤ (a + m - 1) / 8 := by omega
      have t4 : (k : Int) < (most : Int) := by omega
      have HB := hide hB
      have hsz := hB.size
      have HO := hide hown
      clear hB hown
      go_wp2_with (at_builtin; refine wpList_append_own _ rfl _ _ 23 rfl w.heap.size 3 i0 (.int .i64 0) 1 8 Try.underlying23 hi hz0 hz1 hz2 rfl (by omega) _ _ _ rfl (HO.out.alloc _) ⟨wr.heap.size, 0, none⟩ 1 1 [.int .i64 (a / 8 + (k : Int))] rfl rfl (cell_one_new _ _ _) (by simp [Value.oneCell']) (by unfold maxLen; omega) (by omega) (by simp; omega) ?_; intro v3 w3 hown3 hgrow3 _; obtain ⟨g3, c3, rfl⟩ := ownsRow_succ hown3)
      have HO3 := hide hown3
      have HB3 : Hid (Below w.heap.size w w3) := (HB.out.alloc hsz _).grown hgrow3 (by simp; omega) (fun j e => (HO.out.lt j e).1)
      clear hown3 hgrow3
      go_wp2
      go_roundw
      case rel =>
        refine ⟨k + 1, _, c3, rfl, by omega, by omega, int_congr0 (by omega), ?_, HB3.out⟩
        rw [upto_succ]
        simpa using HO3.out
      case measure => simp [intOf]; omega
    · have HO := hide hown
      have HB := hide hB
      clear hown hB
      have hfin : (upto (a / 8) ((a + m - 1) / 8 - a / 8 + 1).toNat).take most = upto (a / 8) k := by
        have h1 := upto_prefix (a / 8) k ((a + m - 1) / 8 - a / 8 + 1).toNat (by omega)
        have h2 := List.prefix_iff_eq_take.1 h1
        rw [upto_length] at h2
        by_cases hkm : k = most
        · rw [← hkm]; exact h2.symm
        · rw [show k = ((a + m - 1) / 8 - a / 8 + 1).toNat by omega, List.take_of_length_le (by rw [upto_length]; omega)]
      have HFI := hide hfin
      clear hfin
      have close : ∀ w' : World, Hid (w'.ownsRow w.heap.size 3 1 (.slice a1 k c1) k ((upto (a / 8) k).map (Value.int .i64))) → w'.ownsRow w.heap.size 3 1 (.slice a1 k c1) L.length (L.map (Value.int .i64)) := fun w' h => by
        rw [← HL.out, HFI.out, upto_length]; exact h
      have CL := hide close
      clear close
      by_cases t1 : a / 8 + (k : Int) ≤ (a + m - 1) / 8
      · have t2 : (most : Int) ≤ (k : Int) := by omega
        clear hgo
        go_wp2
        go_ret
        exact ⟨_, rfl, unhide CL _ HO, HB.out⟩
      · clear hgo
        go_wp2
        go_ret
        exact ⟨_, rfl, unhide CL _ HO, HB.out⟩

theorem units8_any (a m : Int) (most : Nat) (w : World) (hb1 : -9223372036854775808 ≤ a) (hb2 : a ≤ 9223372036854775807) (hm1 : 1 ≤ most) (hm2 : most ≤ 100000) :
    Calls Try.prog 26 #[.int .i64 a, .int .i64 m, .int .i64 8, .int .i64 most] w fun e w' => ∃ a1 c1, e = .returned (.slice a1 ((unitsV 8 a m).take most).length c1) ∧ SlI w' a1 ((unitsV 8 a m).take most) ∧ Below w.heap.size w w' := by
  by_cases h : a < 0 ∨ m < 1 ∨ 9223372036854775807 - a < m
  · refine (units8_bad a m most w hb1 hb2 h).mono ?_
    rintro e w' ⟨rfl, rfl⟩
    have e0 : unitsV 8 a m = [] := by unfold unitsV; rw [if_pos h]
    rw [e0]
    exact ⟨none, 0, by simp, .inl (by simp), Below.refl _ _⟩
  · refine (units8_good a m most w (by omega) (by omega) (by omega) hm1 hm2).mono ?_
    rintro e w' ⟨v, rfl, ho, hB⟩
    obtain ⟨a1, c1, rfl, hs⟩ := sli_of_owns ho
    exact ⟨a1, c1, rfl, hs, hB⟩

theorem units64_bad (a m : Int) (most : Nat) (w : World) (hb1 : -9223372036854775808 ≤ a) (hb2 : a ≤ 9223372036854775807) (h : a < 0 ∨ m < 1 ∨ 9223372036854775807 - a < m) :
    Calls Try.prog 26 #[.int .i64 a, .int .i64 m, .int .i64 64, .int .i64 most] w fun e w' => e = .returned (.slice none 0 0) ∧ w' = w := by
  by_cases c1 : a < 0
  · clear h
    go_enter Try.func26, Try.ntmps26
    go_wp2
    go_ret
    exact ⟨rfl, rfl⟩
  · by_cases c2 : m < 1
    · have c3 : 0 ≤ a := by omega
      clear h
      go_enter Try.func26, Try.ntmps26
      go_wp2
      go_ret
      exact ⟨rfl, rfl⟩
    · have c3 : 0 ≤ a := by omega
      have c4 : 1 ≤ m := by omega
      have c5 : 9223372036854775807 - a < m := by omega
      clear h
      go_enter Try.func26, Try.ntmps26
      go_wp2
      go_ret
      exact ⟨rfl, rfl⟩

set_option maxHeartbeats 400000 in
theorem units64_good (a m : Int) (most : Nat) (w : World) (g1 : 0 ≤ a) (g2 : 1 ≤ m) (g3 : m ≤ 9223372036854775807 - a) (hm1 : 1 ≤ most) (hm2 : most ≤ 100000) :
    Calls Try.prog 26 #[.int .i64 a, .int .i64 m, .int .i64 64, .int .i64 most] w fun e w' => ∃ v, e = .returned v ∧ w'.ownsRow w.heap.size 3 1 v ((unitsV 64 a m).take most).length (((unitsV 64 a m).take most).map (Value.int .i64)) ∧ Below w.heap.size w w' := by
  obtain ⟨i0, hi, hz0, hz1, hz2⟩ := info_parts Try.info3
  have hu : unitsV 64 a m = upto (a / 64) ((a + m - 1) / 64 - a / 64 + 1).toNat := by unfold unitsV; rw [if_neg (by omega)]
  generalize hL : (unitsV 64 a m).take most = L
  rw [hu] at hL
  have HL := hide hL
  clear hu hL
  have e1 : a + (m - 1) = a + m - 1 := by omega
  go_enter Try.func26, Try.ntmps26
  go_wp2
  go_loopw [9, 10] (fun v u wr => ∃ (k : Nat) (a1 : Option Addr) (c1 : Nat), v = .slice a1 k c1 ∧ k ≤ most ∧ (k : Int) ≤ (a + m - 1) / 64 - a / 64 + 1 ∧ u = .int .i64 (a / 64 + k) ∧ wr.ownsRow w.heap.size 3 1 (.slice a1 k c1) k ((upto (a / 64) k).map (Value.int .i64)) ∧ Below w.heap.size w wr) (fun _ u _ => ((a + m - 1) / 64 + 1 - intOf u).toNat)
  case atStart => exact ⟨0, none, 0, rfl, by omega, by omega, int_congr0 (by simp), World.ownsRow_nil _ _ _ _, Below.refl _ _⟩
  case round =>
    obtain ⟨k, a1, c1, rfl, hk1, hk2, rfl, hown, hB⟩ := hrel
    by_cases hgo : k < most ∧ (k : Int) ≤ (a + m - 1) / 64 - a / 64
    · obtain ⟨t1, t2⟩ := hgo
      have t3 : a / 64 + (k : Int) ≤ (a + m - 1) / 64 := by omega
      have t4 : (k : Int) < (most : Int) := by omega
      have HB := hide hB
      have hsz := hB.size
      have HO := hide hown
      clear hB hown
      go_wp2_with (at_builtin; refine wpList_append_own _ rfl _ _ 23 rfl w.heap.size 3 i0 (.int .i64 0) 1 8 Try.underlying23 hi hz0 hz1 hz2 rfl (by omega) _ _ _ rfl (HO.out.alloc _) ⟨wr.heap.size, 0, none⟩ 1 1 [.int .i64 (a / 64 + (k : Int))] rfl rfl (cell_one_new _ _ _) (by simp [Value.oneCell']) (by unfold maxLen; omega) (by omega) (by simp; omega) ?_; intro v3 w3 hown3 hgrow3 _; obtain ⟨g3, c3, rfl⟩ := ownsRow_succ hown3)
      have HO3 := hide hown3
      have HB3 : Hid (Below w.heap.size w w3) := (HB.out.alloc hsz _).grown hgrow3 (by simp; omega) (fun j e => (HO.out.lt j e).1)
      clear hown3 hgrow3
      go_wp2
      go_roundw
      case rel =>
        refine ⟨k + 1, _, c3, rfl, by omega, by omega, int_congr0 (by omega), ?_, HB3.out⟩
        rw [upto_succ]
        simpa using HO3.out
      case measure => simp [intOf]; omega
    · have HO := hide hown
      have HB := hide hB
      clear hown hB
      have hfin : (upto (a / 64) ((a + m - 1) / 64 - a / 64 + 1).toNat).take most = upto (a / 64) k := by
        have h1 := upto_prefix (a / 64) k ((a + m - 1) / 64 - a / 64 + 1).toNat (by omega)
        have h2 := List.prefix_iff_eq_take.1 h1
        rw [upto_length] at h2
        by_cases hkm : k = most
        · rw [← hkm]; exact h2.symm
        · rw [show k = ((a + m - 1) / 64 - a / 64 + 1).toNat by omega, List.take_of_length_le (by rw [upto_length]; omega)]
      have HFI := hide hfin
      clear hfin
      have close : ∀ w' : World, Hid (w'.ownsRow w.heap.size 3 1 (.slice a1 k c1) k ((upto (a / 64) k).map (Value.int .i64))) → w'.ownsRow w.heap.size 3 1 (.slice a1 k c1) L.length (L.map (Value.int .i64)) := fun w' h => by
        rw [← HL.out, HFI.out, upto_length]; exact h
      have CL := hide close
      clear close
      by_cases t1 : a / 64 + (k : Int) ≤ (a + m - 1) / 64
      · have t2 : (most : Int) ≤ (k : Int) := by omega
        clear hgo
        go_wp2
        go_ret
        exact ⟨_, rfl, unhide CL _ HO, HB.out⟩
      · clear hgo
        go_wp2
        go_ret
        exact ⟨_, rfl, unhide CL _ HO, HB.out⟩

theorem units64_any (a m : Int) (most : Nat) (w : World) (hb1 : -9223372036854775808 ≤ a) (hb2 : a ≤ 9223372036854775807) (hm1 : 1 ≤ most) (hm2 : most ≤ 100000) :
    Calls Try.prog 26 #[.int .i64 a, .int .i64 m, .int .i64 64, .int .i64 most] w fun e w' => ∃ a1 c1, e = .returned (.slice a1 ((unitsV 64 a m).take most).length c1) ∧ SlI w' a1 ((unitsV 64 a m).take most) ∧ Below w.heap.size w w' := by
  by_cases h : a < 0 ∨ m < 1 ∨ 9223372036854775807 - a < m
  · refine (units64_bad a m most w hb1 hb2 h).mono ?_
    rintro e w' ⟨rfl, rfl⟩
    have e0 : unitsV 64 a m = [] := by unfold unitsV; rw [if_pos h]
    rw [e0]
    exact ⟨none, 0, by simp, .inl (by simp), Below.refl _ _⟩
  · refine (units64_good a m most w (by omega) (by omega) (by omega) hm1 hm2).mono ?_
    rintro e w' ⟨v, rfl, ho, hB⟩
    obtain ⟨a1, c1, rfl, hs⟩ := sli_of_owns ho
    exact ⟨a1, c1, rfl, hs, hB⟩

end Go.Proofs.Ytjkglimbmfgllab
