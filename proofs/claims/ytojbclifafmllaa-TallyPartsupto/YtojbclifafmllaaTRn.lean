/- What the document's May answers of a tally of at most six bytes; May and Check, of every tally. -/
import Derived.Test.YtojbclifafmllaaTRm
namespace Go.Proofs.Ytojbclifafmllaa
open Go.RowKit
set_option linter.unusedVariables false

set_option maxRecDepth 100000 in
set_option maxHeartbeats 4000000 in
theorem refMay_of (n k j m : Nat) (c l : Int) (h t : ByteArray) (w : World) (hc : cntB n c l = true) (h6 : (n : Int) ≤ 6) (hcase : (3 < (n : Int) ∧ k = 3) ∨ ((n : Int) ≤ 3 ∧ k = n)) (hm : 2 * (k : Int) = (m : Int)) (hj : (m : Int) - (n : Int) = (j : Int)) (hh : h.size = k) (ht : t.size = k) :
    Calls Try.prog 38 #[(.agg #[.int .i64 (n : Int), .int .i64 c, .int .i64 l, .string h, .string t])] w fun e w' => e = .returned (.bool (isOf n c l h t (h ++ t.extract j k))) ∧ Below w.heap.size w w' := by
  obtain ⟨h1, h2, h3, h4, h5, q, r, hq, hr, hqc, hw⟩ := cnt_ways (by omega) hc
  have hq2 : (n : Int) / 4 = q := by rw [← hq, Int.tdiv_eq_ediv_of_nonneg (by omega), IntKind.wrap_i64]; omega
  have hk3 : (k : Int) ≤ 3 := by omega
  have hjk : (j : Int) ≤ (k : Int) := by omega
  have hs : (h ++ t.extract j k).size ≤ 9223372036854775807 := by rw [ByteArray.size_append, ByteArray.size_extract]; omega
  have hsz : ((h ++ t.extract j k).size : Int) = (n : Int) := by rw [ByteArray.size_append, ByteArray.size_extract]; omega
  have hadd2 := fun w => run_string_add_sum (P := Try.prog) w h (t.extract j k) (by rw [ByteArray.size_extract]; omega)
  have hadd3 : h.size + (t.extract j k).size ≤ 9223372036854775807 := by rw [ByteArray.size_extract]; omega
  have hadd4 : k + (k - j) ≤ 9223372036854775807 := by omega
  have hw1 : IntKind.i64.wrap (m : Int) = (m : Int) := by rw [IntKind.wrap_i64]; omega
  have hw2 : IntKind.i64.wrap (j : Int) = (j : Int) := by rw [IntKind.wrap_i64]; omega
  have ko := fun w => refOf_any (h ++ t.extract j k) w hs
  unfold isOf
  rw [hsz] at ko ⊢
  unfold tyC at ko
  generalize ((chn (bl (h ++ t.extract j k)) : Nat) : Int) = C at *
  generalize ((lin (bl (h ++ t.extract j k)) : Nat) : Int) = L at *
  generalize hd (h ++ t.extract j k) = H at *
  generalize tl (h ++ t.extract j k) = T at *
  have hsame : decide ((n : Int) = n ∧ c = C ∧ l = L ∧ h = H ∧ t = T) = sameT n C L H T n c l h t := by
    unfold sameT
    rw [Bool.eq_iff_iff, decide_eq_true_eq, decide_eq_true_eq]
    constructor
    · rintro ⟨_, rfl, rfl, rfl, rfl⟩; exact ⟨rfl, rfl, rfl, rfl, rfl⟩
    · rintro ⟨_, rfl, rfl, rfl, rfl⟩; exact ⟨rfl, rfl, rfl, rfl, rfl⟩
  rw [hsame]
  have KO := hide ko
  have HEQ := hide (fun w => eql_ty n C L H T n c l h t w)
  clear hs hsz ko hsame hc
  generalize sameT n C L H T n c l h t = ans at *
  have mk : ∀ W, Below (w.alloc (.cells #[.int .i64 (n : Int), .int .i64 c, .int .i64 l, .string h, .string t] 24)).heap.size (w.alloc (.cells #[.int .i64 (n : Int), .int .i64 c, .int .i64 l, .string h, .string t] 24)) W → (Below (w.alloc (.cells #[.int .i64 (n : Int), .int .i64 c, .int .i64 l, .string h, .string t] 24)).heap.size (w.alloc (.cells #[.int .i64 (n : Int), .int .i64 c, .int .i64 l, .string h, .string t] 24)) W ∧ W.cell? ⟨w.heap.size, 0, none⟩ = some (.int .i64 n) ∧ W.cell? ⟨w.heap.size, 1, none⟩ = some (.int .i64 c) ∧ W.cell? ⟨w.heap.size, 2, none⟩ = some (.int .i64 l) ∧ W.cell? ⟨w.heap.size, 3, none⟩ = some (.string h) ∧ W.cell? ⟨w.heap.size, 4, none⟩ = some (.string t)) := fun W hB => ⟨hB, box_below (box_at (heap_alloc_new w _)) hB (by simp)⟩
  have MK := hide mk
  clear mk
  have d1 : decide ((n : Int) < 0) = false := decide_eq_false (by omega)
  have d2 : decide (c < 0) = false := decide_eq_false (by omega)
  have d3 : decide (l < 0) = false := decide_eq_false (by omega)
  have d4 : decide (c < l) = false := decide_eq_false (by omega)
  have d5 : decide ((n : Int) < c) = false := decide_eq_false (by omega)
  rcases hcase with ⟨hn3, rfl⟩ | ⟨hn3, rfl⟩
  · have e6 : (m : Int) = 6 := by omega
    have hh' : ((h.size : Int) != 3) = false := by rw [hh]; rfl
    have ht' : ((t.size : Int) != 3) = false := by rw [ht]; rfl
    have hw3 : IntKind.i64.wrap 6 = 6 := by decide
    have hj3 : (j : Int) ≤ 3 := by omega
    have hj0 : (0 : Int) ≤ (j : Int) := by omega
    have hjn : j ≤ 3 := by omega
    rw [e6] at hj hw1 hm
    rcases hw with hw | ⟨hw, rfl⟩
    all_goals
      go_enter Try.func38, Try.ntmps38
      go_wp2_with (fail)
      go_region_held3 (fun w' => Below (w.alloc (.cells #[.int .i64 (n : Int), .int .i64 c, .int .i64 l, .string h, .string t] 24)).heap.size (w.alloc (.cells #[.int .i64 (n : Int), .int .i64 c, .int .i64 l, .string h, .string t] 24)) w' ∧ w'.cell? ⟨w.heap.size, 0, none⟩ = some (.int .i64 n) ∧ w'.cell? ⟨w.heap.size, 1, none⟩ = some (.int .i64 c) ∧ w'.cell? ⟨w.heap.size, 2, none⟩ = some (.int .i64 l) ∧ w'.cell? ⟨w.heap.size, 3, none⟩ = some (.string h) ∧ w'.cell? ⟨w.heap.size, 4, none⟩ = some (.string t)) (first | exact MK.out _ (Below.refl _ _).drew | exact MK.out _ (Below.refl _ _).drew.drew) (fail)
      go_wp2_with (fail)
      have hg := Try.noGuard24
      have heq := HEQ.out
      go_region_held3 (fun w' => Below (w.alloc (.cells #[.int .i64 (n : Int), .int .i64 c, .int .i64 l, .string h, .string t] 24)).heap.size (w.alloc (.cells #[.int .i64 (n : Int), .int .i64 c, .int .i64 l, .string h, .string t] 24)) w' ∧ w'.cell? ⟨w.heap.size, 0, none⟩ = some (.int .i64 n) ∧ w'.cell? ⟨w.heap.size, 1, none⟩ = some (.int .i64 c) ∧ w'.cell? ⟨w.heap.size, 2, none⟩ = some (.int .i64 l) ∧ w'.cell? ⟨w.heap.size, 3, none⟩ = some (.string h) ∧ w'.cell? ⟨w.heap.size, 4, none⟩ = some (.string t)) (first | exact MK.out _ (Below.refl _ _).drew.drew | exact MK.out _ (bseq (Below.refl _ _).drew.drew hB)) (first | (go_at_call 7; refine (KO.out _).mono ?_; rintro e w1 ⟨rfl, hB⟩))
      go_wp2
      go_ret
      exact ⟨rfl, bseq (((Below.refl _ w).alloc (Nat.le_refl _) _).drew.drew) hB⟩
  · have hh' : ((h.size : Int) != (k : Int)) = false := by rw [hh]; simp
    have ht' : ((t.size : Int) != (k : Int)) = false := by rw [ht]; simp
    rcases hw with hw | ⟨hw, rfl⟩
    all_goals
      go_enter Try.func38, Try.ntmps38
      go_wp2_with (fail)
      go_region_held3 (fun w' => Below (w.alloc (.cells #[.int .i64 (k : Int), .int .i64 c, .int .i64 l, .string h, .string t] 24)).heap.size (w.alloc (.cells #[.int .i64 (k : Int), .int .i64 c, .int .i64 l, .string h, .string t] 24)) w' ∧ w'.cell? ⟨w.heap.size, 0, none⟩ = some (.int .i64 k) ∧ w'.cell? ⟨w.heap.size, 1, none⟩ = some (.int .i64 c) ∧ w'.cell? ⟨w.heap.size, 2, none⟩ = some (.int .i64 l) ∧ w'.cell? ⟨w.heap.size, 3, none⟩ = some (.string h) ∧ w'.cell? ⟨w.heap.size, 4, none⟩ = some (.string t)) (first | exact MK.out _ (Below.refl _ _).drew | exact MK.out _ (Below.refl _ _).drew.drew) (fail)
      go_wp2_with (fail)
      have hg := Try.noGuard24
      have heq := HEQ.out
      go_region_held3 (fun w' => Below (w.alloc (.cells #[.int .i64 (k : Int), .int .i64 c, .int .i64 l, .string h, .string t] 24)).heap.size (w.alloc (.cells #[.int .i64 (k : Int), .int .i64 c, .int .i64 l, .string h, .string t] 24)) w' ∧ w'.cell? ⟨w.heap.size, 0, none⟩ = some (.int .i64 k) ∧ w'.cell? ⟨w.heap.size, 1, none⟩ = some (.int .i64 c) ∧ w'.cell? ⟨w.heap.size, 2, none⟩ = some (.int .i64 l) ∧ w'.cell? ⟨w.heap.size, 3, none⟩ = some (.string h) ∧ w'.cell? ⟨w.heap.size, 4, none⟩ = some (.string t)) (first | exact MK.out _ (Below.refl _ _).drew.drew | exact MK.out _ (bseq (Below.refl _ _).drew.drew hB)) (first | (go_at_call 7; refine (KO.out _).mono ?_; rintro e w1 ⟨rfl, hB⟩))
      go_wp2
      go_ret
      exact ⟨rfl, bseq (((Below.refl _ w).alloc (Nat.le_refl _) _).drew.drew) hB⟩

theorem refMay_any (b c l : Int) (h t : ByteArray) (w : World) (hb : b ≤ 9223372036854775807) :
    Calls Try.prog 38 #[(.agg #[.int .i64 b, .int .i64 c, .int .i64 l, .string h, .string t])] w fun e w' => e = .returned (.bool (mayT b c l h t)) ∧ Below w.heap.size w w' := by
  unfold mayT
  cases hc : cntB b c l
  · exact refMay_cnt b c l h t w hb hc
  · rw [Bool.true_and]
    have h0 := (cnt_ways hb hc).1
    by_cases hh : (h.size : Int) = min 3 b ∧ (t.size : Int) = min 3 b
    · by_cases h6 : 6 < b
      · have : edgB b c l h t = true := by unfold edgB; rw [decide_eq_true hh, decide_eq_true h6]; rfl
        rw [this]
        exact refMay_many b c l h t w hb hc h6 (by omega) (by omega)
      · have : edgB b c l h t = isOf b c l h t (h ++ t.extract (2 * h.size - b.toNat) h.size) := by unfold edgB; rw [decide_eq_true hh, decide_eq_false h6]; simp
        rw [this]
        obtain ⟨n, rfl⟩ : ∃ n : Nat, b = (n : Int) := ⟨b.toNat, by omega⟩
        exact refMay_of n h.size (2 * h.size - (n : Int).toNat) (2 * h.size) c l h t w hc (by omega) (by omega) (by omega) (by omega) rfl (by omega)
    · have : edgB b c l h t = false := by unfold edgB; rw [decide_eq_false hh]; rfl
      rw [this]
      exact refMay_no b c l h t w hb hc hh

end Go.Proofs.Ytojbclifafmllaa
