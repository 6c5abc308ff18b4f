/- What the document's May and Check answer, of every tally. -/
import Derived.Test.YtojbclifafmllaaTRf
namespace Go.Proofs.Ytojbclifafmllaa
open Go.RowKit
set_option linter.unusedVariables false

/-- What the walk of May wants of a quotient by four. -/
theorem quo4 (b : Int) (h0 : 0 ≤ b) (hb : b ≤ 9223372036854775807) : ∃ q r : Int, IntKind.i64.wrap (b.tdiv 4) = q ∧ b % 4 = r ∧ 0 ≤ r ∧ r < 4 ∧ b = 4 * q + r ∧ 0 ≤ q ∧ q ≤ 2305843009213693951 := by
  refine ⟨b / 4, b % 4, ?_, rfl, by omega, by omega, by omega, by omega, by omega⟩
  rw [Int.tdiv_eq_ediv_of_nonneg h0, IntKind.wrap_i64]
  omega

set_option maxHeartbeats 1000000 in
theorem refMay_cnt (b c l : Int) (h t : ByteArray) (w : World) (hb : b ≤ 9223372036854775807) (hc : cntB b c l = false) :
    Calls Try.prog 38 #[(.agg #[.int .i64 b, .int .i64 c, .int .i64 l, .string h, .string t])] w fun e w' => e = .returned (.bool false) ∧ Below w.heap.size w w' := by
  have hc' : ¬ (0 ≤ l ∧ l ≤ c ∧ c ≤ b ∧ b ≤ 4 * c) := of_decide_eq_false hc
  clear hc
  by_cases h1 : b < 0
  · clear hc' hb
    go_enter Try.func38, Try.ntmps38
    go_wp2_with (fail)
    go_ret
    exact ⟨rfl, (Below.refl _ w).alloc (Nat.le_refl _) _⟩
  have h1 : 0 ≤ b := by omega
  by_cases h2 : c < 0
  · clear hc' hb
    go_enter Try.func38, Try.ntmps38
    go_wp2_with (fail)
    go_ret
    exact ⟨rfl, (Below.refl _ w).alloc (Nat.le_refl _) _⟩
  have h2 : 0 ≤ c := by omega
  by_cases h3 : l < 0
  · clear hc' hb
    go_enter Try.func38, Try.ntmps38
    go_wp2_with (fail)
    go_ret
    exact ⟨rfl, (Below.refl _ w).alloc (Nat.le_refl _) _⟩
  have h3 : 0 ≤ l := by omega
  by_cases h4 : c < l
  · clear hc' hb
    go_enter Try.func38, Try.ntmps38
    go_wp2_with (fail)
    go_ret
    exact ⟨rfl, (Below.refl _ w).alloc (Nat.le_refl _) _⟩
  have h4 : l ≤ c := by omega
  by_cases h5 : b < c
  · clear hc' hb
    go_enter Try.func38, Try.ntmps38
    go_wp2_with (fail)
    go_ret
    exact ⟨rfl, (Below.refl _ w).alloc (Nat.le_refl _) _⟩
  have h5 : c ≤ b := by omega
  obtain ⟨q, r, hq, hr, hr0, hr4, hbq, hq0, hq1⟩ := quo4 b h1 hb
  by_cases h6 : c < q
  · clear hc' hb hbq
    go_enter Try.func38, Try.ntmps38
    go_wp2_with (fail)
    go_ret
    exact ⟨rfl, (Below.refl _ w).alloc (Nat.le_refl _) _⟩
  have h6 : q ≤ c := by omega
  have h7 : (q == c) = true := by simp; omega
  have h8 : 0 < r := by omega
  clear hc' hb hbq
  go_enter Try.func38, Try.ntmps38
  go_wp2_with (fail)
  go_ret
  exact ⟨rfl, (Below.refl _ w).alloc (Nat.le_refl _) _⟩

/-- The two ways on which the counts of a tally fit. -/
theorem cnt_ways {b c l : Int} (hb : b ≤ 9223372036854775807) (hc : cntB b c l = true) : 0 ≤ b ∧ 0 ≤ c ∧ 0 ≤ l ∧ l ≤ c ∧ c ≤ b ∧ ∃ q r : Int, IntKind.i64.wrap (b.tdiv 4) = q ∧ b % 4 = r ∧ q ≤ c ∧ ((q == c) = false ∨ ((q == c) = true ∧ r = 0)) := by
  have hc' : (0 ≤ l ∧ l ≤ c ∧ c ≤ b ∧ b ≤ 4 * c) := of_decide_eq_true hc
  obtain ⟨q, r, hq, hr, hr0, hr4, hbq, hq0, hq1⟩ := quo4 b (by omega) hb
  refine ⟨by omega, by omega, by omega, by omega, by omega, q, r, hq, hr, by omega, ?_⟩
  by_cases h : q = c
  · exact .inr ⟨by simp [h], by omega⟩
  · exact .inl (by simp [h])

set_option maxHeartbeats 1000000 in
theorem refMay_many (b c l : Int) (h t : ByteArray) (w : World) (hb : b ≤ 9223372036854775807) (hc : cntB b c l = true) (h6 : 6 < b) (hh : h.size = 3) (ht : t.size = 3) :
    Calls Try.prog 38 #[(.agg #[.int .i64 b, .int .i64 c, .int .i64 l, .string h, .string t])] w fun e w' => e = .returned (.bool true) ∧ Below w.heap.size w w' := by
  obtain ⟨h1, h2, h3, h4, h5, q, r, hq, hr, hqc, hw⟩ := cnt_ways hb hc
  have h3b : 3 < b := by omega
  clear hc hb
  rcases hw with hw | ⟨hw, rfl⟩
  all_goals
    go_enter Try.func38, Try.ntmps38
    go_wp2_with (fail)
    go_ret
    exact ⟨rfl, (Below.refl _ w).alloc (Nat.le_refl _) _⟩

set_option maxHeartbeats 1000000 in
theorem refMay_no (b c l : Int) (h t : ByteArray) (w : World) (hb : b ≤ 9223372036854775807) (hc : cntB b c l = true) (hh : ¬ ((h.size : Int) = min 3 b ∧ (t.size : Int) = min 3 b)) :
    Calls Try.prog 38 #[(.agg #[.int .i64 b, .int .i64 c, .int .i64 l, .string h, .string t])] w fun e w' => e = .returned (.bool false) ∧ Below w.heap.size w w' := by
  obtain ⟨h1, h2, h3, h4, h5, q, r, hq, hr, hqc, hw⟩ := cnt_ways hb hc
  clear hc hb
  by_cases h3b : 3 < b
  · have hmin : min (3 : Int) b = 3 := by omega
    rw [hmin] at hh
    clear hmin
    by_cases g1 : (h.size : Int) = 3
    · have g2 : ((t.size : Int) != 3) = true := by simp; exact fun e => hh ⟨g1, by simp [e]⟩
      have g1' : ((h.size : Int) != 3) = false := by simp; omega
      clear hh g1
      rcases hw with hw | ⟨hw, rfl⟩
      all_goals
        go_enter Try.func38, Try.ntmps38
        go_wp2_with (fail)
        go_ret
        exact ⟨rfl, (Below.refl _ w).alloc (Nat.le_refl _) _⟩
    · have g1' : ((h.size : Int) != 3) = true := by simp; omega
      clear hh g1
      rcases hw with hw | ⟨hw, rfl⟩
      all_goals
        go_enter Try.func38, Try.ntmps38
        go_wp2_with (fail)
        go_ret
        exact ⟨rfl, (Below.refl _ w).alloc (Nat.le_refl _) _⟩
  · have h3b : b ≤ 3 := by omega
    have hmin : min (3 : Int) b = b := by omega
    rw [hmin] at hh
    clear hmin
    by_cases g1 : (h.size : Int) = b
    · have g2 : ((t.size : Int) != b) = true := by simp; exact fun e => hh ⟨g1, e⟩
      have g1' : ((h.size : Int) != b) = false := by simp; omega
      clear hh g1
      rcases hw with hw | ⟨hw, rfl⟩
      all_goals
        go_enter Try.func38, Try.ntmps38
        go_wp2_with (fail)
        go_ret
        exact ⟨rfl, (Below.refl _ w).alloc (Nat.le_refl _) _⟩
    · have g1' : ((h.size : Int) != b) = true := by simp [g1]
      clear hh g1
      rcases hw with hw | ⟨hw, rfl⟩
      all_goals
        go_enter Try.func38, Try.ntmps38
        go_wp2_with (fail)
        go_ret
        exact ⟨rfl, (Below.refl _ w).alloc (Nat.le_refl _) _⟩
end Go.Proofs.Ytojbclifafmllaa
