/- The statements' within. -/
import Derived.Test.YtmgeokmgidnneaaPMap
namespace Go.Proofs.Ytmgeokmgidnneaa
open Go.RowKit
set_option linter.unusedVariables false

theorem within_eq (i n : Int) (hn : 0 < n) : (if i.tmod n < 0 then i.tmod n + n else i.tmod n) = i % n ∧ -n < i.tmod n ∧ i.tmod n < n := by
  have h1 := Int.mul_tdiv_add_tmod i n
  have h2 : i.tmod n < n := Int.tmod_lt_of_pos i hn
  have h3 : -n < i.tmod n := by
    have h := Int.lt_tmod_of_pos i hn
    omega
  have h4 : i % n = (i.tmod n) % n := by
    have h5 : i % n = (i.tmod n + n * i.tdiv n) % n := by rw [Int.add_comm, h1]
    rw [h5, Int.add_mul_emod_self_left]
  refine ⟨?_, h3, h2⟩
  rw [h4]
  split
  · rename_i h
    rw [← Int.add_emod_right, Int.emod_eq_of_lt (by omega) (by omega)]
  · rename_i h
    rw [Int.emod_eq_of_lt (by omega) h2]
theorem pwithin_any (w : World) (i n : Int) (hn : 0 < n) (hn' : n ≤ 4611686018427387904) (hi : -9223372036854775808 ≤ i) (hi' : i ≤ 9223372036854775807) : Calls Try.prog 6 #[.int .i64 i, .int .i64 n] w fun e w' => e = .returned (.int .i64 (i % n)) ∧ w' = w := by
  obtain ⟨h1, h2, h3⟩ := within_eq i n hn
  have hn0 : ¬ n = 0 := by omega
  obtain ⟨t, ht⟩ : ∃ t, i.tmod n = t := ⟨_, rfl⟩
  rw [ht] at h1 h2 h3
  by_cases h : t < 0
  · rw [if_pos h] at h1
    rw [← h1]
    clear h1
    go_enter Try.func6, Try.ntmps6
    go_wp2
    go_ret
    exact ⟨rfl, rfl⟩
  · rw [if_neg h] at h1
    rw [← h1]
    clear h1
    go_enter Try.func6, Try.ntmps6
    go_wp2
    go_ret
    exact ⟨rfl, rfl⟩
end Go.Proofs.Ytmgeokmgidnneaa
