/- What bits.Round and the document's Round answer, for every two numbers of the kind int: one function. -/
import Derived.Test.YtjkglimbmfgllaaRows
import Derived.WalkKit
namespace Go.Proofs.Ytjkglimbmfgllaa
open Go.RowKit
set_option linter.unusedVariables false

/-- The least multiple, and the error's number. -/
def roundV (n to : Int) : Int × Int :=
  if n < 0 ∨ to < 1 then (0, 2) else if n % to = 0 then (n, 0)
  else if 9223372036854775807 - (to - n % to) < n then (0, 2) else (n + (to - n % to), 0)

theorem roundP_bad (n to : Int) (h : n < 0 ∨ to < 1) (w : World) :
    Calls Try.prog 29 #[.int .i64 n, .int .i64 to] w fun e w' => e = .returned (.tuple #[.int .i64 0, .int .i64 2]) ∧ w' = w := by
  by_cases h1 : n < 0
  · go_enter Try.func29, Try.ntmps29
    go_wp2
    go_ret2
    exact ⟨rfl, rfl⟩
  · have h2 : to < 1 := by omega
    have h3 : 0 ≤ n := by omega
    go_enter Try.func29, Try.ntmps29
    go_wp2
    go_ret2
    exact ⟨rfl, rfl⟩

theorem roundP_zero (n to : Int) (h1 : 0 ≤ n) (h2 : 1 ≤ to) (h3 : n ≤ 9223372036854775807) (h4 : to ≤ 9223372036854775807) (hr : (n % to == 0) = true) (w : World) :
    Calls Try.prog 29 #[.int .i64 n, .int .i64 to] w fun e w' => e = .returned (.tuple #[.int .i64 n, .int .i64 0]) ∧ w' = w := by
  go_enter Try.func29, Try.ntmps29
  go_wp2
  go_ret2
  exact ⟨rfl, rfl⟩

theorem roundP_over (n to : Int) (h1 : 0 ≤ n) (h2 : 1 ≤ to) (h3 : n ≤ 9223372036854775807) (h4 : to ≤ 9223372036854775807) (hr : (n % to == 0) = false)
    (r0 : 0 ≤ n % to) (r1 : n % to < to) (ho : 9223372036854775807 - (to - n % to) < n) (w : World) :
    Calls Try.prog 29 #[.int .i64 n, .int .i64 to] w fun e w' => e = .returned (.tuple #[.int .i64 0, .int .i64 2]) ∧ w' = w := by
  go_enter Try.func29, Try.ntmps29
  go_wp2
  go_ret2
  exact ⟨rfl, rfl⟩

theorem roundP_up (n to : Int) (h1 : 0 ≤ n) (h2 : 1 ≤ to) (h3 : n ≤ 9223372036854775807) (h4 : to ≤ 9223372036854775807) (hr : (n % to == 0) = false)
    (r0 : 0 ≤ n % to) (r1 : n % to < to) (ho : n ≤ 9223372036854775807 - (to - n % to)) (w : World) :
    Calls Try.prog 29 #[.int .i64 n, .int .i64 to] w fun e w' => e = .returned (.tuple #[.int .i64 (n + (to - n % to)), .int .i64 0]) ∧ w' = w := by
  go_enter Try.func29, Try.ntmps29
  go_wp2
  go_ret2
  exact ⟨rfl, rfl⟩

theorem roundP_any (n to : Int) (h3 : n ≤ 9223372036854775807) (h4 : to ≤ 9223372036854775807) (w : World) :
    Calls Try.prog 29 #[.int .i64 n, .int .i64 to] w fun e w' => e = .returned (.tuple #[.int .i64 (roundV n to).1, .int .i64 (roundV n to).2]) ∧ w' = w := by
  unfold roundV
  by_cases h : n < 0 ∨ to < 1
  · rw [if_pos h]; exact roundP_bad n to h w
  · rw [if_neg h]
    have h1 : 0 ≤ n := by omega
    have h2 : 1 ≤ to := by omega
    by_cases hr : n % to = 0
    · rw [if_pos hr]; exact roundP_zero n to h1 h2 h3 h4 (by simpa using hr) w
    · rw [if_neg hr]
      have r0 := Int.emod_nonneg n (show to ≠ 0 by omega)
      have r1 := Int.emod_lt_of_pos n (show 0 < to by omega)
      by_cases ho : 9223372036854775807 - (to - n % to) < n
      · rw [if_pos ho]; exact roundP_over n to h1 h2 h3 h4 (by simpa using hr) r0 r1 ho w
      · rw [if_neg ho]; exact roundP_up n to h1 h2 h3 h4 (by simpa using hr) r0 r1 (by omega) w

theorem roundR_bad (n to : Int) (h : n < 0 ∨ to < 1) (w : World) :
    Calls Try.prog 30 #[.int .i64 n, .int .i64 to] w fun e w' => e = .returned (.tuple #[.int .i64 0, .int .i64 2]) ∧ w' = w := by
  by_cases h1 : n < 0
  · go_enter Try.func30, Try.ntmps30
    go_wp2
    go_ret2
    exact ⟨rfl, rfl⟩
  · have h2 : to < 1 := by omega
    have h3 : 0 ≤ n := by omega
    go_enter Try.func30, Try.ntmps30
    go_wp2
    go_ret2
    exact ⟨rfl, rfl⟩

theorem roundR_zero (n to : Int) (h1 : 0 ≤ n) (h2 : 1 ≤ to) (h3 : n ≤ 9223372036854775807) (h4 : to ≤ 9223372036854775807) (hr : (n % to == 0) = true) (w : World) :
    Calls Try.prog 30 #[.int .i64 n, .int .i64 to] w fun e w' => e = .returned (.tuple #[.int .i64 n, .int .i64 0]) ∧ w' = w := by
  go_enter Try.func30, Try.ntmps30
  go_wp2
  go_ret2
  exact ⟨rfl, rfl⟩

theorem roundR_over (n to : Int) (h1 : 0 ≤ n) (h2 : 1 ≤ to) (h3 : n ≤ 9223372036854775807) (h4 : to ≤ 9223372036854775807) (hr : (n % to == 0) = false)
    (r0 : 0 ≤ n % to) (r1 : n % to < to) (ho : 9223372036854775807 - (to - n % to) < n) (w : World) :
    Calls Try.prog 30 #[.int .i64 n, .int .i64 to] w fun e w' => e = .returned (.tuple #[.int .i64 0, .int .i64 2]) ∧ w' = w := by
  go_enter Try.func30, Try.ntmps30
  go_wp2
  go_ret2
  exact ⟨rfl, rfl⟩

theorem roundR_up (n to : Int) (h1 : 0 ≤ n) (h2 : 1 ≤ to) (h3 : n ≤ 9223372036854775807) (h4 : to ≤ 9223372036854775807) (hr : (n % to == 0) = false)
    (r0 : 0 ≤ n % to) (r1 : n % to < to) (ho : n ≤ 9223372036854775807 - (to - n % to)) (w : World) :
    Calls Try.prog 30 #[.int .i64 n, .int .i64 to] w fun e w' => e = .returned (.tuple #[.int .i64 (n + (to - n % to)), .int .i64 0]) ∧ w' = w := by
  go_enter Try.func30, Try.ntmps30
  go_wp2
  go_ret2
  exact ⟨rfl, rfl⟩

theorem roundR_any (n to : Int) (h3 : n ≤ 9223372036854775807) (h4 : to ≤ 9223372036854775807) (w : World) :
    Calls Try.prog 30 #[.int .i64 n, .int .i64 to] w fun e w' => e = .returned (.tuple #[.int .i64 (roundV n to).1, .int .i64 (roundV n to).2]) ∧ w' = w := by
  unfold roundV
  by_cases h : n < 0 ∨ to < 1
  · rw [if_pos h]; exact roundR_bad n to h w
  · rw [if_neg h]
    have h1 : 0 ≤ n := by omega
    have h2 : 1 ≤ to := by omega
    by_cases hr : n % to = 0
    · rw [if_pos hr]; exact roundR_zero n to h1 h2 h3 h4 (by simpa using hr) w
    · rw [if_neg hr]
      have r0 := Int.emod_nonneg n (show to ≠ 0 by omega)
      have r1 := Int.emod_lt_of_pos n (show 0 < to by omega)
      by_cases ho : 9223372036854775807 - (to - n % to) < n
      · rw [if_pos ho]; exact roundR_over n to h1 h2 h3 h4 (by simpa using hr) r0 r1 ho w
      · rw [if_neg ho]; exact roundR_up n to h1 h2 h3 h4 (by simpa using hr) r0 r1 (by omega) w

end Go.Proofs.Ytjkglimbmfgllaa
