/- Package super: Plan; and the document's. -/
import Derived.Test.YtmljacjbpcgijaaZRow
namespace Go.Proofs.Ytmljacjbpcgijaa
open Go.RowKit
set_option linter.unusedVariables false

/-- A plan, as five cells. -/
def suC (a b c d e : Int) : Array Value := #[.int .i64 a, .int .i64 b, .int .i64 c, .int .i64 d, .int .i64 e]
/-- The plan of a size. -/
def plC (x : Int) : Array Value := suC x 128 32768 32896 ((x - 32896) / 256)
def noC : Array Value := suC 0 0 0 0 0
/-- A size that may be. -/
def okS (x : Int) : Prop := 36992 ≤ x ∧ x ≤ 4194304 ∧ x % 64 = 0
theorem tm64 {x : Int} (h : 0 ≤ x) : x.tmod 64 = x % 64 := Int.tmod_eq_emod_of_nonneg h
set_option maxHeartbeats 400000 in
theorem plan_ok (x : Int) (w : World) (h : okS x) :
    Calls Try.prog 10 #[.int .i64 x] w fun e w' => e = .returned (.tuple #[.agg (plC x), .int .i64 0]) ∧ Below w.heap.size w w' := by
  obtain ⟨h1, h2, h3⟩ := h
  have a1 : ¬ x < 36992 := by omega
  have a2 : ¬ 4194304 < x := by omega
  clear h1 h2
  go_enter Try.func10, Try.ntmps10
  go_wp2
  (try simp only [Exit.inBlock, Exit.then])
  refine bodyPost_ret (results_row_tmp rfl _ _ w.heap.size _ _ _ _ rfl (heap_alloc_new w _) Try.underlying37 rfl (by kernel_rfl)) rfl ?_
  exact ⟨rfl, (Below.refl _ w).alloc (Nat.le_refl _) _⟩
set_option maxHeartbeats 400000 in
theorem plan_no (x : Int) (w : World) (hx : -9223372036854775808 ≤ x) (hx' : x ≤ 9223372036854775807) (h : ¬ okS x) :
    Calls Try.prog 10 #[.int .i64 x] w fun e w' => e = .returned (.tuple #[.agg noC, .int .i64 80]) ∧ Below w.heap.size w w' := by
  have hc : x < 36992 ∨ (¬ x < 36992 ∧ 4194304 < x) ∨ (¬ x < 36992 ∧ ¬ 4194304 < x ∧ ¬ x % 64 = 0) := by
    unfold okS at h
    omega
  clear h
  rcases hc with a1 | ⟨a1, a2⟩ | ⟨a1, a2, a3⟩
  all_goals
    go_enter Try.func10, Try.ntmps10
    go_wp2
    (try simp only [Exit.inBlock, Exit.then])
    refine bodyPost_ret (results_row_tmp rfl _ _ w.heap.size _ _ _ _ rfl (heap_alloc_new w _) Try.underlying37 rfl (by kernel_rfl)) rfl ?_
    exact ⟨rfl, (Below.refl _ w).alloc (Nat.le_refl _) _⟩
set_option maxHeartbeats 400000 in
theorem rplan_ok (x : Int) (w : World) (h : okS x) :
    Calls Try.prog 18 #[.int .i64 x] w fun e w' => e = .returned (.tuple #[.agg (plC x), .int .i64 0]) ∧ Below w.heap.size w w' := by
  obtain ⟨h1, h2, h3⟩ := h
  have a1 : ¬ x < 36992 := by omega
  have a2 : ¬ 4194304 < x := by omega
  clear h1 h2
  go_enter Try.func18, Try.ntmps18
  go_wp2
  (try simp only [Exit.inBlock, Exit.then])
  refine bodyPost_ret (results_row_tmp rfl _ _ w.heap.size _ _ _ _ rfl (heap_alloc_new w _) Try.underlying37 rfl (by kernel_rfl)) rfl ?_
  exact ⟨rfl, (Below.refl _ w).alloc (Nat.le_refl _) _⟩
set_option maxHeartbeats 400000 in
theorem rplan_no (x : Int) (w : World) (hx : -9223372036854775808 ≤ x) (hx' : x ≤ 9223372036854775807) (h : ¬ okS x) :
    Calls Try.prog 18 #[.int .i64 x] w fun e w' => e = .returned (.tuple #[.agg noC, .int .i64 80]) ∧ Below w.heap.size w w' := by
  have hc : x < 36992 ∨ (¬ x < 36992 ∧ 4194304 < x) ∨ (¬ x < 36992 ∧ ¬ 4194304 < x ∧ ¬ x % 64 = 0) := by
    unfold okS at h
    omega
  clear h
  rcases hc with a1 | ⟨a1, a2⟩ | ⟨a1, a2, a3⟩
  all_goals
    go_enter Try.func18, Try.ntmps18
    go_wp2
    (try simp only [Exit.inBlock, Exit.then])
    refine bodyPost_ret (results_row_tmp rfl _ _ w.heap.size _ _ _ _ rfl (heap_alloc_new w _) Try.underlying37 rfl (by kernel_rfl)) rfl ?_
    exact ⟨rfl, (Below.refl _ w).alloc (Nat.le_refl _) _⟩
end Go.Proofs.Ytmljacjbpcgijaa
