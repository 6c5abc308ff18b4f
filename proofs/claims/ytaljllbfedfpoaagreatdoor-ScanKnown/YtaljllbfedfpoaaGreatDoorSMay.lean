/- Package scan: which tokens may be. -/
import Derived.Test.YtaljllbfedfpoaaGreatDoorSSaid
import Derived.Test.YtaljllbfedfpoaaGreatDoorSEscA
namespace Go.Proofs.YtaljllbfedfpoaaGreatDoor
open Go.RowKit Go.Shelf
set_option linter.unusedVariables false

set_option maxRecDepth 100000 in
set_option maxHeartbeats 4000000 in
theorem mayBe_3 (a : Int) (t : ByteArray) (n : Int) (w : World) : Calls Tryz.prog 49 #[tok 3 a t n] w fun e w' => e = .returned (.bool (n == 0)) ∧ Below w.heap.size w w' := by
  unfold tok
  go_enter Tryz.func49, Tryz.ntmps49
  go_wp2_with (fail)
  try go_ret
  exact ⟨rfl, by first | exact Below.refl _ _ | exact (Below.refl _ _).alloc (Nat.le_refl _) _⟩
set_option maxRecDepth 100000 in
set_option maxHeartbeats 4000000 in
theorem mayBe_else (k a : Int) (t : ByteArray) (n : Int) (w : World) (h1 : (k == 1) = false) (h2 : (k == 2) = false) (h3 : (k == 3) = false) : Calls Tryz.prog 49 #[tok k a t n] w fun e w' => e = .returned (.bool false) ∧ Below w.heap.size w w' := by
  unfold tok
  go_enter Tryz.func49, Tryz.ntmps49
  go_wp2_with (fail)
  try go_ret
  exact ⟨rfl, by first | exact Below.refl _ _ | exact (Below.refl _ _).alloc (Nat.le_refl _) _⟩
set_option maxRecDepth 100000 in
set_option maxHeartbeats 4000000 in
theorem mayBe_2 (a : Int) (t : ByteArray) (n : Int) (w : World) : Calls Tryz.prog 49 #[tok 2 a t n] w fun e w' => e = .returned (.bool (decide (bl t = []) && decide (0 ≤ n))) ∧ Below w.heap.size w w' := by
  have e1 : t.toList.isEmpty = decide (bl t = []) := by
    rw [ByteArray.toList_eq]
    unfold bl
    cases t.data.toList <;> simp
  unfold tok
  cases hd : decide (bl t = []) with
  | true =>
    rw [hd] at e1
    go_enter Tryz.func49, Tryz.ntmps49
    go_wp2_with (fail)
    try go_ret
    exact ⟨rfl, by first | exact Below.refl _ _ | exact (Below.refl _ _).alloc (Nat.le_refl _) _⟩
  | false =>
    rw [hd] at e1
    go_enter Tryz.func49, Tryz.ntmps49
    go_wp2_with (fail)
    try go_ret
    exact ⟨rfl, by first | exact Below.refl _ _ | exact (Below.refl _ _).alloc (Nat.le_refl _) _⟩
set_option maxRecDepth 100000 in
set_option maxHeartbeats 4000000 in
theorem mayBe_1 (a : Int) (t : ByteArray) (n : Int) (w : World) (hs : t.size ≤ 140737488355328) (hL : LaidW w) : Calls Tryz.prog 49 #[tok 1 a t n] w fun e w' => e = .returned (.bool (isRunL (bl t) && !(numK (bl t)).isSome && (n == 0))) ∧ Below w.heap.size w w' := by
  have hB0 : Below w.heap.size w (w.alloc (.cells #[.int .i64 1, .int .i64 a, .string t, .int .i64 n] 28)) := (Below.refl _ _).alloc (Nat.le_refl _) _
  have hL1 := hL.below hB0
  have kn := number_any t _ (by omega) hL1
  have kr := fun w' => isRun_any t w' hs
  generalize (numK (bl t)).getD 0 = N at *
  generalize (numK (bl t)).isSome = I at *
  generalize isRunL (bl t) = R at *
  have KN := hide kn
  have KR := hide kr
  have hc : (w.alloc (.cells #[.int .i64 1, .int .i64 a, .string t, .int .i64 n] 28)).heap[w.heap.size]? = some (.cells #[.int .i64 1, .int .i64 a, .string t, .int .i64 n] 28 (0, 0)) := heap_alloc_new w _
  have hlt : w.heap.size < (w.alloc (.cells #[.int .i64 1, .int .i64 a, .string t, .int .i64 n] 28)).heap.size := (Array.getElem?_eq_some_iff.1 hc).1
  clear kn kr
  unfold tok
  cases I <;> cases R
  all_goals go_enter Tryz.func49, Tryz.ntmps49
  all_goals go_wp2_with (first | (go_at_call 56; refine (KN.out).mono ?_; rintro e x ⟨rfl, hbx⟩; have hx : x.heap[w.heap.size]? = some (.cells #[.int .i64 1, .int .i64 a, .string t, .int .i64 n] 28 (0, 0)) := (hbx.block _ hlt).trans hc; have x2 : x.cell? ⟨w.heap.size, 2, none⟩ = some (.string t) := by (simp [World.cell?, hx])) | (go_at_call 67; refine (KR.out _).mono ?_; rintro e y ⟨rfl, hby⟩; have y3 : y.cell? ⟨w.heap.size, 3, none⟩ = some (.int .i64 n) := by (simp [World.cell?, (hby.block _ (Array.getElem?_eq_some_iff.1 hx).1).trans hx])))
  all_goals go_ret
  all_goals refine ⟨by first | rfl | simp, ?_⟩
  all_goals exact bseq (bseq hB0 hbx) hby
end Go.Proofs.YtaljllbfedfpoaaGreatDoor
