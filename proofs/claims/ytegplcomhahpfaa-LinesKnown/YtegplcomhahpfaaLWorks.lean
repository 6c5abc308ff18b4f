/- What 'works' answers: yes. -/
import Derived.Test.YtegplcomhahpfaaLWhere
import Derived.Test.YtegplcomhahpfaaLPlace
namespace Go.Proofs.Ytegplcomhahpfaa
open Go.RowKit Go.Shelf
set_option linter.unusedVariables false

/-- The text of 'works'. -/
def tw : ByteArray := ⟨#[97, 13, 10, 98]⟩
theorem Ls_tw : Ls (bl tw) = [(0, 1, 2), (3, 4, 0)] := by decide
theorem line_tw : lineV (bl tw) 1 = ((3, 4), 0, 0) := by decide
theorem place_tw : placeV (bl tw) 1 1 = (4, 0) := by decide
theorem where_tw {k : Nat} {x : Nat × Nat × Nat} (h : WhereAt (bl tw) 3 k x) : k = 1 ∧ x = (3, 4, 0) := by
  obtain ⟨h1, h2, h3⟩ := h
  rw [Ls_tw] at h1 h2 h3
  have hk : k = 0 ∨ k = 1 := by have := (List.getElem?_eq_some_iff.1 h1).1; simp at this; omega
  rcases hk with rfl | rfl
  · simp at h1; subst h1; simp at h3
  · simp at h1; exact ⟨rfl, h1.symm⟩
theorem of_tw : ofV (bl (tw.extract 3 4)) 0 = (0, 0) := by decide

set_option maxHeartbeats 2000000 in
theorem works_any (w : World) : Calls Try.prog 16 #[] w fun e w' => e = .returned (.bool true) ∧ Below w.heap.size w w' := by
  have kl := fun w' => lline_any tw 1 w' (by decide)
  have kc := fun w' => lcount_any tw w' (by decide)
  have kp := fun w' => place_any tw 1 1 w' (by decide)
  have kw : ∀ w', Calls Try.prog 26 #[.string tw, .int .i64 3] w' fun e w2 => e = .returned (.tuple #[.agg #[.int .i64 1, .int .i64 0], .int .i64 0]) ∧ Below w'.heap.size w' w2 := fun w' => by
    refine (where_in tw 3 w' (by decide) (by decide)).mono ?_
    rintro e w2 ⟨⟨k, x, hw, hx, rfl⟩, hB⟩
    obtain ⟨rfl, rfl⟩ := where_tw hw
    refine ⟨?_, hB⟩
    have h : ofV (bl (tw.extract 3 (4 + 0))) (((3 : Nat) : Int) - ((3 : Nat) : Int)) = (0, 0) := of_tw
    rw [h]
    rfl
  rw [line_tw] at kl
  rw [place_tw] at kp
  rw [Ls_tw] at kc
  simp only [encLV] at kl
  have KL := hide kl
  have KC := hide kc
  have KP := hide kp
  have KW := hide kw
  clear kl kc kp kw
  unfold tw at *
  have facts : ∀ w1 w2 w3 w4 : World, Below w.heap.size w w1 → Below (w1.alloc (.cells #[.int .i64 3, .int .i64 4] 28)).heap.size (w1.alloc (.cells #[.int .i64 3, .int .i64 4] 28)) w2 →
      Below (w2.alloc (.cells #[.int .i64 1, .int .i64 0] 47)).heap.size (w2.alloc (.cells #[.int .i64 1, .int .i64 0] 47)) w3 → Below w3.heap.size w3 w4 →
      w4.cell? ⟨w1.heap.size, 0, none⟩ = some (.int .i64 3) ∧ w4.cell? ⟨w1.heap.size, 1, none⟩ = some (.int .i64 4) ∧ w4.cell? ⟨w2.heap.size, 0, none⟩ = some (.int .i64 1) ∧ w4.cell? ⟨w2.heap.size, 1, none⟩ = some (.int .i64 0) ∧ Below w.heap.size w w4 := by
    intro w1 w2 w3 w4 h1 h2 h3 h4
    have P1 : Box2 (w1.alloc (.cells #[.int .i64 3, .int .i64 4] 28)) w1.heap.size 28 (.int .i64 3) (.int .i64 4) := heap_alloc_new _ _
    have P4 := (((P1.below h2).below (W' := w2.alloc (.cells #[.int .i64 1, .int .i64 0] 47)) ((Below.refl _ _).alloc (Nat.le_refl _) _)).below h3).below h4
    have Q1 : Box2 (w2.alloc (.cells #[.int .i64 1, .int .i64 0] 47)) w2.heap.size 47 (.int .i64 1) (.int .i64 0) := heap_alloc_new _ _
    have Q4 := (Q1.below h3).below h4
    refine ⟨celOf P4 0 _ rfl, celOf P4 1 _ rfl, celOf Q4 0 _ rfl, celOf Q4 1 _ rfl, ?_⟩
    exact bseq (bseq (bseq (bseq (bseq h1 ((Below.refl _ _).alloc (Nat.le_refl _) _)) h2) ((Below.refl _ _).alloc (Nat.le_refl _) _)) h3) h4
  have FACTS := hide facts
  clear facts
  go_enter Try.func16, Try.ntmps16
  go_wp2_with (first | (go_at_call 11; refine (KL.out _).mono ?_; rintro e w1 ⟨rfl, hB1⟩) | (go_at_call 26; refine (KW.out _).mono ?_; rintro e w2 ⟨rfl, hB2⟩) | (go_at_call 27; refine (KP.out _).mono ?_; rintro e w3 ⟨rfl, hB3⟩) | (go_at_call 8; refine (KC.out _).mono ?_; rintro e w4 ⟨rfl, hB4⟩; obtain ⟨c0, c1, d0, d1, hB⟩ := FACTS.out w1 w2 w3 w4 hB1 hB2 hB3 hB4))
  go_ret
  exact ⟨rfl, hB⟩
end Go.Proofs.Ytegplcomhahpfaa
