/- The document's class of a character. -/
import Derived.Test.YtihfnnhfpohakaaKWkN
import Derived.Test.YtihfnnhfpohakaaKRunes
import Derived.Test.YtihfnnhfpohakaaUChs
import Derived.Deep.RegionHeld3
namespace Go.Proofs.Ytihfnnhfpohakaa
open Go.RowKit Go.Shelf
set_option linter.unusedVariables false

/-- A character of a text as the document lists it. -/
def aggC (e : Nat × Nat × Nat) : Value := .agg #[.int .i64 (e.1 : Int), .int .i32 (e.2.1 : Int), .int .i64 (e.2.2 : Int), .bool (rightE e)]
theorem wrong_rune {l : List UInt8} {e : Nat × Nat × Nat} (h : e ∈ Cs 0 l) (hr : rightE e = false) : e.2.1 = 65533 := by
  obtain ⟨-, -, -, -, h5, h6⟩ := Cs_mem l 0 e h
  have e2 : rightE e = decide (W (l.drop (e.1 - 0)) ≠ 0) := by
    have := rightE_at (l.drop (e.1 - 0)) e.1
    rw [← h5, ← h6] at this
    exact this
  rw [e2] at hr
  rw [h5]
  exact rune_0 (by simpa using hr)
theorem laidC (w w1 : World) (v0 v1 v2 v3 : Value) (t : TypeId) (h : Below (w.alloc (.cells #[v0, v1, v2, v3] t)).heap.size (w.alloc (.cells #[v0, v1, v2, v3] t)) w1) :
    (w1.cell? ⟨w.heap.size, 1, none⟩ = some v1 ∧ w1.cell? ⟨w.heap.size, 3, none⟩ = some v3) ∧ Below w.heap.size w w1 := by
  have hl : ∀ j, w1.cell? ⟨w.heap.size, j, none⟩ = (w.alloc (.cells #[v0, v1, v2, v3] t)).cell? ⟨w.heap.size, j, none⟩ := fun j => h.cell (p := ⟨w.heap.size, j, none⟩) (by simp)
  refine ⟨⟨?_, ?_⟩, ((Below.refl _ w).alloc (Nat.le_refl _) _).trans (h.mono (by simp))⟩
  · rw [hl]; simp
  · rw [hl]; simp
set_option maxHeartbeats 2000000 in
theorem rclass_any (l : List UInt8) (e : Nat × Nat × Nat) (w : World) (he : e ∈ Cs 0 l) :
    Calls Try.prog 29 #[aggC e] w fun en w' => en = .returned (.int .i64 (phi (clsE e))) ∧ Below w.heap.size w w' := by
  unfold aggC clsE
  have hw := fun h => @wrong_rune l e he h
  cases hr : rightE e with
  | false =>
    have hv : phi (clsK (e.2.1 : Int)) = 2 := by rw [hw hr]; decide +kernel
    rw [hv]
    clear hw hv hr he
    go_enter Try.func29, Try.ntmps29
    go_wp2_with (fail)
    go_ret
    exact ⟨rfl, (Below.refl _ w).alloc (Nat.le_refl _) _⟩
  | true =>
    have hv : phi (clsK (e.2.1 : Int)) = if blankK (e.2.1 : Int) then 0 else if wordK (e.2.1 : Int) then 1 else 2 := by
      unfold clsK; cases blankK (e.2.1 : Int) <;> cases wordK (e.2.1 : Int) <;> decide
    rw [hv]
    clear hw hv hr he
    go_enter Try.func29, Try.ntmps29
    go_wp2_with (first | (go_at_call 37; refine (rblankK _ _).mono ?_; rintro e w2 ⟨rfl, hB2⟩; obtain ⟨⟨c1, c3⟩, hBw⟩ := laidC _ _ _ _ _ _ _ hB2; have HBw := hide hBw; clear hB2 hBw) | (go_at_call 38; refine (rwordK _ _).mono ?_; rintro e w3 ⟨rfl, hB3⟩; replace HBw := hide (bseq HBw.out hB3); clear hB3))
    all_goals first | (go_ret; refine ⟨ret_k ?_, HBw.out⟩; first | (simp [*]; done) | (simp_all; done)) | (exfalso; simp_all; done)
end Go.Proofs.Ytihfnnhfpohakaa
