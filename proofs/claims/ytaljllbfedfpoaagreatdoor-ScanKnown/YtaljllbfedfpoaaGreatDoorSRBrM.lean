/- The document's reading of an escape against the program's (no program in it). -/
import Derived.Test.YtaljllbfedfpoaaGreatDoorSRQtdM
namespace Go.Proofs.YtaljllbfedfpoaaGreatDoor
open Go.RowKit Go.Shelf
set_option linter.unusedVariables false

/-- What stands for a number in braces. -/
def brL (l : List UInt8) : List UInt8 × Nat :=
  if 2 < l.length ∧ by' l 2 = 123 then
    if 1 ≤ (dgF 6 0 (l.drop 3)).2 ∧ (3 + (dgF 6 0 (l.drop 3)).2 < l.length ∧ by' l (3 + (dgF 6 0 (l.drop 3)).2) = 125) ∧ Lib.validRune ((dgF 6 0 (l.drop 3)).1 : Int) = true then (Lib.encodeRune ((dgF 6 0 (l.drop 3)).1 : Int), 3 + (dgF 6 0 (l.drop 3)).2 + 1) else ([], 0)
  else ([], 0)
theorem escL_117 {l : List UInt8} (h1 : 1 < l.length) (h : by' l 1 = 117) : escL l = brL l := by unfold escL brL; rw [if_pos h1, h]; rfl
theorem escL_120 {l : List UInt8} (h1 : 1 < l.length) (h : by' l 1 = 120) : escL l = if 2 ≤ (dgF 2 0 (l.drop 2)).2 then ([((dgF 2 0 (l.drop 2)).1).toUInt8], 2 + (dgF 2 0 (l.drop 2)).2) else ([], 0) := by unfold escL; rw [if_pos h1, h]; rfl
theorem escL_else {l : List UInt8} (h : 1 < l.length → ∀ m ∈ [34, 92, 110, 114, 116, 120, 117], by' l 1 ≠ m) : escL l = ([], 0) := by
  unfold escL
  by_cases h1 : 1 < l.length
  · have g := h h1
    rw [if_pos h1, if_neg (g 34 (by simp)), if_neg (g 92 (by simp)), if_neg (g 110 (by simp)), if_neg (g 114 (by simp)), if_neg (g 116 (by simp)), if_neg (g 120 (by simp)), if_neg (g 117 (by simp))]
  · rw [if_neg h1]
theorem escL_one {l : List UInt8} (c v : Nat) (h1 : 1 < l.length) (hc : (c, v) ∈ [(34, 34), (92, 92), (110, 10), (114, 13), (116, 9)]) (h : by' l 1 = c) : escL l = ([v.toUInt8], 2) := by
  simp only [List.mem_cons, Prod.mk.injEq, List.not_mem_nil, or_false] at hc
  unfold escL
  rcases hc with ⟨rfl, rfl⟩ | ⟨rfl, rfl⟩ | ⟨rfl, rfl⟩ | ⟨rfl, rfl⟩ | ⟨rfl, rfl⟩ <;> (rw [if_pos h1, h]; rfl)
/-- Two digits of sixteen. -/
theorem two_yes {l : List UInt8} (h : 3 < l.length) (d2 : digD (by' l 2) < 16) (d3 : digD (by' l 3) < 16) : dgF 2 0 (l.drop 2) = (16 * digD (by' l 2) + digD (by' l 3), 2) := by
  rw [dg_step (m := 1) (by omega) d2, dg_step (m := 0) (by omega) d3]
  simp [dgF]
theorem two_no {l : List UInt8} (h : ¬ (3 < l.length ∧ digD (by' l 2) < 16 ∧ digD (by' l 3) < 16)) : ¬ 2 ≤ (dgF 2 0 (l.drop 2)).2 := by
  by_cases h2 : 2 < l.length ∧ digD (by' l 2) < 16
  · rw [dg_step (m := 1) h2.1 h2.2, dg_stop (m := 1) (fun c => h ⟨c.1, h2.2, c.2⟩)]
    simp
  · rw [dg_stop (m := 2) h2]
    simp
/-- How far the digits in braces are read. -/
def brI (l : List UInt8) (k n : Nat) : Prop := 3 ≤ k ∧ k ≤ 9 ∧ k ≤ l.length ∧ n < 16 ^ (k - 3) ∧ dgF 6 0 (l.drop 3) = ((dgF (9 - k) n (l.drop k)).1, (k - 3) + (dgF (9 - k) n (l.drop k)).2)
theorem brI_start {l : List UInt8} (h : 2 < l.length) : brI l 3 0 := ⟨Nat.le_refl _, by omega, h, by decide, by simp⟩
theorem brI_step {l : List UInt8} {k n : Nat} (h : brI l k n) (hk : k < l.length) (hd : digD (by' l k) < 16) (h8 : k ≤ 8) : brI l (k + 1) (16 * n + digD (by' l k)) := by
  obtain ⟨h1, h2, h3, h4, h5⟩ := h
  refine ⟨by omega, by omega, hk, ?_, ?_⟩
  · rw [show k + 1 - 3 = (k - 3) + 1 by omega, Nat.pow_succ]
    omega
  · rw [h5, show 9 - k = (8 - k) + 1 by omega, dg_step hk hd, show 9 - (k + 1) = 8 - k by omega]
    simp only [Prod.mk.injEq, true_and]
    omega
theorem brI_stop {l : List UInt8} {k n : Nat} (h : brI l k n) (hd : ¬ (k < l.length ∧ digD (by' l k) < 16)) : dgF 6 0 (l.drop 3) = (n, k - 3) := by
  rw [h.2.2.2.2, dg_stop hd]
  rfl
theorem brI_small {l : List UInt8} {k n : Nat} (h : brI l k n) : n < 16777216 := by
  refine Nat.lt_of_lt_of_le h.2.2.2.1 ?_
  have := Nat.pow_le_pow_right (n := 16) (by omega) (show k - 3 ≤ 6 by have := h.2.1; omega)
  exact this
theorem brI_over {l : List UInt8} {k n : Nat} (h : brI l k n) (h8 : 8 < k) (hk : k < l.length) (hd : digD (by' l k) < 16) : brL l = ([], 0) := by
  have hk9 : k = 9 := by have := h.2.1; omega
  subst hk9
  have e : dgF 6 0 (l.drop 3) = (n, 6) := h.2.2.2.2
  unfold brL
  rw [e]
  split
  · rw [if_neg]
    intro c
    have c2 : by' l 9 = 125 := c.2.1.2
    rw [c2, dig_not_125] at hd
    omega
  · rfl
theorem brL_no {l : List UInt8} (h : ¬ (2 < l.length ∧ by' l 2 = 123)) : brL l = ([], 0) := by unfold brL; rw [if_neg h]
theorem brL_fail {l : List UInt8} {k n : Nat} (e : dgF 6 0 (l.drop 3) = (n, k - 3)) (h3 : 3 ≤ k) (h : ¬ (k ≠ 3 ∧ (k < l.length ∧ by' l k = 125) ∧ Lib.validRune (n : Int) = true)) : brL l = ([], 0) := by
  unfold brL
  rw [e]
  split
  · rw [if_neg]
    intro c
    simp only at c
    rw [show 3 + (k - 3) = k by omega] at c
    exact h ⟨by omega, c.2⟩
  · rfl
theorem brL_yes {l : List UInt8} {k n : Nat} (e : dgF 6 0 (l.drop 3) = (n, k - 3)) (h2 : 2 < l.length ∧ by' l 2 = 123) (h3 : 3 < k) (hk : k < l.length) (h : by' l k = 125) (hv : Lib.validRune (n : Int) = true) : brL l = (Lib.encodeRune (n : Int), k + 1) := by
  unfold brL
  rw [e, if_pos h2]
  simp only
  rw [show 3 + (k - 3) = k by omega, if_pos ⟨by omega, ⟨hk, h⟩, hv⟩]
theorem valid_iff (n : Nat) : Lib.validRune (n : Int) = true ↔ n ≤ 1114111 ∧ ¬ (55296 ≤ n ∧ n ≤ 57343) := by
  unfold Lib.validRune
  simp
  omega
end Go.Proofs.YtaljllbfedfpoaaGreatDoor
