/- Package scan: a quoted text, as bytes (no program in it). -/
import Derived.Test.YtaljllbfedfpoaaGreatDoorSEscV
import Derived.Test.YtaljllbfedfpoaaGreatDoorSPln
namespace Go.Proofs.YtaljllbfedfpoaaGreatDoor
open Go.RowKit Go.Shelf
set_option linter.unusedVariables false

theorem encR_small (z : Int) : (Lib.encodeRune z).length ≤ 4 := by unfold Lib.encodeRune; simpa using (Lib.encodeRuneZ_length z).2
theorem escL_small (l : List UInt8) : (escL l).1.length ≤ (escL l).2 ∧ (escL l).2 ≤ l.length := by
  unfold escL
  by_cases h1 : 1 < l.length
  · rw [if_pos h1]
    split
    · simp; omega
    split
    · simp; omega
    split
    · simp; omega
    split
    · simp; omega
    split
    · simp; omega
    split
    · split
      · have := dgF_le 2 0 (l.drop 2)
        simp only [List.length_drop, List.length_cons, List.length_nil] at this ⊢
        omega
      · simp
    split
    · split
      · split
        · rename_i h2 h3
          have := encR_small ((dgF 6 0 (l.drop 3)).1 : Int)
          simp only
          omega
        · simp
      · simp
    · simp
  · rw [if_neg h1]; simp
/-- A quoted text from behind its first mark on: what it stands for, how far it goes, whether it is one. -/
def qtd : Nat → List UInt8 → List UInt8 × Nat × Bool
  | 0, _ => ([], 0, false)
  | n + 1, l =>
    if 0 < l.length ∧ by' l 0 = 34 then ([], 1, true)
    else if (firstV l).1 = 92 then
      if (escL l).2 = 0 then ([], 0, false)
      else ((escL l).1 ++ (qtd n (l.drop (escL l).2)).1, (escL l).2 + (qtd n (l.drop (escL l).2)).2.1, (qtd n (l.drop (escL l).2)).2.2)
    else if (firstV l).2.2 = true ∧ plainK (firstV l).1 = true then (l.take (cw l) ++ (qtd n (l.drop (cw l))).1, cw l + (qtd n (l.drop (cw l))).2.1, (qtd n (l.drop (cw l))).2.2)
    else ([], 0, false)
theorem first_ne {l : List UInt8} (h : (firstV l).2.2 = true) : l ≠ [] := fun e => by subst e; simp [firstV] at h
theorem qtd_fuel (n : Nat) : ∀ (m : Nat) (l : List UInt8), l.length < n → l.length < m → qtd n l = qtd m l := by
  induction n with
  | zero => intro m l h; omega
  | succ n ih =>
    intro m l h1 h2
    cases m with
    | zero => omega
    | succ m =>
      unfold qtd
      split
      · rfl
      · split
        · split
          · rfl
          · rename_i h3
            have := (escL_small l).2
            rw [ih m (l.drop (escL l).2) (by rw [List.length_drop]; omega) (by rw [List.length_drop]; omega)]
        · split
          · rename_i h3
            have hne := first_ne h3.1
            have := cw_pos l
            have : 0 < l.length := List.length_pos_iff.2 hne
            rw [ih m (l.drop (cw l)) (by rw [List.length_drop]; omega) (by rw [List.length_drop]; omega)]
          · rfl
def Qt (l : List UInt8) : List UInt8 × Nat × Bool := qtd (l.length + 1) l
theorem Qt_close {l : List UInt8} (h : 0 < l.length ∧ by' l 0 = 34) : Qt l = ([], 1, true) := by unfold Qt qtd; rw [if_pos h]
theorem Qt_none {l : List UInt8} (h : ¬ (0 < l.length ∧ by' l 0 = 34)) (h2 : (firstV l).1 = 92) (h3 : (escL l).2 = 0) : Qt l = ([], 0, false) := by unfold Qt qtd; rw [if_neg h, if_pos h2, if_pos h3]
theorem Qt_esc {l : List UInt8} (h : ¬ (0 < l.length ∧ by' l 0 = 34)) (h2 : (firstV l).1 = 92) (h3 : (escL l).2 ≠ 0) :
    Qt l = ((escL l).1 ++ (Qt (l.drop (escL l).2)).1, (escL l).2 + (Qt (l.drop (escL l).2)).2.1, (Qt (l.drop (escL l).2)).2.2) := by
  have e : qtd l.length (l.drop (escL l).2) = Qt (l.drop (escL l).2) := by
    have := (escL_small l).2
    exact qtd_fuel _ _ _ (by rw [List.length_drop]; omega) (by omega)
  unfold Qt
  rw [qtd, if_neg h, if_pos h2, if_neg h3, e]
  rfl
theorem Qt_fault {l : List UInt8} (h : ¬ (0 < l.length ∧ by' l 0 = 34)) (h2 : (firstV l).1 ≠ 92) (h3 : ¬ ((firstV l).2.2 = true ∧ plainK (firstV l).1 = true)) : Qt l = ([], 0, false) := by
  unfold Qt qtd; rw [if_neg h, if_neg h2, if_neg h3]
theorem Qt_char {l : List UInt8} (h : ¬ (0 < l.length ∧ by' l 0 = 34)) (h2 : (firstV l).1 ≠ 92) (h3 : (firstV l).2.2 = true ∧ plainK (firstV l).1 = true) :
    Qt l = (l.take (cw l) ++ (Qt (l.drop (cw l))).1, cw l + (Qt (l.drop (cw l))).2.1, (Qt (l.drop (cw l))).2.2) := by
  have hne := first_ne h3.1
  have hl : 0 < l.length := List.length_pos_iff.2 hne
  have e : qtd l.length (l.drop (cw l)) = Qt (l.drop (cw l)) := by
    have := cw_pos l
    exact qtd_fuel _ _ _ (by rw [List.length_drop]; omega) (by omega)
  unfold Qt
  rw [qtd, if_neg h, if_neg h2, if_pos h3, e]
  rfl
end Go.Proofs.YtaljllbfedfpoaaGreatDoor
