/- Package scan: the tokens of a line, as bytes (no program in it). -/
import Derived.Test.YtaljllbfedfpoaaGreatDoorSQtdM
import Derived.Test.YtaljllbfedfpoaaGreatDoorSSaid
namespace Go.Proofs.YtaljllbfedfpoaaGreatDoor
open Go.RowKit Go.Shelf
set_option linter.unusedVariables false

/-- A token: kind, place, text, number. -/
abbrev Tk := Int × Nat × List UInt8 × Int
def tkC (t : Tk) : List Value := [.int .i64 t.1, .int .i64 (t.2.1 : Int), .string ⟨t.2.2.1.toArray⟩, .int .i64 t.2.2.2]
theorem tkC_len (xs : List Tk) : (xs.flatMap tkC).length = xs.length * 4 := by
  induction xs with
  | nil => rfl
  | cons x xs ih => simp [List.flatMap_cons, ih, tkC]; omega
/-- The token of a run. -/
def saidT (l : List UInt8) (a : Nat) : Tk := match numK l with
  | some n => (2, a, [], n)
  | none => (1, a, l, 0)
theorem saidV_T (s : ByteArray) (a : Nat) : saidV s (a : Int) = .agg (tkC (saidT (bl s) a)).toArray := by
  unfold saidV saidT tok tkC
  cases numK (bl s) <;> rfl
theorem qtd_le (n : Nat) : ∀ l : List UInt8, (qtd n l).2.1 ≤ l.length := by
  induction n with
  | zero => intro l; exact Nat.zero_le _
  | succ n ih =>
    intro l
    unfold qtd
    split
    · rename_i h; exact h.1
    · split
      · split
        · exact Nat.zero_le _
        · have h1 := escL_small l
          have h2 := ih (l.drop (escL l).2)
          rw [List.length_drop] at h2
          simp only
          omega
      · split
        · rename_i h3
          have hne := first_ne h3.1
          have h1 := cw_len l hne
          have h2 := ih (l.drop (cw l))
          rw [List.length_drop] at h2
          simp only
          omega
        · exact Nat.zero_le _
theorem Qt_le (l : List UInt8) : (Qt l).2.1 ≤ l.length := qtd_le _ l
/-- What comes of a line from a place on, behind these tokens: all tokens, or a fault and its place. -/
def scF : Nat → List UInt8 → Nat → List Tk → List Tk ⊕ (Int × Nat)
  | 0, _, _, acc => .inl acc
  | n + 1, l, q, acc =>
    if q + skp blankC (l.drop q) = l.length then .inl acc
    else if by' l (q + skp blankC (l.drop q)) = 34 then
      if (Qt (l.drop (q + skp blankC (l.drop q) + 1))).2.2 = true then
        if q + skp blankC (l.drop q) + 1 + (Qt (l.drop (q + skp blankC (l.drop q) + 1))).2.1 = l.length ∨ blankC (by' l (q + skp blankC (l.drop q) + 1 + (Qt (l.drop (q + skp blankC (l.drop q) + 1))).2.1)) = true then
          scF n l (q + skp blankC (l.drop q) + 1 + (Qt (l.drop (q + skp blankC (l.drop q) + 1))).2.1) (acc ++ [(3, q + skp blankC (l.drop q), (Qt (l.drop (q + skp blankC (l.drop q) + 1))).1, 0)])
        else .inr (70, q + skp blankC (l.drop q) + 1 + (Qt (l.drop (q + skp blankC (l.drop q) + 1))).2.1)
      else .inr (71, q + skp blankC (l.drop q) + 1 + (Qt (l.drop (q + skp blankC (l.drop q) + 1))).2.1)
    else if 0 < skp runC (l.drop (q + skp blankC (l.drop q))) then
      if q + skp blankC (l.drop q) + skp runC (l.drop (q + skp blankC (l.drop q))) = l.length ∨ blankC (by' l (q + skp blankC (l.drop q) + skp runC (l.drop (q + skp blankC (l.drop q))))) = true then
        scF n l (q + skp blankC (l.drop q) + skp runC (l.drop (q + skp blankC (l.drop q)))) (acc ++ [saidT ((l.drop (q + skp blankC (l.drop q))).take (skp runC (l.drop (q + skp blankC (l.drop q))))) (q + skp blankC (l.drop q))])
      else .inr (70, q + skp blankC (l.drop q) + skp runC (l.drop (q + skp blankC (l.drop q))))
    else .inr (70, q + skp blankC (l.drop q))
theorem scF_fuel (n : Nat) : ∀ (m : Nat) (l : List UInt8) (q : Nat) (acc : List Tk), l.length - q < n → l.length - q < m → q ≤ l.length → scF n l q acc = scF m l q acc := by
  induction n with
  | zero => intro m l q acc h; omega
  | succ n ih =>
    intro m l q acc h1 h2 hq
    cases m with
    | zero => omega
    | succ m =>
      have hp := skp_le blankC (l.drop q)
      rw [List.length_drop] at hp
      unfold scF
      generalize hP : q + skp blankC (l.drop q) = p
      have hpl : p ≤ l.length := by omega
      have hqp : q ≤ p := by omega
      have hE := Qt_le (l.drop (p + 1))
      have hR := skp_le runC (l.drop p)
      rw [List.length_drop] at hE hR
      split
      · rfl
      · split
        · split
          · split
            · exact ih m l _ _ (by omega) (by omega) (by omega)
            · rfl
          · rfl
        · split
          · split
            · exact ih m l _ _ (by omega) (by omega) (by omega)
            · rfl
          · rfl
def Sc (l : List UInt8) (q : Nat) (acc : List Tk) : List Tk ⊕ (Int × Nat) := scF (l.length - q + 1) l q acc
theorem Sc_eq {l : List UInt8} {q p : Nat} (acc : List Tk) (hq : q ≤ l.length) (hP : q + skp blankC (l.drop q) = p) : Sc l q acc =
    if p = l.length then .inl acc
    else if by' l p = 34 then
      if (Qt (l.drop (p + 1))).2.2 = true then
        if p + 1 + (Qt (l.drop (p + 1))).2.1 = l.length ∨ blankC (by' l (p + 1 + (Qt (l.drop (p + 1))).2.1)) = true then Sc l (p + 1 + (Qt (l.drop (p + 1))).2.1) (acc ++ [(3, p, (Qt (l.drop (p + 1))).1, 0)])
        else .inr (70, p + 1 + (Qt (l.drop (p + 1))).2.1)
      else .inr (71, p + 1 + (Qt (l.drop (p + 1))).2.1)
    else if 0 < skp runC (l.drop p) then
      if p + skp runC (l.drop p) = l.length ∨ blankC (by' l (p + skp runC (l.drop p))) = true then Sc l (p + skp runC (l.drop p)) (acc ++ [saidT ((l.drop p).take (skp runC (l.drop p))) p])
      else .inr (70, p + skp runC (l.drop p))
    else .inr (70, p) := by
  have hp := skp_le blankC (l.drop q)
  rw [List.length_drop] at hp
  have hpl : p ≤ l.length := by omega
  have hqp : q ≤ p := by omega
  have hE := Qt_le (l.drop (p + 1))
  have hR := skp_le runC (l.drop p)
  rw [List.length_drop] at hE hR
  conv => lhs; unfold Sc scF
  rw [hP]
  split
  · rfl
  · split
    · split
      · split
        · exact scF_fuel _ _ l _ _ (by omega) (by omega) (by omega)
        · rfl
      · rfl
    · split
      · split
        · exact scF_fuel _ _ l _ _ (by omega) (by omega) (by omega)
        · rfl
      · rfl
end Go.Proofs.YtaljllbfedfpoaaGreatDoor
