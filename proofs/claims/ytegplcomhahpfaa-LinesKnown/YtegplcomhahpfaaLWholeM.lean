/- Plain Lean: the lines of a text as texts of their own; lines behind a 0A. -/
import Derived.Test.YtegplcomhahpfaaLBackM
namespace Go.Proofs.Ytegplcomhahpfaa
set_option linter.unusedVariables false

theorem by'_take' (l : List UInt8) (j k : Nat) : by' (l.take j) k = if k < j then by' l k else 0 := by
  unfold by'
  by_cases h : k < j
  · rw [if_pos h, List.getElem?_take, if_pos h]
  · rw [if_neg h, List.getElem?_take, if_neg h]; rfl
/-- No line end begins within a line's piece. -/
theorem sofar_free (l : List UInt8) (n : Nat) : (∀ x ∈ (sofar l n).2, ∀ p, x.1 ≤ p → p < x.2.1 → endW l p = 0) ∧ (∀ p, (sofar l n).1 ≤ p → p < n → endW l p = 0) := by
  induction n with
  | zero => rw [sofar_zero]; exact ⟨fun x h => by simp at h, fun p _ h => by omega⟩
  | succ n ih =>
    by_cases h : endW l n = 0
    · rw [sofar_no h]
      refine ⟨ih.1, fun p h1 h2 => ?_⟩
      by_cases e : p = n
      · rw [e]; exact h
      · exact ih.2 p h1 (by omega)
    · rw [sofar_yes h]
      unfold stp
      refine ⟨fun x hx p h1 h2 => ?_, fun p h1 h2 => ?_⟩
      · simp only [List.mem_append, List.mem_singleton] at hx
        rcases hx with hx | rfl
        · exact ih.1 x hx p h1 h2
        · exact ih.2 p h1 h2
      · simp only at h1; omega
theorem Ls_free {l : List UInt8} {k : Nat} {x : Nat × Nat × Nat} (hx : (Ls l)[k]? = some x) (p : Nat) (h1 : x.1 ≤ p) (h2 : p < x.2.1) : endW l p = 0 := by
  have hf := sofar_free l l.length
  have hm := List.mem_of_getElem? hx
  unfold Ls at hm
  rw [List.mem_append, List.mem_singleton] at hm
  rcases hm with hm | rfl
  · exact hf.1 x hm p h1 h2
  · exact hf.2 p h1 h2
/-- A line does not begin between a 0D and a 0A. -/
theorem Ls_head {l : List UInt8} {k : Nat} {x : Nat × Nat × Nat} (hx : (Ls l)[k]? = some x) (h : by' l x.1 = 10) : pv l x.1 ≠ 13 := by
  cases k with
  | zero => rw [Ls_first hx]; unfold pv; rw [if_pos rfl]; omega
  | succ k =>
    have hlt := (List.getElem?_eq_some_iff.1 hx).1
    have hz : (Ls l)[k]? = some (Ls l)[k] := List.getElem?_eq_getElem (by omega)
    have hn := Ls_next hz hx
    generalize (Ls l)[k] = y at *
    rcases Ls_to hz with g | ⟨-, g1, g2⟩
    · omega
    · rw [hn] at h ⊢
      rw [g1] at h g2 ⊢
      unfold pv
      unfold endW at h g2 ⊢
      rcases endB_cases (pv l y.2.1) (by' l y.2.1) (by' l (y.2.1 + 1)) (by' l (y.2.1 + 2)) with ⟨e, a1, a2⟩ | ⟨e, a1, a2⟩ | ⟨e, a1, a2⟩ | ⟨e, a1, a2⟩ | ⟨e, a1, a2⟩ | ⟨e, a1, a2, a3⟩ | ⟨e, a1, a2, a3, a4⟩ <;> rw [e] at h g2 ⊢
      · rw [if_neg (by omega), show y.2.1 + 2 - 1 = y.2.1 + 1 by omega]; omega
      · omega
      · exact absurd rfl g2
      · rw [if_neg (by omega), show y.2.1 + 1 - 1 = y.2.1 by omega]; omega
      · rw [if_neg (by omega), show y.2.1 + 2 - 1 = y.2.1 + 1 by omega]; omega
      · rw [if_neg (by omega), show y.2.1 + 3 - 1 = y.2.1 + 2 by omega]; omega
      · exact absurd rfl g2
theorem endB_zero {p b0 b1 b2 : Nat} (h1 : b0 ≠ 13) (h2 : b0 ≠ 10) (h3 : ¬ (b0 = 194 ∧ b1 = 133)) (h4 : ¬ (b0 = 226 ∧ b1 = 128 ∧ (b2 = 168 ∨ b2 = 169))) : endB p b0 b1 b2 = 0 := by
  unfold endB; rw [if_neg h1, if_neg h2, if_neg h3, if_neg h4]
theorem endB_13 {p b1 b2 : Nat} : endB p 13 b1 b2 ≠ 0 := by
  unfold endB; rw [if_pos rfl]; split <;> omega
theorem by'_sub (l : List UInt8) (a m k : Nat) : by' ((l.drop a).take m) k = if k < m then by' l (a + k) else 0 := by
  rw [by'_take', by'_drop]
/-- Within a line as a text of its own the line end begins just where the piece ends. -/
theorem line_ends {l : List UInt8} {k a b e : Nat} (hx : (Ls l)[k]? = some (a, b, e)) : (∀ j, j < b - a → endW ((l.drop a).take (b + e - a)) j = 0) ∧ endW ((l.drop a).take (b + e - a)) (b - a) = e := by
  have hm := Ls_mem (List.mem_of_getElem? hx)
  have hT := Ls_to hx
  have hF := fun p h1 h2 => Ls_free hx p h1 h2
  have hH := fun h => Ls_head hx h
  simp only at *
  have hbs := by'_sub l a (b + e - a)
  generalize (l.drop a).take (b + e - a) = t at *
  have hpv : ∀ j, 0 < j → j ≤ b + e - a → pv t j = by' l (a + j - 1) := fun j h1 h2 => by
    unfold pv
    rw [if_neg (by omega), hbs, if_pos (by omega)]
    congr 1; omega
  have hpl : ∀ j, 0 < j → pv l (a + j) = by' l (a + j - 1) := fun j h1 => by
    unfold pv; rw [if_neg (by omega)]
  refine ⟨fun j hj => ?_, ?_⟩
  · have h0 := hF (a + j) (by omega) (by omega)
    unfold endW at h0 ⊢
    rw [hbs j, if_pos (by omega)]
    rcases endB_cases (pv l (a + j)) (by' l (a + j)) (by' l (a + j + 1)) (by' l (a + j + 2)) with ⟨g, a1, a2⟩ | ⟨g, a1, a2⟩ | ⟨g, a1, a2⟩ | ⟨g, a1, a2⟩ | ⟨g, a1, a2⟩ | ⟨g, a1, a2, a3⟩ | ⟨g, a1, a2, a3, a4⟩
    · omega
    · omega
    · exfalso
      by_cases h : j = 0
      · subst h; exact hH a1 a2
      · rw [hpl j (by omega)] at a2
        have h1 := hF (a + j - 1) (by omega) (by omega)
        unfold endW at h1
        rw [a2] at h1
        exact endB_13 h1
    · omega
    · omega
    · omega
    · refine endB_zero a1 a2 (fun h => ?_) (fun h => ?_)
      · rw [hbs (j + 1)] at h
        by_cases h2 : j + 1 < b + e - a
        · rw [if_pos h2] at h; exact a3 ⟨h.1, h.2⟩
        · rw [if_neg h2] at h; omega
      · rw [hbs (j + 1), hbs (j + 2)] at h
        by_cases h2 : j + 1 < b + e - a
        · by_cases h3 : j + 2 < b + e - a
          · rw [if_pos h2, if_pos h3] at h; exact a4 ⟨h.1, h.2⟩
          · rw [if_neg h3] at h; omega
        · rw [if_neg h2] at h; omega
  · rcases hT with ⟨_, h1, h2⟩ | ⟨_, h1, h2⟩
    · subst h2
      unfold endW
      rw [hbs (b - a), if_neg (by omega)]
      exact endB_zero (by omega) (by omega) (by omega) (by omega)
    · have hab : a + (b - a) = b := by omega
      have hpe : pv t (b - a) = 13 → pv l b = 13 := fun h => by
        by_cases h3 : b - a = 0
        · rw [h3] at h; unfold pv at h; rw [if_pos rfl] at h; omega
        · rw [hpv (b - a) (by omega) (by omega)] at h
          rw [← hab, hpl (b - a) (by omega)]; exact h
      unfold endW at h1 ⊢
      rw [hbs (b - a), if_pos (by omega), hbs (b - a + 1), hbs (b - a + 2), hab, show a + (b - a + 1) = b + 1 by omega, show a + (b - a + 2) = b + 2 by omega]
      rcases endB_cases (pv l b) (by' l b) (by' l (b + 1)) (by' l (b + 2)) with ⟨g, a1, a2⟩ | ⟨g, a1, a2⟩ | ⟨g, a1, a2⟩ | ⟨g, a1, a2⟩ | ⟨g, a1, a2⟩ | ⟨g, a1, a2, a3⟩ | ⟨g, a1, a2, a3, a4⟩
      · rw [g] at h1; subst h1
        rw [if_pos (by omega)]
        unfold endB; rw [if_pos a1, if_pos a2]
      · rw [g] at h1; subst h1
        rw [if_neg (by omega)]
        unfold endB; rw [if_pos a1, if_neg (by omega)]
      · omega
      · rw [g] at h1; subst h1
        unfold endB; rw [if_neg (by omega), if_pos a1, if_neg (fun h => a2 (hpe h))]
      · rw [g] at h1; subst h1
        rw [if_pos (by omega)]
        unfold endB; rw [if_neg (by omega), if_neg (by omega), if_pos ⟨a1, a2⟩]
      · rw [g] at h1; subst h1
        rw [if_pos (by omega), if_pos (by omega)]
        unfold endB; rw [if_neg (by omega), if_neg (by omega), if_neg (by omega), if_pos ⟨a1, a2, a3⟩]
      · omega
end Go.Proofs.Ytegplcomhahpfaa
