/- What the iterator of lines.All tells: the lines of a text, in their order, till a round says no more. -/
import Derived.Test.YtedfnppekikcpaaLAll
import Derived.Test.YtedfnppekikcpaaLEnd
import Derived.WalkMore
namespace Go.Proofs.Ytedfnppekikcpaa
open Go.RowKit Go.Shelf
set_option linter.unusedVariables false
attribute [local go_sem] Oper.semAt_some

theorem inv_pl (l : List UInt8) : ∀ k, k ≤ (Cs 0 l).length → Inv l (pl l k) k ∧ (k < (Cs 0 l).length → pl l k < l.length) := by
  intro k
  induction k with
  | zero =>
    intro _
    have h : pl l 0 = 0 := by
      by_cases hl : l = []
      · subst hl; rfl
      · unfold pl; rw [Cs_cons 0 l hl]; rfl
    rw [h]
    refine ⟨Inv.start l, fun h0 => ?_⟩
    have := Cs_len_le l
    omega
  | succ k ih =>
    intro hk
    obtain ⟨h1, h2⟩ := ih (by omega)
    have h3 := h2 (by omega)
    have h4 := h1.step h3
    by_cases hlt : pl l k + cw (l.drop (pl l k)) < l.length
    · rw [pl_here h4 hlt]; exact ⟨h4, fun _ => hlt⟩
    · have h5 := h4.fin (by omega)
      have h6 := cw_len _ (drop_ne h3)
      rw [List.length_drop] at h6
      rw [h5, pl_fin]
      refine ⟨?_, fun h => by omega⟩
      have : pl l k + cw (l.drop (pl l k)) = l.length := by omega
      rw [this, h5] at h4
      exact h4
/-- What a character that is told is, and what the lines so far are behind it. -/
theorem char_told {l : List UInt8} {pre : List (Nat × Nat × Nat)} {x : Nat × Nat × Nat} (h : pre ++ [x] <+: Cs 0 l) : ∃ p, p = pl l pre.length ∧ x = (p, rune (l.drop p), cw (l.drop p)) ∧ p < l.length ∧ St l p ∧
    sofar l (pl l (pre ++ [x]).length) = (if endW l p = 0 then sofar l p else stp l (sofar l p) p) := by
  have hl := h.length_le
  simp only [List.length_append, List.length_singleton] at hl
  have hx : (Cs 0 l)[pre.length]? = some x := by
    have h2 := List.prefix_iff_eq_take.1 h
    have h3 : (pre ++ [x])[pre.length]? = some x := by simp
    rw [h2, List.getElem?_take] at h3
    simp only [List.length_append, List.length_singleton] at h3
    rwa [if_pos (by omega)] at h3
  obtain ⟨h1, h2⟩ := inv_pl l pre.length (by omega)
  have h3 := h2 (by omega)
  have h4 := h1.here h3
  rw [h4] at hx
  have hst : St l (pl l pre.length) := ⟨_, List.mem_of_getElem? h4, rfl⟩
  refine ⟨_, rfl, (Option.some.inj hx).symm, h3, hst, ?_⟩
  rw [List.length_append, List.length_singleton]
  have h5 := h1.step h3
  have h6 : pl l (pre.length + 1) = pl l pre.length + cw (l.drop (pl l pre.length)) := by
    by_cases hlt : pl l pre.length + cw (l.drop (pl l pre.length)) < l.length
    · exact pl_here h5 hlt
    · have h7 := h5.fin (by omega)
      have h8 := cw_len _ (drop_ne h3)
      rw [List.length_drop] at h8
      rw [h7, pl_fin]; omega
  rw [h6, sofar_char hst]

theorem below_boxed {W W' : World} {b : Nat} {t : TypeId} {v : Value} (h : Below W.heap.size W W') (hb : Boxed W b t v) : Boxed W' b t v :=
  (h.block b (Array.getElem?_eq_some_iff.1 (show W.heap[b]? = _ from hb)).1).trans hb
/-- What is told of a line: its piece, and how wide its end is. -/
def encL (x : Nat × Nat × Nat) : Array Value := #[.agg #[.int .i64 (x.1 : Int), .int .i64 (x.2.1 : Int)], .int .i64 (x.2.2 : Int)]

end Go.Proofs.Ytedfnppekikcpaa
