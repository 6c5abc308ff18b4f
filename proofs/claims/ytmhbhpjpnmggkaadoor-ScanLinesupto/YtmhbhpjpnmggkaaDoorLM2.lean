/- Plain Lean: lines follow one another. -/
import Derived.Test.YtmhbhpjpnmggkaaDoorLM
namespace Go.Proofs.YtmhbhpjpnmggkaaDoor
set_option linter.unusedVariables false

/-- Each line begins where the one ahead of it ends; what is under way begins where the last one ends. -/
def Chn (out : List (Nat × Nat × Nat)) (fr : Nat) : Prop :=
  (out = [] → fr = 0) ∧ (∀ y, out.getLast? = some y → fr = y.2.1 + y.2.2) ∧ (∀ k x, out[k]? = some x → (k = 0 → x.1 = 0) ∧ ∀ j y, j + 1 = k → out[j]? = some y → x.1 = y.2.1 + y.2.2)

theorem Chn.snoc {out : List (Nat × Nat × Nat)} {fr p e : Nat} (h : Chn out fr) : Chn (out ++ [(fr, p, e)]) (p + e) := by
  refine ⟨fun h0 => by simp at h0, fun y hy => ?_, fun k x hx => ?_⟩
  · simp at hy; subst hy; rfl
  · by_cases hk : k < out.length
    · rw [List.getElem?_append_left hk] at hx
      obtain ⟨h1, h2⟩ := h.2.2 k x hx
      refine ⟨h1, fun j y hj hy => ?_⟩
      rw [List.getElem?_append_left (by omega)] at hy
      exact h2 j y hj hy
    · rw [List.getElem?_append_right (by omega)] at hx
      have hk2 : k = out.length := by
        have := (List.getElem?_eq_some_iff.1 hx).1
        simp at this
        omega
      subst hk2
      simp at hx
      subst hx
      refine ⟨fun h0 => h.1 (List.eq_nil_of_length_eq_zero h0), fun j y hj hy => ?_⟩
      rw [List.getElem?_append_left (by omega)] at hy
      refine h.2.1 y ?_
      rw [List.getLast?_eq_getElem?, show out.length - 1 = j by omega]
      exact hy
theorem sofar_chn (l : List UInt8) (n : Nat) : Chn (sofar l n).2 (sofar l n).1 := by
  induction n with
  | zero => rw [sofar_zero]; exact ⟨fun _ => rfl, fun y h => by simp at h, fun k x h => by simp at h⟩
  | succ n ih =>
    by_cases h : endW l n = 0
    · rw [sofar_no h]; exact ih
    · rw [sofar_yes h]; exact ih.snoc
theorem Ls_chn (l : List UInt8) : Chn (Ls l) l.length := by
  unfold Ls
  exact (sofar_chn l l.length).snoc (p := l.length) (e := 0)
theorem Ls_first {l : List UInt8} {x : Nat × Nat × Nat} (h : (Ls l)[0]? = some x) : x.1 = 0 := ((Ls_chn l).2.2 0 x h).1 rfl
theorem Ls_next {l : List UInt8} {k : Nat} {x y : Nat × Nat × Nat} (hy : (Ls l)[k]? = some y) (hx : (Ls l)[k + 1]? = some x) : x.1 = y.2.1 + y.2.2 := ((Ls_chn l).2.2 (k + 1) x hx).2 k y rfl hy
/-- A line's end is at most where a later line begins. -/
theorem Ls_rise {l : List UInt8} {j k : Nat} {x y : Nat × Nat × Nat} (hy : (Ls l)[j]? = some y) (hx : (Ls l)[k]? = some x) (h : j < k) : y.2.1 + y.2.2 ≤ x.1 := by
  obtain ⟨d, rfl⟩ : ∃ d, k = j + 1 + d := ⟨k - j - 1, by omega⟩
  clear h
  induction d generalizing x with
  | zero => rw [Ls_next hy hx]; exact Nat.le_refl _
  | succ d ih =>
    have hlt : j + 1 + d < (Ls l).length := by have := (List.getElem?_eq_some_iff.1 hx).1; omega
    have hz : (Ls l)[j + 1 + d]? = some (Ls l)[j + 1 + d] := List.getElem?_eq_getElem hlt
    have h1 := ih hz
    have h2 := Ls_next hz hx
    have h3 := Ls_mem (List.getElem_mem hlt)
    omega
/-- A line whose forerunners end at or ahead of a place begins at or ahead of it. -/
theorem Ls_from_le {l : List UInt8} {k i : Nat} {x : Nat × Nat × Nat} (hx : (Ls l)[k]? = some x) (h : ∀ j y, j < k → (Ls l)[j]? = some y → y.2.1 + y.2.2 ≤ i) : x.1 ≤ i := by
  cases k with
  | zero => rw [Ls_first hx]; omega
  | succ k =>
    have hlt : k < (Ls l).length := by have := (List.getElem?_eq_some_iff.1 hx).1; omega
    have hz : (Ls l)[k]? = some (Ls l)[k] := List.getElem?_eq_getElem hlt
    rw [Ls_next hz hx]
    exact h k _ (by omega) hz
end Go.Proofs.YtmhbhpjpnmggkaaDoor
