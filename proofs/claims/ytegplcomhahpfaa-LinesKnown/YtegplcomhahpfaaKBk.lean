/- What the iterator of utf.Back tells: the characters of a text, from behind, till a round says no more. -/
import Derived.Test.YtegplcomhahpfaaLAll
import Derived.Test.YtegplcomhahpfaaUSeam
namespace Go.Proofs.Ytegplcomhahpfaa
open Go.RowKit Go.Shelf
set_option linter.unusedVariables false
attribute [local go_sem] Oper.semAt_some

/-- A place at which a character begins, or the end. -/
def Bd (l : List UInt8) (i : Nat) : Prop := St l i ∨ i = l.length
theorem Bd.le {l : List UInt8} {i : Nat} (h : Bd l i) : i ≤ l.length := h.elim (fun h => Nat.le_of_lt (St_lt h)) (fun h => by omega)
theorem cw_of_W {a b : List UInt8} (h : W a = W b) : cw a = cw b := by unfold cw; rw [h]
/-- The character ahead of a place. -/
theorem back_step (l : List UInt8) (pos : Nat) (h : Bd l pos) (h0 : 0 < pos) :
    ∃ p r c : Nat, ((lastV (l.take pos)).1 = (r : Int) ∧ (lastV (l.take pos)).2.1 = (c : Int)) ∧ p + c = pos ∧ 1 ≤ c ∧ Bd l p ∧ Cs p (l.drop p) = (p, r, c) :: Cs pos (l.drop pos) := by
  have hle := h.le
  have hml : (l.take pos).length = pos := by rw [List.length_take]; omega
  have hm : l.take pos ≠ [] := fun e => by rw [e] at hml; simp at hml; omega
  obtain ⟨hS, hE, -⟩ := last_iff (l.take pos) hm
  generalize hj : lastAt (l.take pos) = j at *
  rw [hml] at hE
  have hjlt := St_lt hS
  rw [hml] at hjlt
  have hcut := Cs_cut l pos 0 h
  have hSl : St l j := by
    obtain ⟨e, he, rfl⟩ := hS
    exact ⟨e, by rw [hcut]; exact List.mem_append_left _ he, rfl⟩
  have hd : (l.take pos).drop j = (l.drop j).take (pos - j) := by rw [List.drop_take]
  have hcl : j + cw (l.drop j) ≤ pos := by
    rcases h with h | h
    · exact St_two h hSl hjlt
    · have := cw_len (l.drop j) (drop_ne (by omega))
      rw [List.length_drop] at this
      omega
  have hWl := W_le_cw (l.drop j)
  have hW : W ((l.take pos).drop j) = W (l.drop j) := by rw [hd]; exact W_take_le (by omega) (by omega)
  have hc := cw_of_W hW
  have hr : rune ((l.take pos).drop j) = rune (l.drop j) := by rw [hd]; exact rune_take (by omega) (by omega)
  have hv : lastV (l.take pos) = firstV ((l.take pos).drop j) := by unfold lastV; rw [if_neg hm, hj]
  have hdn : (l.take pos).drop j ≠ [] := drop_ne (by rw [hml]; exact hjlt)
  have hcp := cw_pos (l.drop j)
  refine ⟨j, rune (l.drop j), cw (l.drop j), ?_, by rw [← hc]; exact hE, hcp, .inl hSl, ?_⟩
  · rw [hv, firstV_ne hdn, hr, hc]; exact ⟨rfl, rfl⟩
  · have e : j + cw (l.drop j) = pos := by rw [← hc]; exact hE
    rw [Cs_cons j _ (drop_ne (by omega)), List.drop_drop, e]
/-- What is told from behind down to a place. -/
def Rs (l : List UInt8) (pos : Nat) : List (Nat × Nat × Nat) := (Cs pos (l.drop pos)).reverse
theorem Rs_pre (l : List UInt8) (pos : Nat) (h : Bd l pos) : Rs l pos <+: (Cs 0 l).reverse := by
  unfold Rs
  rw [Cs_cut l pos 0 h, List.reverse_append, Nat.zero_add]
  exact List.prefix_append _ _
theorem Rs_end (l : List UInt8) : Rs l l.length = [] := by unfold Rs; simp [Cs_nil]
theorem Rs_zero (l : List UInt8) : Rs l 0 = (Cs 0 l).reverse := rfl

end Go.Proofs.Ytegplcomhahpfaa
