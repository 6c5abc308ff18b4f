/- Going on by Next from the beginning, and back by Back from the end. -/
import Derived.Test.YtihfnnhfpohakaaKStops
namespace Go.Proofs.Ytihfnnhfpohakaa
open Go.RowKit Go.Shelf
set_option linter.unusedVariables false

theorem into_of_Bd {l : List UInt8} {p : Nat} (h : Bd l p) : intoV l (p : Int) = p := by
  have hle := h.le
  have hc : clampV l (p : Int) = p := by unfold clampV; omega
  unfold intoV
  rw [hc]
  exact dn_yes ((begins_Bd l p hle).2 h)
theorem dn_near {l : List UInt8} {C : Nat} (h : C ≤ l.length) : C ≤ dn l C + 3 := by
  by_cases e : C = l.length
  · rw [dn_yes ((begins_Bd l C h).2 (.inr e))]; omega
  · obtain ⟨j, hj, h1, h2⟩ := St_cover l C (by omega)
    have := dn_top l C h j (.inl hj) h1
    have := cw_le4 (l.drop j)
    omega
/-- The stops above a place at which a character begins, or at the end. -/
def After (l : List UInt8) (p : Nat) (R : List Nat) : Prop :=
  (∃ y e z, Cs 0 l = y ++ e :: z ∧ e.1 = p ∧ R = stp (clsE e) z ++ [l.length]) ∨ (p = l.length ∧ R = [])
theorem After.Bd {l : List UInt8} {p : Nat} {R : List Nat} (h : After l p R) : Bd l p := by
  rcases h with ⟨y, e, z, hc, rfl, -⟩ | ⟨h, -⟩
  · exact (Cs_split hc).1
  · exact .inr h
theorem After.step {l : List UInt8} {p x : Nat} {R : List Nat} (h : After l p (x :: R)) : nextP l p = x ∧ After l x R ∧ p < x := by
  rcases h with ⟨y, e, z, hc, rfl, hR⟩ | ⟨-, h⟩
  · obtain ⟨hb, -, hd⟩ := Cs_split hc
    have hn := next_head l e.1 e z hd
    have hlt : e.1 < l.length := St_lt ⟨e, by rw [hc]; simp, rfl⟩
    cases hs : stp (clsE e) z with
    | nil =>
      rw [hs] at hR hn
      simp at hR
      obtain ⟨rfl, rfl⟩ := hR
      exact ⟨hn, .inr ⟨rfl, rfl⟩, hlt⟩
    | cons x' R' =>
      rw [hs] at hR hn
      simp at hR
      obtain ⟨rfl, rfl⟩ := hR
      obtain ⟨y2, e2, z2, rfl, h1, -, h3, -, -⟩ := stp_cons z _ _ _ hs
      refine ⟨hn, .inl ⟨y ++ e :: y2, e2, z2, by rw [hc]; simp, h1, by rw [h3]⟩, ?_⟩
      have hso := Cs_sorted l 0
      rw [hc] at hso
      have h4 := (List.pairwise_cons.1 (List.pairwise_append.1 hso).2.1).1 e2 (by simp)
      have h5 := Cs_mem l 0 e (by rw [hc]; simp)
      omega
  · cases h
theorem After.zero (l : List UInt8) : ((Sp l ++ [l.length]).head? = some 0 ∧ After l 0 ((Sp l ++ [l.length]).drop 1)) ∨ After l 0 (Sp l ++ [l.length]) := by
  by_cases hl : l = []
  · subst hl
    exact .inl ⟨rfl, .inr ⟨rfl, rfl⟩⟩
  · obtain ⟨e, z, hc, he⟩ : ∃ e z, Cs 0 l = e :: z ∧ e.1 = 0 := ⟨_, _, Cs_cons 0 l hl, rfl⟩
    unfold Sp
    rw [hc]
    simp only [stp]
    have h7 : clsE e ≠ 7 := by unfold clsE; rcases clsK_vals (e.2.1 : Int) with h | h | h <;> rw [h] <;> decide
    by_cases h1 : clsE e = 1
    · rw [if_neg (fun h => h.1 h1)]
      exact .inr (.inl ⟨[], e, z, hc, he, rfl⟩)
    · rw [if_pos ⟨h1, h7⟩]
      refine .inl ⟨by simp [he], .inl ⟨[], e, z, hc, he, by simp⟩⟩
theorem stp_split : ∀ (A : List Nat) (l : List (Nat × Nat × Nat)) (a : Int) (x : Nat) (B : List Nat), stp a l = A ++ x :: B → ∃ y e z, l = y ++ e :: z ∧ e.1 = x ∧ stp a y = A
  | [], l, a, x, B, h => by
    obtain ⟨y, e, z, h1, h2, h3, -⟩ := stp_cons l a x B h
    exact ⟨y, e, z, h1, h2, h3⟩
  | w :: A, l, a, x, B, h => by
    obtain ⟨y, e, z, rfl, h2, h3, h4, h5, h6⟩ := stp_cons l a w (A ++ x :: B) h
    obtain ⟨y2, e2, z2, rfl, k2, k3⟩ := stp_split A z (clsE e) x B h4.symm
    refine ⟨y ++ e :: y2, e2, z2, by simp, k2, ?_⟩
    rw [stp_app, h3, List.nil_append]
    simp only [stp]
    rw [if_pos ⟨h5, h6⟩, h2, k3]
/-- The stops ahead of a stop. -/
theorem Sp_take {l : List UInt8} {j x : Nat} (h : (Sp l ++ [l.length])[j]? = some x) : Bd l x ∧ Sp (l.take x) = (Sp l).take j := by
  by_cases hj : j < (Sp l).length
  · rw [List.getElem?_append_left hj] at h
    obtain ⟨_, hx⟩ := List.getElem?_eq_some_iff.1 h
    have hsp : stp 7 (Cs 0 l) = (Sp l).take j ++ x :: (Sp l).drop (j + 1) := by
      show Sp l = _
      rw [← hx, ← List.drop_eq_getElem_cons hj, List.take_append_drop]
    obtain ⟨y, e, z, hc, rfl, hy⟩ := stp_split _ _ _ _ _ hsp
    obtain ⟨h1, h2, -⟩ := Cs_split hc
    refine ⟨h1, ?_⟩
    rw [Sp, h2, hy]
  · have hjl : j = (Sp l).length := by
      have := (List.getElem?_eq_some_iff.1 h).1
      simp at this
      omega
    subst hjl
    rw [List.getElem?_append_right (Nat.le_refl _)] at h
    simp at h
    subst h
    refine ⟨.inr rfl, ?_⟩
    rw [List.take_length, List.take_length]
theorem back_stop {l : List UInt8} {j x y : Nat} (h : (Sp l ++ [l.length])[j + 1]? = some x) (k : (Sp l ++ [l.length])[j]? = some y) : backP l x = y := by
  rw [back_last, (Sp_take h).2]
  have hj : j < (Sp l).length := by
    have := (List.getElem?_eq_some_iff.1 h).1
    simp at this
    omega
  rw [List.getElem?_append_left hj] at k
  rw [List.getLast?_take, if_neg (by omega)]
  simp [k]
theorem back_first {l : List UInt8} {x : Nat} (h : (Sp l ++ [l.length])[0]? = some x) : backP l x = 0 := by
  rw [back_last, (Sp_take h).2]
  rfl
theorem backV_Bd {l : List UInt8} {p : Nat} (h : Bd l p) : backV l (p : Int) = backP l p := by unfold backV; rw [into_of_Bd h]
theorem nextV_Bd {l : List UInt8} {p : Nat} (h : Bd l p) : nextV l (p : Int) = nextP l p := by unfold nextV; rw [into_of_Bd h]
end Go.Proofs.Ytihfnnhfpohakaa
