/- Plain Lean: behind a byte 0A lines are those of what stands there alone. -/
import Derived.Test.YtegplcomhahpfaaLWholeM
namespace Go.Proofs.Ytegplcomhahpfaa
set_option linter.unusedVariables false

theorem by'_app (A B : List UInt8) (k : Nat) : by' (A ++ B) k = if k < A.length then by' A k else by' B (k - A.length) := by
  unfold by'
  by_cases h : k < A.length
  · rw [if_pos h, List.getElem?_append_left h]
  · rw [if_neg h, List.getElem?_append_right (by omega)]
theorem by'_out {A : List UInt8} {k : Nat} (h : A.length ≤ k) : by' A k = 0 := by unfold by'; rw [List.getElem?_eq_none h]; rfl
theorem endB_10 {p b1 b2 c1 c2 : Nat} : endB p 10 b1 b2 = endB p 10 c1 c2 := by
  unfold endB; simp
theorem endB_b2 {p b0 b2 c2 : Nat} : endB p b0 10 b2 = endB p b0 10 c2 := by
  unfold endB
  rw [if_neg (by omega : ¬ (b0 = 194 ∧ 10 = 133)), if_neg (by omega : ¬ (b0 = 226 ∧ 10 = 128 ∧ (b2 = 168 ∨ b2 = 169))), if_neg (by omega : ¬ (b0 = 194 ∧ 10 = 133)), if_neg (by omega : ¬ (b0 = 226 ∧ 10 = 128 ∧ (c2 = 168 ∨ c2 = 169)))]
theorem endB_p {p q b0 b1 b2 : Nat} (h1 : p ≠ 13) (h2 : q ≠ 13) : endB p b0 b1 b2 = endB q b0 b1 b2 := by
  unfold endB; rw [if_neg h1, if_neg h2]

section
variable {A B : List UInt8} (h1 : 1 ≤ A.length) (h2 : by' A (A.length - 1) = 10)
include h1 h2
theorem endW_left (i : Nat) (hi : i < A.length) : endW (A ++ B) i = endW A i := by
  have hp : pv (A ++ B) i = pv A i := by
    unfold pv
    by_cases h : i = 0
    · rw [if_pos h, if_pos h]
    · rw [if_neg h, if_neg h, by'_app, if_pos (by omega)]
  unfold endW
  rw [hp, by'_app, if_pos hi]
  by_cases c1 : i = A.length - 1
  · rw [c1, h2]; exact endB_10
  · by_cases c2 : i + 1 = A.length - 1
    · rw [by'_app, if_pos (by omega), c2, h2]; exact endB_b2
    · rw [by'_app, if_pos (by omega), by'_app, if_pos (by omega)]
theorem endW_right (j : Nat) : endW (A ++ B) (A.length + j) = endW B j := by
  have hb : ∀ k, by' (A ++ B) (A.length + k) = by' B k := fun k => by rw [by'_app, if_neg (by omega)]; congr 1; omega
  unfold endW
  rw [show A.length + j + 1 = A.length + (j + 1) by omega, show A.length + j + 2 = A.length + (j + 2) by omega, hb, hb, hb]
  by_cases h : j = 0
  · subst h
    refine endB_p ?_ ?_
    · unfold pv; rw [if_neg (by omega), by'_app, if_pos (by omega), Nat.add_zero, h2]; omega
    · unfold pv; rw [if_pos rfl]; omega
  · have : pv (A ++ B) (A.length + j) = pv B j := by
      unfold pv
      rw [if_neg (by omega), if_neg h, show A.length + j - 1 = A.length + (j - 1) by omega, hb]
    rw [this]
theorem sofar_left (n : Nat) (hn : n ≤ A.length) : sofar (A ++ B) n = sofar A n := by
  induction n with
  | zero => rfl
  | succ n ih =>
    have he := endW_left (B := B) h1 h2 n (by omega)
    have ih := ih (by omega)
    by_cases h : endW A n = 0
    · rw [sofar_no h, sofar_no (by rw [he]; exact h), ih]
    · rw [sofar_yes h, sofar_yes (by rw [he]; exact h), ih]
      unfold stp
      rw [he]
theorem sofar_at : (sofar A A.length).1 = A.length := by
  obtain ⟨n, hn⟩ : ∃ n, A.length = n + 1 := ⟨A.length - 1, by omega⟩
  have hb : by' A n = 10 := by rw [hn] at h2; exact h2
  rw [hn]
  by_cases h : endW A n = 0
  · rw [sofar_no h]
    have hp : n ≠ 0 ∧ by' A (n - 1) = 13 := by
      unfold endW at h
      rw [hb] at h
      unfold endB at h
      rw [if_neg (by omega), if_pos rfl] at h
      by_cases hp : pv A n = 13
      · unfold pv at hp
        by_cases h0 : n = 0
        · rw [if_pos h0] at hp; omega
        · rw [if_neg h0] at hp; exact ⟨h0, hp⟩
      · rw [if_neg hp] at h; omega
    obtain ⟨m, hm⟩ : ∃ m, n = m + 1 := ⟨n - 1, by omega⟩
    subst hm
    have hw : endW A m = 2 := by
      unfold endW endB
      rw [show by' A m = 13 from hp.2, if_pos rfl, hb, if_pos rfl]
    rw [sofar_yes (by rw [hw]; omega)]
    unfold stp
    rw [hw]
  · have hw : endW A n = 1 := by
      unfold endW at h ⊢
      rw [hb] at h ⊢
      unfold endB at h ⊢
      rw [if_neg (by omega), if_pos rfl] at h ⊢
      by_cases hp : pv A n = 13
      · rw [if_pos hp] at h; omega
      · rw [if_neg hp]
    rw [sofar_yes h]
    unfold stp
    rw [hw]
theorem sofar_right (m : Nat) : sofar (A ++ B) (A.length + m) = ((sofar B m).1 + A.length, (sofar A A.length).2 ++ (sofar B m).2.map (fun x => (x.1 + A.length, x.2.1 + A.length, x.2.2))) := by
  induction m with
  | zero =>
    rw [Nat.add_zero, sofar_left h1 h2 _ (Nat.le_refl _), sofar_zero]
    have := sofar_at h1 h2
    generalize sofar A A.length = so at *
    obtain ⟨x, y⟩ := so
    simp only at this
    subst this
    simp
  | succ m ih =>
    have he := endW_right (B := B) h1 h2 m
    rw [← Nat.add_assoc]
    by_cases h : endW B m = 0
    · rw [sofar_no h, sofar_no (by rw [he]; exact h), ih]
    · rw [sofar_yes h, sofar_yes (by rw [he]; exact h), ih]
      unfold stp
      rw [he]
      simp only [List.map_append, List.map_cons, List.map_nil, List.append_assoc]
      refine Prod.ext ?_ ?_
      · simp only; omega
      · simp only; rw [Nat.add_comm A.length m]
theorem Ls_app : Ls (A ++ B) = (sofar A A.length).2 ++ (Ls B).map (fun x => (x.1 + A.length, x.2.1 + A.length, x.2.2)) := by
  unfold Ls
  rw [List.length_append, sofar_right h1 h2]
  simp only [List.map_append, List.map_cons, List.map_nil, List.append_assoc]
  rw [Nat.add_comm A.length B.length]
theorem Ls_left : Ls A = (sofar A A.length).2 ++ [(A.length, A.length, 0)] := by
  unfold Ls; rw [sofar_at h1 h2]
end

/-- A line as a text. -/
def txL (l : List UInt8) (x : Nat × Nat × Nat) : List UInt8 := (l.drop x.1).take (x.2.1 + x.2.2 - x.1)
/-- The lines as texts. -/
def Tx (l : List UInt8) : List (List UInt8) := (Ls l).map (txL l)
theorem Tx_app {A B : List UInt8} (h1 : 1 ≤ A.length) (h2 : by' A (A.length - 1) = 10) : Tx (A ++ B) = (sofar A A.length).2.map (txL A) ++ Tx B := by
  unfold Tx
  rw [Ls_app h1 h2, List.map_append, List.map_map]
  congr 1
  · apply List.map_congr_left
    intro x hx
    have := (sofar_inv A A.length).2.2 x hx
    unfold txL
    rw [List.drop_append_of_le_length (by omega), List.take_append_of_le_length (by rw [List.length_drop]; omega)]
  · apply List.map_congr_left
    intro x hx
    unfold txL
    simp only [Function.comp]
    rw [Nat.add_comm x.1 A.length, List.drop_append, List.drop_of_length_le (by omega), List.nil_append]
    congr 1
    · omega
    · congr 1; omega
theorem Tx_left {A : List UInt8} (h1 : 1 ≤ A.length) (h2 : by' A (A.length - 1) = 10) : Tx A = (sofar A A.length).2.map (txL A) ++ [[]] := by
  unfold Tx
  conv => lhs; rw [Ls_left h1 h2]
  rw [List.map_append]
  simp [txL]
theorem Tx_len (l : List UInt8) : (Tx l).length = (Ls l).length := by unfold Tx; simp
end Go.Proofs.Ytegplcomhahpfaa
