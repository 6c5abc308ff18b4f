/- A text with a gap: the bytes of its block, and what becomes of them. -/
import Derived.Test.YtheefdplbmneeaaBase
import Derived.Laws.CopyOwn
namespace Go.Proofs.Ytheefdplbmneeaa
open Go.RowKit
set_option linter.unusedVariables false

/-- The 252 bytes of a text with a gap at a place. -/
def gD (t : List Nat) (p : Nat) : List Nat := t.take p ++ (List.replicate (252 - t.length) 0 ++ t.drop p)
theorem gD_split (A C : List Nat) : gD (A ++ C) A.length = A ++ (List.replicate (252 - (A.length + C.length)) 0 ++ C) := by
  unfold gD
  rw [List.take_left, List.drop_left, List.length_append]
theorem gD_len (t : List Nat) (p : Nat) (hp : p ≤ t.length) (hn : t.length ≤ 252) : (gD t p).length = 252 := by
  unfold gD
  simp only [List.length_append, List.length_take, List.length_replicate, List.length_drop]
  omega
theorem splice_at {α : Type} (A X D cs : List α) (h : cs.length = X.length) : splice (A ++ (X ++ D)) A.length cs = A ++ (cs ++ D) := by
  unfold splice
  rw [List.take_left, h, List.drop_length_add_append, List.drop_left]
theorem split_at {α : Type} (t : List α) (p : Nat) (hp : p ≤ t.length) : ∃ A C, t = A ++ C ∧ A.length = p :=
  ⟨t.take p, t.drop p, (List.take_append_drop _ _).symm, by rw [List.length_take]; omega⟩
theorem split_two {α : Type} (t : List α) (p q : Nat) (hp : p ≤ q) (hq : q ≤ t.length) : ∃ A B C, t = A ++ (B ++ C) ∧ A.length = p ∧ A.length + B.length = q := by
  obtain ⟨A, D, rfl, hA⟩ := split_at t p (by omega)
  obtain ⟨B, C, rfl, hB⟩ := split_at D (q - p) (by simp at hq; omega)
  exact ⟨A, B, C, rfl, hA, by omega⟩
theorem rep_split (a b : Nat) : List.replicate (a + b) (0 : Nat) = List.replicate a 0 ++ List.replicate b 0 := by
  rw [List.replicate_append_replicate]
/-- The gap goes ahead. -/
theorem go_left (t : List Nat) (p q : Nat) (hq : q ≤ p) (hp : p ≤ t.length) (hn : t.length ≤ 252) :
    splice (splice (gD t p) (q + (252 - t.length)) ((t.drop q).take (p - q))) q (List.replicate (252 - t.length) 0) = gD t q := by
  obtain ⟨A, B, C, rfl, rfl, rfl⟩ := split_two t q p hq hp
  have e1 : gD (A ++ (B ++ C)) (A.length + B.length) = A ++ (B ++ (List.replicate (252 - (A.length + (B.length + C.length))) 0 ++ C)) := by
    rw [← List.append_assoc, ← List.length_append, gD_split]
    simp [Nat.add_assoc]
  have e2 : ((A ++ (B ++ C)).drop A.length).take (A.length + B.length - A.length) = B := by
    rw [List.drop_left, Nat.add_sub_cancel_left, List.take_left]
  have e3 := gD_split A (B ++ C)
  rw [e1, e2, e3]
  simp only [List.length_append] at hn ⊢
  generalize hz : 252 - (A.length + (B.length + C.length)) = z
  obtain ⟨X, Y, hXY, hX⟩ := split_at (B ++ List.replicate z 0) z (by simp)
  have hY : Y.length = B.length := by
    have := congrArg List.length hXY
    simp at this
    omega
  have e4 : A ++ (B ++ (List.replicate z 0 ++ C)) = (A ++ X) ++ (Y ++ C) := by
    rw [← List.append_assoc B, hXY]; simp
  rw [e4, show A.length + z = (A ++ X).length by simp [hX], splice_at _ _ _ _ hY.symm, List.append_assoc, splice_at _ _ _ _ (by simp [hX])]
/-- The gap goes behind. -/
theorem go_right (t : List Nat) (p q : Nat) (hq : p ≤ q) (hp : q ≤ t.length) (hn : t.length ≤ 252) :
    splice (splice (gD t p) p ((t.drop p).take (q - p))) q (List.replicate (252 - t.length) 0) = gD t q := by
  obtain ⟨A, B, C, rfl, rfl, rfl⟩ := split_two t p q hq hp
  have e1 := gD_split A (B ++ C)
  have e2 : ((A ++ (B ++ C)).drop A.length).take (A.length + B.length - A.length) = B := by
    rw [List.drop_left, Nat.add_sub_cancel_left, List.take_left]
  have e3 : gD (A ++ (B ++ C)) (A.length + B.length) = A ++ (B ++ (List.replicate (252 - (A.length + (B.length + C.length))) 0 ++ C)) := by
    rw [← List.append_assoc, ← List.length_append, gD_split]
    simp [Nat.add_assoc]
  rw [e1, e2, e3]
  simp only [List.length_append] at hn ⊢
  generalize hz : 252 - (A.length + (B.length + C.length)) = z
  obtain ⟨X, Y, hXY, hX⟩ := split_at (List.replicate z 0 ++ B) B.length (by simp)
  have hY : Y.length = z := by
    have := congrArg List.length hXY
    simp at this
    omega
  have e4 : A ++ (List.replicate z 0 ++ (B ++ C)) = A ++ (X ++ (Y ++ C)) := by
    rw [← List.append_assoc (List.replicate z 0), hXY]; simp
  rw [e4, splice_at _ _ _ _ (by simp [hX])]
  rw [← List.append_assoc A B, ← List.length_append, splice_at _ _ _ _ (by simp [hY])]
  simp
/-- Bytes are put into the gap. -/
theorem go_in (A s C : List Nat) (h : A.length + (s.length + C.length) ≤ 252) : splice (gD (A ++ C) A.length) A.length s = gD (A ++ (s ++ C)) (A.length + s.length) := by
  rw [gD_split]
  have e3 : gD (A ++ (s ++ C)) (A.length + s.length) = A ++ (s ++ (List.replicate (252 - (A.length + (s.length + C.length))) 0 ++ C)) := by
    rw [← List.append_assoc, ← List.length_append, gD_split]
    simp [Nat.add_assoc]
  rw [e3, show 252 - (A.length + C.length) = s.length + (252 - (A.length + (s.length + C.length))) by omega, rep_split, List.append_assoc, splice_at _ _ _ _ (by simp)]
/-- Bytes behind the gap are taken out. -/
theorem go_out (A B C : List Nat) (h : A.length + (B.length + C.length) ≤ 252) : splice (gD (A ++ (B ++ C)) A.length) A.length (List.replicate (252 - (A.length + (B.length + C.length)) + B.length) 0) = gD (A ++ C) A.length := by
  rw [gD_split, gD_split]
  simp only [List.length_append]
  rw [← List.append_assoc (List.replicate _ _) B, splice_at _ _ _ _ (by simp), show 252 - (A.length + C.length) = 252 - (A.length + (B.length + C.length)) + B.length by omega]
/-- A text ahead and one behind, laid into zeros. -/
theorem go_made (A C : List Nat) (h : A.length + C.length ≤ 252) : splice (splice (List.replicate 252 0) 0 A) (252 - C.length) C = gD (A ++ C) A.length := by
  rw [gD_split]
  have e : List.replicate 252 (0 : Nat) = [] ++ (List.replicate A.length 0 ++ List.replicate (252 - A.length) 0) := by
    rw [List.nil_append, ← rep_split]; congr 1; omega
  rw [e, show (0 : Nat) = ([] : List Nat).length from rfl, splice_at _ _ _ _ (by simp), List.nil_append, List.length_nil]
  have e2 : List.replicate (252 - A.length) (0 : Nat) = List.replicate (252 - (A.length + C.length)) 0 ++ List.replicate C.length 0 := by
    rw [← rep_split]; congr 1; omega
  rw [e2, show A ++ (List.replicate (252 - (A.length + C.length)) 0 ++ List.replicate C.length 0) = (A ++ List.replicate (252 - (A.length + C.length)) 0) ++ (List.replicate C.length 0 ++ []) by simp, show 252 - C.length = (A ++ List.replicate (252 - (A.length + C.length)) (0 : Nat)).length by simp; omega, splice_at _ _ _ _ (by simp)]
  simp
theorem gD_head (t : List Nat) (p : Nat) (hp : p ≤ t.length) : (gD t p).take p = t.take p := by
  unfold gD
  rw [List.take_append_of_le_length (by rw [List.length_take]; omega), List.take_take, Nat.min_self]
theorem gD_tail (t : List Nat) (p : Nat) (hp : p ≤ t.length) (hn : t.length ≤ 252) : (gD t p).drop (p + (252 - t.length)) = t.drop p := by
  obtain ⟨A, C, rfl, rfl⟩ := split_at t p hp
  rw [gD_split, List.drop_left, List.length_append, List.drop_length_add_append]
  exact List.drop_left' (by simp)
theorem gD_text (t : List Nat) (p : Nat) (hp : p ≤ t.length) (hn : t.length ≤ 252) : (gD t p).take p ++ (gD t p).drop (p + (252 - t.length)) = t := by
  rw [gD_head t p hp, gD_tail t p hp hn, List.take_append_drop]
theorem gD_gap (t : List Nat) (p i : Nat) (hp : p ≤ t.length) (hn : t.length ≤ 252) (h1 : p ≤ i) (h2 : i < p + (252 - t.length)) : (gD t p)[i]? = some 0 := by
  unfold gD
  rw [List.getElem?_append_right (by rw [List.length_take]; omega), List.length_take, List.getElem?_append_left (by rw [List.length_replicate]; omega), List.getElem?_replicate]
  rw [if_pos (by omega)]
/-- What has zeros in the gap is the text with its gap. -/
theorem gD_of (d : List Nat) (p q : Nat) (hd : d.length = 252) (hpq : p ≤ q) (hq : q ≤ 252) (hz : ∀ i, p ≤ i → i < q → d[i]? = some 0) : d = gD (d.take p ++ d.drop q) p := by
  obtain ⟨A, B, C, rfl, rfl, rfl⟩ := split_two d p q hpq (by omega)
  have e : ((A ++ (B ++ C)).take A.length ++ (A ++ (B ++ C)).drop (A.length + B.length)) = A ++ C := by
    rw [List.take_left, List.drop_length_add_append, List.drop_left]
  rw [e, gD_split]
  simp only [List.length_append] at hd
  have hB : B = List.replicate (252 - (A.length + C.length)) 0 := by
    rw [List.eq_replicate_iff]
    refine ⟨by omega, fun x hx => ?_⟩
    obtain ⟨i, hi⟩ := List.getElem?_of_mem hx
    have hil : i < B.length := (List.getElem?_eq_some_iff.1 hi).1
    have h := hz (A.length + i) (by omega) (by omega)
    rw [List.getElem?_append_right (by omega), Nat.add_sub_cancel_left, List.getElem?_append_left hil, hi] at h
    exact Option.some.inj h
  rw [← hB]
theorem gD_lt (t : List Nat) (p : Nat) (h : ∀ x ∈ t, x < 256) : ∀ x ∈ gD t p, x < 256 := by
  intro x hx
  unfold gD at hx
  rcases List.mem_append.1 hx with hx | hx
  · exact h x (List.mem_of_mem_take hx)
  · rcases List.mem_append.1 hx with hx | hx
    · have := List.eq_of_mem_replicate hx; omega
    · exact h x (List.mem_of_mem_drop hx)
end Go.Proofs.Ytheefdplbmneeaa
