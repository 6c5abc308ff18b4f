/- Plain Lean: places and characters go up together. -/
import Derived.Test.YtodooppapciegaaGreatDoorUPlaces
namespace Go.Proofs.YtodooppapciegaaGreatDoor
set_option linter.unusedVariables false

theorem Cs_lt {l : List UInt8} {k : Nat} {e : Nat × Nat × Nat} (h : (Cs 0 l)[k]? = some e) : e.1 < l.length ∧ e.1 + e.2.2 ≤ l.length ∧ 1 ≤ e.2.2 ∧ e.2.2 ≤ 4 ∧ e.2.1 = rune (l.drop e.1) ∧ e.2.2 = cw (l.drop e.1) := by
  have := Cs_mem l 0 e (List.mem_of_getElem? h)
  rw [Nat.sub_zero] at this
  refine ⟨by omega, by omega, this.2.2.1, this.2.2.2.1, this.2.2.2.2⟩
theorem Cs_two {l : List UInt8} {k m : Nat} {e f : Nat × Nat × Nat} (hk : (Cs 0 l)[k]? = some e) (hm : (Cs 0 l)[m]? = some f) (h : k < m) : e.1 + e.2.2 ≤ f.1 := by
  obtain ⟨h1, rfl⟩ := List.getElem?_eq_some_iff.1 hk
  obtain ⟨h2, rfl⟩ := List.getElem?_eq_some_iff.1 hm
  exact List.pairwise_iff_getElem.1 (Cs_sorted l 0) k m h1 h2 h
theorem ofN_at {l : List UInt8} {k i : Nat} {e : Nat × Nat × Nat} (hk : (Cs 0 l)[k]? = some e) (h1 : e.1 ≤ i) (h2 : i < e.1 + e.2.2) : ofN l i = k + 1 := by
  have hkl := (List.getElem?_eq_some_iff.1 hk).1
  unfold ofN
  rw [← List.take_append_drop (k + 1) (Cs 0 l), List.filter_append]
  have a1 : ((Cs 0 l).take (k + 1)).filter (fun e => decide (e.1 ≤ i)) = (Cs 0 l).take (k + 1) := by
    rw [List.filter_eq_self]
    intro x hx
    obtain ⟨m, hm⟩ := List.getElem?_of_mem hx
    have hmk : m < k + 1 := by have := (List.getElem?_eq_some_iff.1 hm).1; rw [List.length_take] at this; omega
    rw [List.getElem?_take, if_pos hmk] at hm
    by_cases he : m = k
    · subst he; rw [hk] at hm; cases hm; simpa using h1
    · have := Cs_two hm hk (by omega)
      simp; omega
  have a2 : ((Cs 0 l).drop (k + 1)).filter (fun e => decide (e.1 ≤ i)) = [] := by
    rw [List.filter_eq_nil_iff]
    intro x hx
    obtain ⟨m, hm⟩ := List.getElem?_of_mem hx
    rw [List.getElem?_drop] at hm
    have := Cs_two hk hm (by omega)
    simp; omega
  rw [a1, a2, List.append_nil, List.length_take]
  omega
theorem ofN_end (l : List UInt8) : ofN l l.length = (Cs 0 l).length := by
  unfold ofN
  rw [List.filter_eq_self.2]
  intro e he
  have := Cs_mem l 0 e he
  simp; omega
theorem atV_in {l : List UInt8} {k : Nat} (h : k ≤ (Cs 0 l).length) : atV l (k : Int) = ((pl l k : Int), 0) := by
  unfold atV; rw [if_pos ⟨by omega, by omega⟩, Int.toNat_natCast]
theorem atV_out {l : List UInt8} {n : Int} (h : n < 0 ∨ ((Cs 0 l).length : Int) < n) : atV l n = (0, 6) := by
  unfold atV; rw [if_neg (by omega)]
theorem pl_at {l : List UInt8} {k : Nat} {e : Nat × Nat × Nat} (hk : (Cs 0 l)[k]? = some e) : pl l k = e.1 := by unfold pl; rw [hk]

theorem order_in (l : List UInt8) (i : Nat) (hi : i < l.length) : ∃ k b nx : Nat, ofV l i = ((k : Int), 0) ∧ atV l k = ((b : Int), 0) ∧ b ≤ i ∧ i ≤ b + 3 ∧ beginsV l i = decide (b = i) ∧
    atV l ((k : Int) + 1) = ((nx : Int), 0) ∧ i < nx ∧ nx ≤ l.length ∧ k < l.length := by
  obtain ⟨j, ⟨e, he, rfl⟩, h1, h2⟩ := St_cover l i hi
  obtain ⟨k, hk⟩ := List.getElem?_of_mem he
  have hl := Cs_lt hk
  have hkl := (List.getElem?_eq_some_iff.1 hk).1
  have hcl := Cs_len_le l
  rw [← hl.2.2.2.2.2] at h2
  have hN := ofN_at hk h1 h2
  have hofv : ofV l i = ((k : Int), 0) := by
    unfold ofV
    rw [if_pos ⟨by omega, by omega⟩, if_neg (by omega), Int.toNat_natCast, hN]
    congr 1; omega
  have hbg : beginsV l i = decide (e.1 = i) := by
    unfold beginsV
    rw [decide_eq_true (by omega : (0 : Int) ≤ (i : Int)), decide_eq_true (by omega : (i : Int) ≤ (l.length : Int)), decide_eq_false (by omega : ¬ (i : Int) = (l.length : Int)), Int.toNat_natCast]
    simp only [Bool.and_self, Bool.true_and, Bool.false_or]
    rw [decide_eq_decide, begins_iff l i hi]
    constructor
    · intro hs
      by_cases hei : e.1 = i
      · exact hei
      · have := St_two hs ⟨e, he, rfl⟩ (by omega)
        rw [← hl.2.2.2.2.2] at this
        omega
    · intro hei
      exact ⟨e, he, hei⟩
  have hnx : ∃ nx : Nat, pl l (k + 1) = nx ∧ i < nx ∧ nx ≤ l.length := by
    by_cases hk1 : k + 1 < (Cs 0 l).length
    · obtain ⟨f, hf⟩ : ∃ f, (Cs 0 l)[k + 1]? = some f := ⟨_, List.getElem?_eq_getElem hk1⟩
      have := Cs_two hk hf (by omega)
      have hfl := Cs_lt hf
      exact ⟨f.1, pl_at hf, by omega, by omega⟩
    · have : k + 1 = (Cs 0 l).length := by omega
      exact ⟨l.length, by rw [this, pl_fin], hi, Nat.le_refl _⟩
  obtain ⟨nx, hx1, hx2, hx3⟩ := hnx
  refine ⟨k, e.1, nx, hofv, ?_, h1, by omega, hbg, ?_, hx2, hx3, by omega⟩
  · rw [atV_in (by omega), pl_at hk]
  · have := atV_in (l := l) (k := k + 1) (by omega)
    rw [hx1] at this
    exact this

theorem order_end (l : List UInt8) : ofV l l.length = (((Cs 0 l).length : Int), 0) ∧ atV l (Cs 0 l).length = ((l.length : Int), 0) ∧ beginsV l l.length = true ∧ atV l (((Cs 0 l).length : Int) + 1) = (0, 6) := by
  refine ⟨?_, ?_, ?_, atV_out (by omega)⟩
  · unfold ofV
    rw [if_pos ⟨by omega, by omega⟩, if_pos rfl, Int.toNat_natCast, ofN_end]
  · rw [atV_in (Nat.le_refl _), pl_fin]
  · unfold beginsV
    rw [decide_eq_true (by omega : (0 : Int) ≤ (l.length : Int)), decide_eq_true (by omega : (l.length : Int) ≤ (l.length : Int)), decide_eq_true rfl]
    rfl
theorem order_out (l : List UInt8) (n : Int) (h : n < 0 ∨ (l.length : Int) < n) : ofV l n = (0, 6) ∧ beginsV l n = false := by
  refine ⟨by unfold ofV; rw [if_neg (by omega)], ?_⟩
  unfold beginsV
  rcases h with h | h
  · rw [decide_eq_false (by omega : ¬ (0 : Int) ≤ n)]; rfl
  · rw [decide_eq_false (by omega : ¬ n ≤ (l.length : Int)), Bool.and_false]; rfl

theorem order_char (l : List UInt8) (k : Nat) (h : k ≤ (Cs 0 l).length) : ∃ p : Nat, atV l k = ((p : Int), 0) ∧ ofV l p = ((k : Int), 0) ∧ p ≤ l.length := by
  by_cases hk : k < (Cs 0 l).length
  · obtain ⟨e, he⟩ : ∃ f, (Cs 0 l)[k]? = some f := ⟨_, List.getElem?_eq_getElem hk⟩
    have hl := Cs_lt he
    refine ⟨e.1, by rw [atV_in h, pl_at he], ?_, by omega⟩
    unfold ofV
    rw [if_pos ⟨by omega, by omega⟩, if_neg (by omega), Int.toNat_natCast, ofN_at he (Nat.le_refl _) (by omega)]
    congr 1; omega
  · have hk' : k = (Cs 0 l).length := by omega
    subst hk'
    have := order_end l
    exact ⟨l.length, this.2.1, this.1, Nat.le_refl _⟩
end Go.Proofs.YtodooppapciegaaGreatDoor
