/- Plain Lean: where lines end, and the lines of a text as a list. -/
import Derived.Test.YtodooppapciegaaGreatDoorUOrdM
namespace Go.Proofs.YtodooppapciegaaGreatDoor
set_option linter.unusedVariables false

/-- How wide the line end is that begins with these bytes behind the byte p; 0, if none does. -/
def endB (p b0 b1 b2 : Nat) : Nat :=
  if b0 = 13 then (if b1 = 10 then 2 else 1) else if b0 = 10 then (if p = 13 then 0 else 1) else if b0 = 194 ∧ b1 = 133 then 2
  else if b0 = 226 ∧ b1 = 128 ∧ (b2 = 168 ∨ b2 = 169) then 3 else 0
def pv (l : List UInt8) (i : Nat) : Nat := if i = 0 then 0 else by' l (i - 1)
def endW (l : List UInt8) (i : Nat) : Nat := endB (pv l i) (by' l i) (by' l (i + 1)) (by' l (i + 2))

theorem endB_cases (p b0 b1 b2 : Nat) : (endB p b0 b1 b2 = 2 ∧ b0 = 13 ∧ b1 = 10) ∨ (endB p b0 b1 b2 = 1 ∧ b0 = 13 ∧ b1 ≠ 10) ∨ (endB p b0 b1 b2 = 0 ∧ b0 = 10 ∧ p = 13) ∨ (endB p b0 b1 b2 = 1 ∧ b0 = 10 ∧ p ≠ 13) ∨
    (endB p b0 b1 b2 = 2 ∧ b0 = 194 ∧ b1 = 133) ∨ (endB p b0 b1 b2 = 3 ∧ b0 = 226 ∧ b1 = 128 ∧ (b2 = 168 ∨ b2 = 169)) ∨
    (endB p b0 b1 b2 = 0 ∧ b0 ≠ 13 ∧ b0 ≠ 10 ∧ ¬ (b0 = 194 ∧ b1 = 133) ∧ ¬ (b0 = 226 ∧ b1 = 128 ∧ (b2 = 168 ∨ b2 = 169))) := by
  unfold endB
  split
  · split
    · exact .inl ⟨rfl, ‹_›, ‹_›⟩
    · exact .inr (.inl ⟨rfl, ‹_›, ‹_›⟩)
  · split
    · split
      · exact .inr (.inr (.inl ⟨rfl, ‹_›, ‹_›⟩))
      · exact .inr (.inr (.inr (.inl ⟨rfl, ‹_›, ‹_›⟩)))
    · split
      · rename_i h; exact .inr (.inr (.inr (.inr (.inl ⟨rfl, h.1, h.2⟩))))
      · split
        · rename_i h; exact .inr (.inr (.inr (.inr (.inr (.inl ⟨rfl, h.1, h.2.1, h.2.2⟩)))))
        · exact .inr (.inr (.inr (.inr (.inr (.inr ⟨rfl, ‹_›, ‹_›, ‹_›, ‹_›⟩)))))

theorem need_two {b0 b1 : Nat} (h : need b0 b1 = 3) : (b0 = 224 ∧ 160 ≤ b1 ∧ b1 ≤ 191) ∨ (225 ≤ b0 ∧ b0 ≤ 239 ∧ 128 ≤ b1 ∧ b1 ≤ 191) := by
  unfold need at h
  split at h
  · omega
  · split at h
    · omega
    · split at h
      · omega
      · split at h <;> omega
theorem need_four {b0 b1 : Nat} (h : need b0 b1 = 4) : (b0 = 240 ∧ 144 ≤ b1 ∧ b1 ≤ 191) ∨ (241 ≤ b0 ∧ b0 ≤ 244 ∧ 128 ≤ b1 ∧ b1 ≤ 191) := by
  unfold need at h
  split at h
  · omega
  · split at h
    · omega
    · split at h
      · omega
      · split at h <;> omega

theorem num_cases (b0 b1 b2 b3 : Nat) (h0 : b0 < 256) : (wd b0 b1 b2 b3 = 1 ∧ b0 < 128 ∧ num (wd b0 b1 b2 b3) b0 b1 b2 b3 = b0) ∨
    (wd b0 b1 b2 b3 = 2 ∧ 194 ≤ b0 ∧ b0 ≤ 223 ∧ Co b1 ∧ num (wd b0 b1 b2 b3) b0 b1 b2 b3 = (b0 - 192) * 64 + (b1 - 128)) ∨
    (wd b0 b1 b2 b3 = 3 ∧ ((b0 = 224 ∧ 160 ≤ b1 ∧ b1 ≤ 191) ∨ (225 ≤ b0 ∧ b0 ≤ 239 ∧ 128 ≤ b1 ∧ b1 ≤ 191)) ∧ Co b2 ∧ num (wd b0 b1 b2 b3) b0 b1 b2 b3 = (b0 - 224) * 4096 + (b1 - 128) * 64 + (b2 - 128)) ∨
    (wd b0 b1 b2 b3 = 4 ∧ 240 ≤ b0 ∧ 65536 ≤ num (wd b0 b1 b2 b3) b0 b1 b2 b3) ∨
    (wd b0 b1 b2 b3 = 0 ∧ 128 ≤ b0 ∧ num (wd b0 b1 b2 b3) b0 b1 b2 b3 = 65533) := by
  unfold num
  rcases wd_cases b0 b1 b2 b3 with g | g | g | g | g
  · left; rw [g.1]; exact ⟨rfl, g.2.2, rfl⟩
  · right; left; rw [g.1]
    obtain ⟨_, _, g1, g2, g3⟩ := g
    have g4 := g3
    unfold Co at g4
    refine ⟨rfl, g1, g2, g3, ?_⟩
    rw [if_neg (by decide), if_pos rfl]; omega
  · right; right; left; rw [g.1]
    have hn := need_two g.2.1
    have hc : Co b2 := g.2.2.2.2.2
    have g4 := hc
    unfold Co at g4
    refine ⟨rfl, hn, hc, ?_⟩
    rw [if_neg (by decide), if_neg (by decide), if_pos rfl]; omega
  · right; right; right; left; rw [g.1]
    have hn := need_four g.2.1
    refine ⟨rfl, by omega, ?_⟩
    rw [if_neg (by decide), if_neg (by decide), if_neg (by decide), if_pos rfl]; omega
  · right; right; right; right; rw [g.1]
    refine ⟨rfl, ?_, by rw [if_neg (by decide), if_neg (by decide), if_neg (by decide), if_neg (by decide)]⟩
    rcases need_cases b0 b1 with h | h | h | h | h
    · exfalso
      have := g.1
      unfold wd at this
      rw [if_pos h.1] at this
      omega
    all_goals omega

/-- Which runes are line ends, or a part of one. -/
def endR4 (r : Nat) : Bool := decide (r = 10 ∨ r = 13 ∨ r = 133 ∨ r = 8232 ∨ r = 8233)

theorem runes_end (l : List UInt8) : (rune l = 10 ↔ by' l 0 = 10) ∧ (rune l = 13 ↔ by' l 0 = 13) ∧ (rune l = 133 ↔ by' l 0 = 194 ∧ by' l 1 = 133) ∧
    ((rune l = 8232 ∨ rune l = 8233) ↔ by' l 0 = 226 ∧ by' l 1 = 128 ∧ (by' l 2 = 168 ∨ by' l 2 = 169)) ∧
    (by' l 0 = 10 → cw l = 1) ∧ (by' l 0 = 13 → cw l = 1) ∧ (by' l 0 = 194 ∧ by' l 1 = 133 → cw l = 2) ∧ (by' l 0 = 226 ∧ by' l 1 = 128 ∧ (by' l 2 = 168 ∨ by' l 2 = 169) → cw l = 3) := by
  have h0 := by'_lt l 0
  have key := num_cases (by' l 0) (by' l 1) (by' l 2) (by' l 3) h0
  have hw : need 194 133 = 2 := by decide
  have hw3 : need 226 128 = 3 := by decide
  have k2 : by' l 0 = 194 ∧ by' l 1 = 133 → W l = 2 := fun h => by
    unfold W wd; rw [h.1, h.2, hw, if_neg (by decide), if_pos rfl]
  have k3 : by' l 0 = 226 ∧ by' l 1 = 128 ∧ (by' l 2 = 168 ∨ by' l 2 = 169) → W l = 3 := fun h => by
    unfold W wd; rw [h.1, h.2.1, hw3, if_neg (by decide), if_neg (by decide), if_pos (by omega)]
  have k1 : by' l 0 < 128 → W l = 1 := fun h => by
    unfold W wd need; rw [if_pos h, if_pos rfl]
  unfold cw rune
  rw [← W] at key
  simp only [Co] at key
  generalize W l = w at *
  generalize num w (by' l 0) (by' l 1) (by' l 2) (by' l 3) = r at *
  generalize by' l 0 = b0 at *
  generalize by' l 1 = b1 at *
  generalize by' l 2 = b2 at *
  refine ⟨?_, ?_, ?_, ?_, ?_, ?_, ?_, ?_⟩
  · constructor
    · intro h; omega
    · intro h; have := k1 (by omega); omega
  · constructor
    · intro h; omega
    · intro h; have := k1 (by omega); omega
  · constructor
    · intro h; omega
    · intro h; have := k2 h; omega
  · constructor
    · intro h; omega
    · intro h; have := k3 h; omega
  · intro h; have := k1 (by omega); rw [this, if_neg (by decide)]
  · intro h; have := k1 (by omega); rw [this, if_neg (by decide)]
  · intro h; rw [k2 h, if_neg (by decide)]
  · intro h; rw [k3 h, if_neg (by decide)]

/-- The line end at a place, told by the character there, the byte ahead and the byte behind. -/
theorem endW_rune (l : List UInt8) (i : Nat) : endW l i = if endR4 (rune (l.drop i)) = false then 0 else if rune (l.drop i) = 10 ∧ pv l i = 13 then 0 else
    if rune (l.drop i) = 13 ∧ by' l (i + 1) = 10 then 2 else cw (l.drop i) := by
  obtain ⟨r1, r2, r3, r4, c1, c2, c3, c4⟩ := runes_end (l.drop i)
  simp only [by'_drop, Nat.add_zero] at r1 r2 r3 r4 c1 c2 c3 c4
  unfold endW
  generalize rune (l.drop i) = r at *
  generalize cw (l.drop i) = c at *
  generalize by' l i = b0 at *
  generalize by' l (i + 1) = b1 at *
  generalize by' l (i + 2) = b2 at *
  generalize pv l i = p at *
  have hf : ∀ x, (x = 10 ∨ x = 13 ∨ x = 133 ∨ x = 8232 ∨ x = 8233) → ¬ (endR4 x = false) := fun x h => by unfold endR4; rw [decide_eq_false_iff_not]; exact fun k => k h
  rcases endB_cases p b0 b1 b2 with ⟨e, h1, h2⟩ | ⟨e, h1, h2⟩ | ⟨e, h1, h2⟩ | ⟨e, h1, h2⟩ | ⟨e, h1, h2⟩ | ⟨e, h1, h2⟩ | ⟨e, h1, h2, h3, h4⟩
  · have hr := r2.2 h1
    rw [e, if_neg (hf _ (by omega)), if_neg (by omega), if_pos ⟨hr, h2⟩]
  · have hr := r2.2 h1
    have hc := c2 h1
    rw [e, if_neg (hf _ (by omega)), if_neg (by omega), if_neg (fun h => h2 h.2), hc]
  · have hr := r1.2 h1
    rw [e, if_neg (hf _ (by omega)), if_pos ⟨hr, h2⟩]
  · have hr := r1.2 h1
    have hc := c1 h1
    rw [e, if_neg (hf _ (by omega)), if_neg (fun h => h2 h.2), if_neg (by omega), hc]
  · have hr := r3.2 ⟨h1, h2⟩
    have hc := c3 ⟨h1, h2⟩
    rw [e, if_neg (hf _ (by omega)), if_neg (by omega), if_neg (by omega), hc]
  · have hr := r4.2 ⟨h1, h2⟩
    have hc := c4 ⟨h1, h2⟩
    rw [e, if_neg (hf _ (by omega)), if_neg (by omega), if_neg (by omega), hc]
  · have hz : endR4 r = false := by
      unfold endR4
      rw [decide_eq_false_iff_not]
      rintro (h | h | h | h | h)
      · exact h2 (r1.1 h)
      · exact h1 (r2.1 h)
      · exact h3 (r3.1 h)
      · exact h4 (r4.1 (.inl h))
      · exact h4 (r4.1 (.inr h))
    rw [e, if_pos hz]

theorem endW_le (l : List UInt8) (i : Nat) : i + endW l i ≤ max i l.length := by
  have h : ∀ k, by' l k ≠ 0 → k < l.length := fun k hk => by
    by_cases h : k < l.length
    · exact h
    · exact absurd (by'_beyond l k (by omega)) hk
  unfold endW
  rcases endB_cases (pv l i) (by' l i) (by' l (i + 1)) (by' l (i + 2)) with ⟨e, h1, h2⟩ | ⟨e, h1, h2⟩ | ⟨e, h1, h2⟩ | ⟨e, h1, h2⟩ | ⟨e, h1, h2⟩ | ⟨e, h1, h2, h3⟩ | ⟨e, _⟩
  · have := h (i + 1) (by omega); omega
  · have := h i (by omega); omega
  · omega
  · have := h i (by omega); omega
  · have := h (i + 1) (by omega); omega
  · have := h (i + 2) (by omega); omega
  · omega
theorem endW_lt {l : List UInt8} {i : Nat} (h : endW l i ≠ 0) : i < l.length := by
  have := endW_le l i
  by_cases hi : i < l.length
  · exact hi
  · omega
theorem endW_end {l : List UInt8} {i : Nat} (h : endW l i ≠ 0) : i + endW l i ≤ l.length := by
  have := endW_le l i
  have := endW_lt h
  omega
theorem endW_le3 (l : List UInt8) (i : Nat) : endW l i ≤ 3 := by
  unfold endW
  rcases endB_cases (pv l i) (by' l i) (by' l (i + 1)) (by' l (i + 2)) with ⟨e, h1, h2⟩ | ⟨e, h1, h2⟩ | ⟨e, h1, h2⟩ | ⟨e, h1, h2⟩ | ⟨e, h1, h2⟩ | ⟨e, h1, h2, h3⟩ | ⟨e, _⟩ <;> omega
/-- A line end begins where a character begins. -/
theorem endW_st {l : List UInt8} {i : Nat} (h : endW l i ≠ 0) : St l i := by
  refine St_of_not_co l i (endW_lt h) ?_
  unfold endW at h
  unfold Co
  rcases endB_cases (pv l i) (by' l i) (by' l (i + 1)) (by' l (i + 2)) with ⟨e, h1, h2⟩ | ⟨e, h1, h2⟩ | ⟨e, h1, h2⟩ | ⟨e, h1, h2⟩ | ⟨e, h1, h2⟩ | ⟨e, h1, h2, h3⟩ | ⟨e, _⟩ <;> omega
/-- Within a line end none begins. -/
theorem endW_within {l : List UInt8} {i j : Nat} (h1 : i < j) (h2 : j < i + endW l i) : endW l j = 0 := by
  have hpv : j = i + 1 → pv l j = by' l i := fun e => by subst e; unfold pv; rw [if_neg (by omega)]; rfl
  have hj : j = i + 1 ∨ j = i + 2 := by have := endW_le3 l i; omega
  have hq : endW l j = endB (pv l j) (by' l j) (by' l (j + 1)) (by' l (j + 2)) := rfl
  unfold endW at h2
  rcases endB_cases (pv l i) (by' l i) (by' l (i + 1)) (by' l (i + 2)) with ⟨e, g1, g2⟩ | ⟨e, g1, g2⟩ | ⟨e, g1, g2⟩ | ⟨e, g1, g2⟩ | ⟨e, g1, g2⟩ | ⟨e, g1, g2, g3⟩ | ⟨e, _⟩
  all_goals first | omega | skip
  · have e1 : j = i + 1 := by omega
    rw [hq, hpv e1, e1, g1, g2]; rfl
  · have e1 : j = i + 1 := by omega
    rw [hq, e1, g2]; rfl
  · rcases hj with e1 | e1
    · rw [hq, e1, g2]; rfl
    · rcases g3 with g3 | g3 <;> (rw [hq, e1, g3]; rfl)

/-- The places at which line ends begin, of those below one. -/
def endsTo (l : List UInt8) (n : Nat) : List Nat := (List.range n).filter (fun i => decide (endW l i ≠ 0))
def stp (l : List UInt8) (st : Nat × List (Nat × Nat × Nat)) (p : Nat) : Nat × List (Nat × Nat × Nat) := (p + endW l p, st.2 ++ [(st.1, p, endW l p)])
/-- Where the line that is under way began, and the lines that are over, when the line ends below a place have been met. -/
def sofar (l : List UInt8) (n : Nat) : Nat × List (Nat × Nat × Nat) := (endsTo l n).foldl (stp l) (0, [])
/-- The lines: from, to, how wide the end is. -/
def Ls (l : List UInt8) : List (Nat × Nat × Nat) := (sofar l l.length).2 ++ [((sofar l l.length).1, l.length, 0)]

theorem sofar_zero (l : List UInt8) : sofar l 0 = (0, []) := rfl
theorem endsTo_succ (l : List UInt8) (n : Nat) : endsTo l (n + 1) = endsTo l n ++ (if endW l n ≠ 0 then [n] else []) := by
  unfold endsTo
  rw [List.range_succ, List.filter_append]
  congr 1
  by_cases h : endW l n ≠ 0 <;> simp [h]
theorem sofar_no {l : List UInt8} {n : Nat} (h : endW l n = 0) : sofar l (n + 1) = sofar l n := by
  unfold sofar; rw [endsTo_succ, if_neg (by omega), List.append_nil]
theorem sofar_yes {l : List UInt8} {n : Nat} (h : endW l n ≠ 0) : sofar l (n + 1) = stp l (sofar l n) n := by
  unfold sofar; rw [endsTo_succ, if_pos h, List.foldl_append]; rfl
theorem sofar_skip {l : List UInt8} (d : Nat) : ∀ n, (∀ j, n ≤ j → j < n + d → endW l j = 0) → sofar l (n + d) = sofar l n := by
  induction d with
  | zero => intro n _; rfl
  | succ d ih =>
    intro n h
    rw [← Nat.add_assoc, sofar_no (h (n + d) (by omega) (by omega))]
    exact ih n fun j h1 h2 => h j h1 (by omega)
/-- Over a character. -/
theorem sofar_char {l : List UInt8} {p : Nat} (hp : St l p) : sofar l (p + cw (l.drop p)) = if endW l p = 0 then sofar l p else stp l (sofar l p) p := by
  have h1 := cw_pos (l.drop p)
  have hs : sofar l (p + 1 + (cw (l.drop p) - 1)) = sofar l (p + 1) := sofar_skip _ _ fun j h1 h2 => by
    by_cases h : endW l j = 0
    · exact h
    · have := St_two (endW_st h) hp (by omega)
      omega
  rw [show p + cw (l.drop p) = p + 1 + (cw (l.drop p) - 1) by omega, hs]
  split
  · exact sofar_no ‹_›
  · exact sofar_yes ‹_›
/-- Over a line end. -/
theorem sofar_end {l : List UInt8} {p : Nat} (hp : endW l p ≠ 0) : sofar l (p + endW l p) = stp l (sofar l p) p := by
  have hs : sofar l (p + 1 + (endW l p - 1)) = sofar l (p + 1) := sofar_skip _ _ fun j h1 h2 => endW_within (i := p) (by omega) (by omega)
  rw [show p + endW l p = p + 1 + (endW l p - 1) by omega, hs]
  exact sofar_yes hp
theorem sofar_pre (l : List UInt8) (n : Nat) : ∀ d, (sofar l n).2 <+: (sofar l (n + d)).2 := by
  intro d
  induction d with
  | zero => exact List.prefix_refl _
  | succ d ih =>
    rw [← Nat.add_assoc]
    by_cases h : endW l (n + d) = 0
    · rw [sofar_no h]; exact ih
    · rw [sofar_yes h]; exact ih.trans (List.prefix_append _ _)
theorem sofar_Ls {l : List UInt8} {n : Nat} (h : n ≤ l.length) : (sofar l n).2 <+: Ls l := by
  unfold Ls
  have := sofar_pre l n (l.length - n)
  rw [show n + (l.length - n) = l.length by omega] at this
  exact this.trans (List.prefix_append _ _)
theorem sofar_inv (l : List UInt8) (n : Nat) : (∀ j, n ≤ j → endW l j ≠ 0 → (sofar l n).1 ≤ j) ∧ (sofar l n).1 ≤ l.length ∧ (∀ x ∈ (sofar l n).2, x.1 ≤ x.2.1 ∧ x.2.1 + x.2.2 ≤ l.length ∧ x.2.2 = endW l x.2.1 ∧ x.2.2 ≠ 0) := by
  induction n with
  | zero => rw [sofar_zero]; simp
  | succ n ih =>
    by_cases h : endW l n = 0
    · rw [sofar_no h]; exact ⟨fun j h1 h2 => ih.1 j (by omega) h2, ih.2⟩
    · rw [sofar_yes h]
      refine ⟨fun j h1 h2 => ?_, endW_end h, fun x hx => ?_⟩
      · by_cases hj : j < n + endW l n
        · exact absurd (endW_within (by omega) hj) h2
        · simp only [stp]; omega
      · simp only [stp, List.mem_append, List.mem_singleton] at hx
        rcases hx with hx | hx
        · exact ih.2.2 x hx
        · subst hx
          exact ⟨ih.1 n (Nat.le_refl _) h, endW_end h, rfl, h⟩
theorem Ls_mem {l : List UInt8} {x : Nat × Nat × Nat} (h : x ∈ Ls l) : x.1 ≤ x.2.1 ∧ x.2.1 + x.2.2 ≤ l.length := by
  unfold Ls at h
  rcases List.mem_append.1 h with h | h
  · have := (sofar_inv l l.length).2.2 x h; exact ⟨this.1, this.2.1⟩
  · rw [List.mem_singleton] at h
    subst h
    exact ⟨(sofar_inv l l.length).2.1, by simp⟩
theorem Ls_pos (l : List UInt8) : 0 < (Ls l).length := by unfold Ls; simp
theorem sofar_len (l : List UInt8) (n : Nat) : (sofar l n).2.length ≤ n := by
  induction n with
  | zero => rw [sofar_zero]; simp
  | succ n ih =>
    by_cases h : endW l n = 0
    · rw [sofar_no h]; omega
    · rw [sofar_yes h]; simp [stp]; omega
theorem Ls_len (l : List UInt8) : (Ls l).length ≤ l.length + 1 := by have := sofar_len l l.length; unfold Ls; simp; omega
end Go.Proofs.YtodooppapciegaaGreatDoor
