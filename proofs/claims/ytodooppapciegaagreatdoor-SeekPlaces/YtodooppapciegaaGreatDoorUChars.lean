/- Plain Lean: the characters of a text, one behind the other: where they begin, that they cover it, that a byte that follows none begins one. -/
import Derived.Test.YtodooppapciegaaGreatDoorUDec
namespace Go.Proofs.YtodooppapciegaaGreatDoor
set_option linter.unusedVariables false

/-- A byte that may stand behind the first one of a sequence. -/
def Co (b : Nat) : Prop := 128 ≤ b ∧ b ≤ 191

theorem need_cases (b0 b1 : Nat) : (need b0 b1 = 1 ∧ b0 < 128) ∨ (need b0 b1 = 2 ∧ 194 ≤ b0 ∧ b0 ≤ 223 ∧ Co b1) ∨ (need b0 b1 = 3 ∧ 224 ≤ b0 ∧ b0 ≤ 239 ∧ Co b1) ∨ (need b0 b1 = 4 ∧ 240 ≤ b0 ∧ b0 ≤ 244 ∧ Co b1) ∨ (need b0 b1 = 0 ∧ 128 ≤ b0) := by
  unfold need Co
  split
  · omega
  · split
    · omega
    · split
      · omega
      · split <;> omega

theorem wd_cases (b0 b1 b2 b3 : Nat) : (wd b0 b1 b2 b3 = 1 ∧ need b0 b1 = 1 ∧ b0 < 128) ∨ (wd b0 b1 b2 b3 = 2 ∧ need b0 b1 = 2 ∧ 194 ≤ b0 ∧ b0 ≤ 223 ∧ Co b1) ∨
    (wd b0 b1 b2 b3 = 3 ∧ need b0 b1 = 3 ∧ 224 ≤ b0 ∧ b0 ≤ 239 ∧ Co b1 ∧ Co b2) ∨ (wd b0 b1 b2 b3 = 4 ∧ need b0 b1 = 4 ∧ 240 ≤ b0 ∧ b0 ≤ 244 ∧ Co b1 ∧ Co b2 ∧ Co b3) ∨
    (wd b0 b1 b2 b3 = 0 ∧ 128 ≤ b0 ∧ need b0 b1 ≠ 1 ∧ need b0 b1 ≠ 2 ∧ ¬ (need b0 b1 = 3 ∧ Co b2) ∧ ¬ (need b0 b1 = 4 ∧ Co b2 ∧ Co b3)) := by
  have z : ∀ {n}, need b0 b1 = n → n ≠ 1 → n ≠ 2 → ¬ (n = 3 ∧ Co b2) → ¬ (n = 4 ∧ Co b2 ∧ Co b3) → wd b0 b1 b2 b3 = 0 := by
    intro n hn h1 h2 h3 h4
    subst hn
    unfold wd
    have h3' : ¬ (need b0 b1 = 3 ∧ 128 ≤ b2 ∧ b2 ≤ 191) := h3
    have h4' : ¬ (need b0 b1 = 4 ∧ 128 ≤ b2 ∧ b2 ≤ 191 ∧ 128 ≤ b3 ∧ b3 ≤ 191) := fun k => h4 ⟨k.1, ⟨k.2.1, k.2.2.1⟩, k.2.2.2⟩
    rw [if_neg h1, if_neg h2, if_neg h3', if_neg h4']
  rcases need_cases b0 b1 with h | h | h | h | h
  · exact .inl ⟨by unfold wd; rw [if_pos h.1], h.1, h.2⟩
  · exact .inr (.inl ⟨by unfold wd; rw [if_neg (by omega), if_pos h.1], h.1, h.2⟩)
  · by_cases c2 : Co b2
    · exact .inr (.inr (.inl ⟨by unfold wd; rw [if_neg (by omega), if_neg (by omega), if_pos ⟨h.1, c2⟩], h.1, h.2.1, h.2.2.1, h.2.2.2, c2⟩))
    · exact .inr (.inr (.inr (.inr ⟨z h.1 (by omega) (by omega) (fun k => c2 k.2) (fun k => c2 k.2.1), by omega, by omega, by omega, fun k => c2 k.2, fun k => c2 k.2.1⟩)))
  · by_cases c2 : Co b2 ∧ Co b3
    · exact .inr (.inr (.inr (.inl ⟨by unfold wd; rw [if_neg (by omega), if_neg (by omega), if_neg (by omega), if_pos ⟨h.1, c2.1.1, c2.1.2, c2.2⟩], h.1, h.2.1, h.2.2.1, h.2.2.2, c2⟩)))
    · exact .inr (.inr (.inr (.inr ⟨z h.1 (by omega) (by omega) (fun k => by omega) (fun k => c2 k.2), by omega, by omega, by omega, fun k => by omega, fun k => c2 k.2⟩)))
  · exact .inr (.inr (.inr (.inr ⟨z h.1 (by omega) (by omega) (fun k => by omega) (fun k => by omega), h.2, by omega, by omega, fun k => by omega, fun k => by omega⟩)))

theorem W_le4 (l : List UInt8) : W l ≤ 4 := wd_le _ _ _ _
theorem cw_pos (l : List UInt8) : 1 ≤ cw l := by unfold cw; split <;> omega
theorem cw_le4 (l : List UInt8) : cw l ≤ 4 := by have := W_le4 l; unfold cw; split <;> omega
theorem W_co (l : List UInt8) (k : Nat) (h0 : 0 < k) (hk : k < W l) : Co (by' l k) := by
  unfold W at hk
  rcases wd_cases (by' l 0) (by' l 1) (by' l 2) (by' l 3) with h | h | h | h | h
  · omega
  · have : k = 1 := by omega
    subst this; exact h.2.2.2.2
  · have : k = 1 ∨ k = 2 := by omega
    rcases this with rfl | rfl
    · exact h.2.2.2.2.1
    · exact h.2.2.2.2.2
  · have : k = 1 ∨ k = 2 ∨ k = 3 := by omega
    rcases this with rfl | rfl | rfl
    · exact h.2.2.2.2.1
    · exact h.2.2.2.2.2.1
    · exact h.2.2.2.2.2.2
  · omega
theorem W_lead (l : List UInt8) (h : 2 ≤ W l) : 194 ≤ by' l 0 := by
  unfold W at h
  rcases wd_cases (by' l 0) (by' l 1) (by' l 2) (by' l 3) with g | g | g | g | g <;> omega
theorem W_one (l : List UInt8) (h : W l = 1) : by' l 0 < 128 := by
  unfold W at h
  rcases wd_cases (by' l 0) (by' l 1) (by' l 2) (by' l 3) with g | g | g | g | g <;> omega
theorem W_of_co (l : List UInt8) (h : Co (by' l 0)) : W l = 0 := by
  unfold W
  unfold Co at h
  rcases wd_cases (by' l 0) (by' l 1) (by' l 2) (by' l 3) with g | g | g | g | g <;> omega
theorem Co_lt {l : List UInt8} {k : Nat} (h : Co (by' l k)) : k < l.length := by
  by_cases hk : k < l.length
  · exact hk
  · rw [by'_beyond l k (by omega)] at h; unfold Co at h; omega
theorem W_len (l : List UInt8) (hl : l ≠ []) : W l ≤ l.length := by
  have hp : 0 < l.length := List.length_pos_iff.2 hl
  by_cases h : W l ≤ 1
  · omega
  · have := Co_lt (W_co l (W l - 1) (by omega) (by omega))
    omega
theorem cw_len (l : List UInt8) (hl : l ≠ []) : cw l ≤ l.length := by
  have hp : 0 < l.length := List.length_pos_iff.2 hl
  have := W_len l hl
  unfold cw
  split <;> omega
theorem cw_big {l : List UInt8} (h : 2 ≤ cw l) : W l = cw l := by unfold cw at *; split at h <;> simp_all
theorem cw_W {l : List UInt8} (h : W l ≠ 0) : cw l = W l := by unfold cw; rw [if_neg h]
theorem cw_0 {l : List UInt8} (h : W l = 0) : cw l = 1 := by unfold cw; rw [if_pos h]
theorem rune_0 {l : List UInt8} (h : W l = 0) : rune l = 65533 := by unfold rune; rw [h]; rfl
theorem rune_1 {l : List UInt8} (h : W l = 1) : rune l < 128 := by have := W_one l h; unfold rune; rw [h]; exact this
theorem rune_le (l : List UInt8) : rune l ≤ 1114111 := by
  have h0 := by'_lt l 0
  unfold rune num
  have hc : need (by' l 0) (by' l 1) = 4 → by' l 0 % 8 * 262144 + by' l 1 % 64 * 4096 + by' l 2 % 64 * 64 + by' l 3 % 64 ≤ 1114111 := by
    intro h
    unfold need at h
    split at h
    · omega
    · split at h
      · omega
      · split at h
        · omega
        · split at h
          · omega
          · omega
  unfold W
  rcases wd_cases (by' l 0) (by' l 1) (by' l 2) (by' l 3) with g | g | g | g | g
  · rw [g.1, if_pos rfl]; omega
  · rw [g.1, if_neg (by decide), if_pos rfl]; omega
  · rw [g.1, if_neg (by decide), if_neg (by decide), if_pos rfl]; omega
  · rw [g.1, if_neg (by decide), if_neg (by decide), if_neg (by decide), if_pos rfl]; exact hc g.2.1
  · rw [g.1, if_neg (by decide), if_neg (by decide), if_neg (by decide), if_neg (by decide)]; omega

/-- Whether the first character is right, as the program tells it. -/
theorem right_eq (l : List UInt8) : (decide (cw l > 1) || (decide (cw l = 1) && decide (rune l ≠ 65533))) = decide (W l ≠ 0) := by
  by_cases h0 : W l = 0
  · rw [cw_0 h0, rune_0 h0]; simp [h0]
  · rw [cw_W h0]
    by_cases h1 : W l = 1
    · have := rune_1 h1
      have h2 : rune l ≠ 65533 := by omega
      simp [h1, h2]
    · have h2 : W l > 1 := by omega
      simp [h0, h2]

/-- The characters from a place on: place, rune, width of each. -/
def csF : Nat → Nat → List UInt8 → List (Nat × Nat × Nat)
  | 0, _, _ => []
  | _ + 1, _, [] => []
  | f + 1, a, x :: t => (a, rune (x :: t), cw (x :: t)) :: csF f (a + cw (x :: t)) ((x :: t).drop (cw (x :: t)))
def Cs (a : Nat) (l : List UInt8) : List (Nat × Nat × Nat) := csF l.length a l

theorem csF_eq : ∀ (f a : Nat) (l : List UInt8), l.length ≤ f → csF f a l = Cs a l := by
  have key : ∀ (f g a : Nat) (l : List UInt8), l.length ≤ f → l.length ≤ g → csF f a l = csF g a l := by
    intro f
    induction f with
    | zero => intro g a l h1 h2; have : l = [] := List.eq_nil_of_length_eq_zero (by omega); subst this; cases g <;> rfl
    | succ f ih =>
      intro g a l h1 h2
      cases l with
      | nil => cases g <;> rfl
      | cons x t =>
        cases g with
        | zero => simp at h2
        | succ g =>
          have hp := cw_pos (x :: t)
          simp only [csF]
          rw [ih g _ _ (by simp only [List.length_drop]; omega) (by simp only [List.length_drop]; omega)]
  exact fun f a l h => key f l.length a l h (Nat.le_refl _)
theorem Cs_nil (a : Nat) : Cs a [] = [] := rfl
theorem Cs_cons (a : Nat) (l : List UInt8) (h : l ≠ []) : Cs a l = (a, rune l, cw l) :: Cs (a + cw l) (l.drop (cw l)) := by
  cases l with
  | nil => exact absurd rfl h
  | cons x t =>
    have hp := cw_pos (x :: t)
    show csF (t.length + 1) a (x :: t) = _
    simp only [csF]
    rw [csF_eq t.length _ _ (by simp only [List.length_drop, List.length_cons]; omega)]

/-- By characters. -/
theorem byChars {P : List UInt8 → Prop} (h0 : P []) (h1 : ∀ l, l ≠ [] → P (l.drop (cw l)) → P l) : ∀ l, P l := by
  have key : ∀ (n : Nat) l, l.length ≤ n → P l := by
    intro n
    induction n with
    | zero => intro l hl; have : l = [] := List.eq_nil_of_length_eq_zero (by omega); subst this; exact h0
    | succ n ih =>
      intro l hl
      by_cases he : l = []
      · subst he; exact h0
      · exact h1 l he (ih _ (by have := cw_pos l; have := List.length_pos_iff.2 he; simp only [List.length_drop]; omega))
  exact fun l => key l.length l (Nat.le_refl _)

/-- Where characters begin. -/
def St (l : List UInt8) (i : Nat) : Prop := ∃ e ∈ Cs 0 l, e.1 = i

theorem Cs_shift (l : List UInt8) : ∀ a, Cs a l = (Cs 0 l).map (fun e => (e.1 + a, e.2)) := by
  induction l using byChars with
  | h0 => intro a; rfl
  | h1 l hl ih =>
    intro a
    rw [Cs_cons a l hl, Cs_cons 0 l hl, ih (a + cw l), ih (0 + cw l)]
    simp only [List.map_cons, List.map_map, Nat.zero_add]
    congr 1
    apply List.map_congr_left
    intro e _
    simp only [Function.comp]
    congr 1
    omega

theorem Cs_mem (l : List UInt8) : ∀ a, ∀ e ∈ Cs a l, a ≤ e.1 ∧ e.1 + e.2.2 ≤ a + l.length ∧ 1 ≤ e.2.2 ∧ e.2.2 ≤ 4 ∧ e.2.1 = rune (l.drop (e.1 - a)) ∧ e.2.2 = cw (l.drop (e.1 - a)) := by
  induction l using byChars with
  | h0 => intro a e he; cases he
  | h1 l hl ih =>
    intro a e he
    have h1 := cw_pos l
    have h4 := cw_le4 l
    have hn := cw_len l hl
    rw [Cs_cons a l hl, List.mem_cons] at he
    rcases he with rfl | he
    · refine ⟨Nat.le_refl _, by show a + cw l ≤ _; omega, h1, h4, ?_, ?_⟩ <;> simp only [Nat.sub_self, List.drop_zero]
    · obtain ⟨g1, g2, g3, g4, g5, g6⟩ := ih (a + cw l) e he
      rw [List.drop_drop, show cw l + (e.1 - (a + cw l)) = e.1 - a by omega] at g5 g6
      rw [List.length_drop] at g2
      exact ⟨by omega, by omega, g3, g4, g5, g6⟩

theorem Cs_sorted (l : List UInt8) : ∀ a, (Cs a l).Pairwise (fun x y => x.1 + x.2.2 ≤ y.1) := by
  induction l using byChars with
  | h0 => intro a; exact List.Pairwise.nil
  | h1 l hl ih =>
    intro a
    rw [Cs_cons a l hl]
    exact List.Pairwise.cons (fun e he => (Cs_mem _ _ e he).1) (ih _)

theorem St_lt {l : List UInt8} {i : Nat} (h : St l i) : i < l.length := by
  obtain ⟨e, he, rfl⟩ := h
  have := Cs_mem l 0 e he
  omega
theorem St_zero {l : List UInt8} (h : l ≠ []) : St l 0 := ⟨_, by rw [Cs_cons 0 l h]; exact List.mem_cons_self, rfl⟩
theorem St_step {l : List UInt8} (h : l ≠ []) (i : Nat) : St l (cw l + i) ↔ St (l.drop (cw l)) i := by
  have h1 := cw_pos l
  unfold St
  rw [Cs_cons 0 l h, Cs_shift _ (0 + cw l)]
  constructor
  · rintro ⟨e, he, hi⟩
    rw [List.mem_cons] at he
    rcases he with rfl | he
    · simp at hi; omega
    · obtain ⟨e', he', rfl⟩ := List.mem_map.1 he
      exact ⟨e', he', by simp at hi; omega⟩
  · rintro ⟨e, he, hi⟩
    exact ⟨_, List.mem_cons_of_mem _ (List.mem_map.2 ⟨e, he, rfl⟩), by simp; omega⟩
theorem St_inside {l : List UInt8} (h : l ≠ []) {i : Nat} (h0 : 0 < i) (hi : i < cw l) : ¬ St l i := by
  rintro ⟨e, he, rfl⟩
  rw [Cs_cons 0 l h, List.mem_cons] at he
  rcases he with rfl | he
  · simp at h0
  · have := (Cs_mem _ _ e he).1
    omega

/-- A byte that may not follow begins a character. -/
theorem St_of_not_co (l : List UInt8) : ∀ i, i < l.length → ¬ Co (by' l i) → St l i := by
  induction l using byChars with
  | h0 => intro i h; simp at h
  | h1 l hl ih =>
    intro i hi hc
    by_cases h0 : i = 0
    · subst h0; exact St_zero hl
    · by_cases hw : i < cw l
      · exact absurd (W_co l i (by omega) (by rw [cw_big (by omega)]; exact hw)) hc
      · have := (St_step hl (i - cw l)).2 (ih (i - cw l) (by rw [List.length_drop]; omega) (by rw [by'_drop, show cw l + (i - cw l) = i by omega]; exact hc))
        rwa [show cw l + (i - cw l) = i by omega] at this
/-- Each byte belongs to a character. -/
theorem St_cover (l : List UInt8) : ∀ i, i < l.length → ∃ j, St l j ∧ j ≤ i ∧ i < j + cw (l.drop j) := by
  induction l using byChars with
  | h0 => intro i h; simp at h
  | h1 l hl ih =>
    intro i hi
    by_cases hw : i < cw l
    · exact ⟨0, St_zero hl, by omega, by simpa using hw⟩
    · obtain ⟨j, h1, h2, h3⟩ := ih (i - cw l) (by rw [List.length_drop]; omega)
      exact ⟨cw l + j, (St_step hl j).2 h1, by omega, by rw [List.drop_drop] at h3; omega⟩
theorem St_two {l : List UInt8} {i j : Nat} (hi : St l i) (hj : St l j) (h : j < i) : j + cw (l.drop j) ≤ i := by
  obtain ⟨e, he, rfl⟩ := hi
  obtain ⟨f, hf, rfl⟩ := hj
  have hs := Cs_sorted l 0
  have hm := Cs_mem l 0 f hf
  rw [Nat.sub_zero] at hm
  rw [← hm.2.2.2.2.2]
  obtain ⟨m, hm'⟩ := List.getElem?_of_mem hf
  obtain ⟨n, hn'⟩ := List.getElem?_of_mem he
  obtain ⟨hm1, hm2⟩ := List.getElem?_eq_some_iff.1 hm'
  obtain ⟨hn1, hn2⟩ := List.getElem?_eq_some_iff.1 hn'
  rcases Nat.lt_trichotomy m n with hmn | hmn | hmn
  · have := List.pairwise_iff_getElem.1 hs m n hm1 hn1 hmn
    rw [hm2, hn2] at this
    exact this
  · subst hmn
    rw [hm2] at hn2
    rw [hn2] at h
    omega
  · have := List.pairwise_iff_getElem.1 hs n m hn1 hm1 hmn
    rw [hm2, hn2] at this
    omega

/-- Where the sequence would begin that the byte at a place belongs to. -/
def opF (l : List UInt8) : Nat → Nat → Nat
  | 0, i => i
  | f + 1, i => if 0 < i ∧ 128 ≤ by' l i ∧ by' l i ≤ 191 then opF l f (i - 1) else i
def op (l : List UInt8) (i : Nat) : Nat := opF l 3 i
theorem opF_le (l : List UInt8) : ∀ f i, opF l f i ≤ i ∧ i ≤ opF l f i + f := by
  intro f
  induction f with
  | zero => intro i; exact ⟨Nat.le_refl _, Nat.le_refl _⟩
  | succ f ih =>
    intro i
    unfold opF
    split
    · have := ih (i - 1); omega
    · omega
theorem op_le (l : List UInt8) (i : Nat) : op l i ≤ i ∧ i ≤ op l i + 3 := opF_le l 3 i
/-- If the bytes behind j up to i follow, and j's does not, j is what is found. -/
theorem opF_to (l : List UInt8) : ∀ f i j, j ≤ i → i ≤ j + f → (∀ k, j < k → k ≤ i → Co (by' l k)) → ¬ Co (by' l j) → opF l f i = j := by
  intro f
  induction f with
  | zero => intro i j h1 h2 _ _; show i = j; omega
  | succ f ih =>
    intro i j h1 h2 h3 h4
    unfold opF
    by_cases he : j = i
    · subst he; rw [if_neg (fun h => h4 h.2)]
    · rw [if_pos ⟨by omega, h3 i (by omega) (Nat.le_refl _)⟩]
      exact ih (i - 1) j (by omega) (by omega) (fun k hk1 hk2 => h3 k hk1 (by omega)) h4
theorem op_inside {l : List UInt8} {i j : Nat} (hj : j < i) (hi : i < j + W (l.drop j)) : op l i = j := by
  have h4 := W_le4 (l.drop j)
  have hl := W_lead (l.drop j) (by omega)
  rw [by'_drop, Nat.add_zero] at hl
  refine opF_to l 3 i j (by omega) (by omega) (fun k h1 h2 => ?_) (by unfold Co; omega)
  have := W_co (l.drop j) (k - j) (by omega) (by omega)
  rwa [by'_drop, show j + (k - j) = k by omega] at this

/-- What Begins finds by looking back. -/
theorem begins_iff (l : List UInt8) (i : Nat) (hi : i < l.length) : (op l i = i ∨ op l i + cw (l.drop (op l i)) ≤ i) ↔ St l i := by
  have ho := op_le l i
  constructor
  · intro h
    obtain ⟨j, h1, h2, h3⟩ := St_cover l i hi
    by_cases he : j = i
    · subst he; exact h1
    · have hw : W (l.drop j) = cw (l.drop j) := cw_big (by omega)
      have := op_inside (l := l) (i := i) (j := j) (by omega) (by omega)
      rw [this] at h
      omega
  · intro h
    by_cases he : op l i = i
    · exact .inl he
    · refine .inr ?_
      by_cases hw : op l i + cw (l.drop (op l i)) ≤ i
      · exact hw
      · have hb : W (l.drop (op l i)) = cw (l.drop (op l i)) := cw_big (by omega)
        have hl := W_lead (l.drop (op l i)) (by omega)
        rw [by'_drop, Nat.add_zero] at hl
        have hs := St_of_not_co l (op l i) (by omega) (by unfold Co; omega)
        exact St_two h hs (by omega)

/-- The last character: where it begins. -/
def lastAt (l : List UInt8) : Nat := if op l (l.length - 1) + cw (l.drop (op l (l.length - 1))) = l.length then op l (l.length - 1) else l.length - 1
theorem last_iff (l : List UInt8) (hl : l ≠ []) : St l (lastAt l) ∧ lastAt l + cw (l.drop (lastAt l)) = l.length ∧
    (op l (l.length - 1) + cw (l.drop (op l (l.length - 1))) ≠ l.length → W (l.drop (lastAt l)) = 0) := by
  have hp : 0 < l.length := List.length_pos_iff.2 hl
  have ho := op_le l (l.length - 1)
  obtain ⟨j, h1, h2, h3⟩ := St_cover l (l.length - 1) (by omega)
  have hj : j + cw (l.drop j) = l.length := by
    have hne : l.drop j ≠ [] := fun e => by have := congrArg List.length e; simp at this; have := St_lt h1; omega
    have := cw_len _ hne
    rw [List.length_drop] at this
    have := St_lt h1
    omega
  by_cases hjl : j = l.length - 1
  · unfold lastAt
    by_cases hc : op l (l.length - 1) + cw (l.drop (op l (l.length - 1))) = l.length
    · rw [if_pos hc]
      by_cases he : op l (l.length - 1) = l.length - 1
      · rw [he] at hc ⊢
        rw [← hjl] at hc ⊢
        exact ⟨h1, hc, fun h => absurd hj h⟩
      · have hb : W (l.drop (op l (l.length - 1))) = cw (l.drop (op l (l.length - 1))) := cw_big (by omega)
        have hl' := W_lead (l.drop (op l (l.length - 1))) (by omega)
        rw [by'_drop, Nat.add_zero] at hl'
        have hs := St_of_not_co l (op l (l.length - 1)) (by omega) (by unfold Co; omega)
        have := St_two h1 hs (by omega)
        omega
    · rw [if_neg hc, ← hjl]
      refine ⟨h1, hj, fun _ => ?_⟩
      by_cases hw0 : W (l.drop j) = 0
      · exact hw0
      · exfalso
        have hw1 : W (l.drop j) = 1 := by rw [cw_W hw0] at hj; omega
        have hb := W_one _ hw1
        rw [by'_drop, Nat.add_zero] at hb
        have : op l (l.length - 1) = j := opF_to l 3 _ j (by omega) (by omega) (fun k h1 h2 => by omega) (by unfold Co; omega)
        rw [this] at hc
        exact hc hj
  · have hw : W (l.drop j) = cw (l.drop j) := cw_big (by omega)
    have hop := op_inside (l := l) (i := l.length - 1) (j := j) (by omega) (by omega)
    unfold lastAt
    rw [hop, if_pos hj]
    exact ⟨h1, hj, fun h => absurd hj h⟩
end Go.Proofs.YtodooppapciegaaGreatDoor
