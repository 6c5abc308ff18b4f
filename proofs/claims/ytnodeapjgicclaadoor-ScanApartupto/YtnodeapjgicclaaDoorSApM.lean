/- Two lines with a blank between (no program in it). -/
import Derived.Test.YtnodeapjgicclaaDoorSAgT
namespace Go.Proofs.YtnodeapjgicclaaDoor
open Go.RowKit Go.Shelf
set_option linter.unusedVariables false

theorem need_not (b0 b1 : Nat) (h : b1 < 128) : need b0 b1 = if b0 < 128 then 1 else 0 := by
  unfold need
  split
  · rfl
  · rw [if_neg (by omega), if_neg (by omega), if_neg (by omega)]
theorem wdb_1 (b0 b1 b2 b3 c1 c2 c3 : Nat) (h : b1 < 128) (h' : c1 < 128) : wd b0 b1 b2 b3 = wd b0 c1 c2 c3 := by
  unfold wd
  rw [need_not b0 b1 h, need_not b0 c1 h']
  by_cases h0 : b0 < 128
  · rw [if_pos h0]; rfl
  · rw [if_neg h0]; simp
theorem wdb_2 (b0 b1 b2 b3 c2 c3 : Nat) (h : b2 < 128) (h' : c2 < 128) : wd b0 b1 b2 b3 = wd b0 b1 c2 c3 := by
  unfold wd
  rw [if_neg (show ¬ (need b0 b1 = 3 ∧ 128 ≤ b2 ∧ b2 ≤ 191) by omega), if_neg (show ¬ (need b0 b1 = 3 ∧ 128 ≤ c2 ∧ c2 ≤ 191) by omega), if_neg (show ¬ (need b0 b1 = 4 ∧ 128 ≤ b2 ∧ b2 ≤ 191 ∧ 128 ≤ b3 ∧ b3 ≤ 191) by omega), if_neg (show ¬ (need b0 b1 = 4 ∧ 128 ≤ c2 ∧ c2 ≤ 191 ∧ 128 ≤ c3 ∧ c3 ≤ 191) by omega)]
theorem wdb_3 (b0 b1 b2 b3 c3 : Nat) (h : b3 < 128) (h' : c3 < 128) : wd b0 b1 b2 b3 = wd b0 b1 b2 c3 := by
  unfold wd
  rw [if_neg (show ¬ (need b0 b1 = 4 ∧ 128 ≤ b2 ∧ b2 ≤ 191 ∧ 128 ≤ b3 ∧ b3 ≤ 191) by omega), if_neg (show ¬ (need b0 b1 = 4 ∧ 128 ≤ b2 ∧ b2 ≤ 191 ∧ 128 ≤ c3 ∧ c3 ≤ 191) by omega)]
theorem W_blank {l : List UInt8} (hl : l ≠ []) (Z : List UInt8) : W (l ++ 32 :: Z) = W l := by
  match l, hl with
  | [a], _ => exact wdb_1 _ _ _ _ _ _ _ (show (32 : Nat) < 128 by decide) (show (0 : Nat) < 128 by decide)
  | [a, b], _ => exact wdb_2 _ _ _ _ _ _ (show (32 : Nat) < 128 by decide) (show (0 : Nat) < 128 by decide)
  | [a, b, c], _ => exact wdb_3 _ _ _ _ _ (show (32 : Nat) < 128 by decide) (show (0 : Nat) < 128 by decide)
  | a :: b :: c :: d :: t, _ => rfl
theorem by'_app {X Z : List UInt8} {k : Nat} (h : k < X.length) : by' (X ++ Z) k = by' X k := by
  unfold by'; rw [List.getElem?_append_left h]
theorem by'_app2 (X Z : List UInt8) (k : Nat) : by' (X ++ Z) (X.length + k) = by' Z k := by
  unfold by'; rw [List.getElem?_append_right (by omega), Nat.add_sub_cancel_left]
theorem by'_at (X Z : List UInt8) : by' (X ++ Z) X.length = by' Z 0 := by'_app2 X Z 0
theorem rune_blank {l : List UInt8} (hl : l ≠ []) (Z : List UInt8) : rune (l ++ 32 :: Z) = rune l := by
  have hW := W_blank hl Z
  have hw := W_len l hl
  unfold rune
  rw [hW]
  unfold num
  have e0 : by' (l ++ 32 :: Z) 0 = by' l 0 := by'_app (List.length_pos_iff.2 hl)
  rw [e0]
  by_cases h1 : W l = 1
  · rw [if_pos h1, if_pos h1]
  rw [if_neg h1, if_neg h1]
  by_cases h2 : W l = 2
  · rw [if_pos h2, if_pos h2, by'_app (by omega)]
  rw [if_neg h2, if_neg h2]
  by_cases h3 : W l = 3
  · rw [if_pos h3, if_pos h3, by'_app (by omega), by'_app (by omega)]
  rw [if_neg h3, if_neg h3]
  by_cases h4 : W l = 4
  · rw [if_pos h4, if_pos h4, by'_app (by omega), by'_app (by omega), by'_app (by omega)]
  rw [if_neg h4, if_neg h4]
theorem cw_blank {l : List UInt8} (hl : l ≠ []) (Z : List UInt8) : cw (l ++ 32 :: Z) = cw l := by unfold cw; rw [W_blank hl Z]
theorem first_blank {l : List UInt8} (hl : l ≠ []) (Z : List UInt8) : firstV (l ++ 32 :: Z) = firstV l := by
  unfold firstV
  rw [if_neg (by simp), if_neg hl, rune_blank hl Z, cw_blank hl Z, W_blank hl Z]
theorem hex32 : ¬ 0 ≤ hexV 32 := by decide +kernel
theorem dgF_blank (m : Nat) : ∀ (a : Nat) (l Z : List UInt8), dgF m a (l ++ 32 :: Z) = dgF m a l := by
  induction m with
  | zero => intro a l Z; rfl
  | succ m ih =>
    intro a l Z
    cases l with
    | nil => simp only [List.nil_append, dgF, if_neg hex32]
    | cons b t => simp only [List.cons_append, dgF, ih]
theorem dgF_leb (m : Nat) : ∀ (a : Nat) (l : List UInt8), (dgF m a l).2 ≤ l.length := by
  induction m with
  | zero => intro a l; exact Nat.zero_le _
  | succ m ih =>
    intro a l
    cases l with
    | nil => exact Nat.zero_le _
    | cons b t =>
      simp only [dgF]
      split
      · have := ih (16 * a + (hexV b).toNat) t
        simp only [List.length_cons]
        omega
      · exact Nat.zero_le _
/-- What is no escape stays none ahead of a blank. -/
theorem escL_blank {l : List UInt8} (hl : l ≠ []) (h : (escL l).2 = 0) (Z : List UInt8) : (escL (l ++ 32 :: Z)).2 = 0 := by
  have hp : 0 < l.length := List.length_pos_iff.2 hl
  by_cases h1 : 1 < l.length
  · have e1 : by' (l ++ 32 :: Z) 1 = by' l 1 := by'_app h1
    have d2 : (l ++ 32 :: Z).drop 2 = l.drop 2 ++ 32 :: Z := List.drop_append_of_le_length (by omega)
    unfold escL at h ⊢
    rw [if_pos h1] at h
    rw [if_pos (by rw [List.length_append]; omega), e1, d2, dgF_blank]
    by_cases c1 : by' l 1 = 34
    · rw [if_pos c1] at h; cases h
    rw [if_neg c1] at h ⊢
    by_cases c2 : by' l 1 = 92
    · rw [if_pos c2] at h; cases h
    rw [if_neg c2] at h ⊢
    by_cases c3 : by' l 1 = 110
    · rw [if_pos c3] at h; cases h
    rw [if_neg c3] at h ⊢
    by_cases c4 : by' l 1 = 114
    · rw [if_pos c4] at h; cases h
    rw [if_neg c4] at h ⊢
    by_cases c5 : by' l 1 = 116
    · rw [if_pos c5] at h; cases h
    rw [if_neg c5] at h ⊢
    by_cases c6 : by' l 1 = 120
    · rw [if_pos c6] at h ⊢; exact h
    rw [if_neg c6] at h ⊢
    by_cases c7 : by' l 1 = 117
    · rw [if_pos c7] at h ⊢
      by_cases h2 : 2 < l.length
      · have e2 : by' (l ++ 32 :: Z) 2 = by' l 2 := by'_app h2
        have d3 : (l ++ 32 :: Z).drop 3 = l.drop 3 ++ 32 :: Z := List.drop_append_of_le_length (by omega)
        have hdl := dgF_leb 6 0 (l.drop 3)
        rw [List.length_drop] at hdl
        rw [e2, d3, dgF_blank]
        by_cases c8 : by' l 2 = 123
        · rw [if_pos ⟨h2, c8⟩] at h
          rw [if_pos ⟨by rw [List.length_append]; omega, c8⟩]
          by_cases c9 : 1 ≤ (dgF 6 0 (l.drop 3)).2 ∧ (3 + (dgF 6 0 (l.drop 3)).2 < l.length ∧ by' l (3 + (dgF 6 0 (l.drop 3)).2) = 125) ∧ Lib.validRune ((dgF 6 0 (l.drop 3)).1 : Int) = true
          · rw [if_pos c9] at h; simp only at h; omega
          · rw [if_neg]
            intro c
            refine c9 ⟨c.1, ?_, c.2.2⟩
            have hc := c.2.1.2
            by_cases hlt : 3 + (dgF 6 0 (l.drop 3)).2 < l.length
            · exact ⟨hlt, by rw [← hc, by'_app hlt]⟩
            · have he : 3 + (dgF 6 0 (l.drop 3)).2 = l.length := by omega
              rw [he, by'_at] at hc
              exact absurd hc (by show ¬ (32 : Nat) = 125; decide)
        · rw [if_neg (fun c => c8 c.2)]
      · have he : l.length = 2 := by omega
        have e2 : by' (l ++ 32 :: Z) 2 = 32 := by rw [← he, by'_at]; rfl
        rw [if_neg (fun c => by rw [e2] at c; exact absurd c.2 (by decide))]
    · rw [if_neg c7]
  · have he : l.length = 1 := by omega
    have e1 : by' (l ++ 32 :: Z) 1 = 32 := by rw [← he, by'_at]; rfl
    unfold escL
    rw [if_pos (by rw [List.length_append, List.length_cons]; omega), e1]
    rfl
/-- What is wrong ahead of its end stays wrong ahead of a blank. -/
theorem Qt_bad (k : Nat) : ∀ (l : List UInt8), l.length ≤ k → ∀ (T : List UInt8) (E : Nat), Qt l = (T, E, false) → E < l.length → ∀ Z, (Qt (l ++ 32 :: Z)).2.2 = false := by
  induction k with
  | zero => intro l hl T E h hE Z; omega
  | succ k ih =>
    intro l hl T E h hE Z
    have hpos : 0 < l.length := by omega
    have hne : l ≠ [] := List.length_pos_iff.1 hpos
    have e0 : by' (l ++ 32 :: Z) 0 = by' l 0 := by'_app hpos
    have hf := first_blank hne Z
    by_cases c34 : 0 < l.length ∧ by' l 0 = 34
    · rw [Qt_close c34] at h; cases h
    have c34' : ¬ (0 < (l ++ 32 :: Z).length ∧ by' (l ++ 32 :: Z) 0 = 34) := fun c => c34 ⟨hpos, by rw [← e0]; exact c.2⟩
    by_cases c92 : (firstV l).1 = 92
    · have c92' : (firstV (l ++ 32 :: Z)).1 = 92 := by rw [hf]; exact c92
      by_cases hn : (escL l).2 = 0
      · rw [Qt_none c34' c92' (escL_blank hne hn Z)]
      · have hs := (escL_small l).2
        rw [Qt_esc c34 c92 hn] at h
        obtain ⟨T', E', o', hQ⟩ : ∃ T' E' o', Qt (l.drop (escL l).2) = (T', E', o') := ⟨_, _, _, rfl⟩
        rw [hQ] at h
        simp only [Prod.mk.injEq] at h
        obtain ⟨hT, hE', ho⟩ := h
        subst ho
        have hloc : escL (l ++ 32 :: Z) = escL l := by
          have := escL_loc hn (l.drop (escL l).2 ++ 32 :: Z)
          rwa [← List.append_assoc, List.take_append_drop] at this
        rw [Qt_esc c34' c92' (by rw [hloc]; exact hn), hloc]
        have hd : (l ++ 32 :: Z).drop (escL l).2 = l.drop (escL l).2 ++ 32 :: Z := List.drop_append_of_le_length hs
        rw [hd]
        exact ih _ (by rw [List.length_drop]; omega) T' E' hQ (by rw [List.length_drop]; omega) Z
    · have c92' : ¬ (firstV (l ++ 32 :: Z)).1 = 92 := by rw [hf]; exact c92
      by_cases hp : (firstV l).2.2 = true ∧ plainK (firstV l).1 = true
      · rw [Qt_char c34 c92 hp] at h
        have hcl := cw_len l hne
        have hcp := cw_pos l
        obtain ⟨T', E', o', hQ⟩ : ∃ T' E' o', Qt (l.drop (cw l)) = (T', E', o') := ⟨_, _, _, rfl⟩
        rw [hQ] at h
        simp only [Prod.mk.injEq] at h
        obtain ⟨hT, hE', ho⟩ := h
        subst ho
        rw [Qt_char c34' c92' (by rw [hf]; exact hp), cw_blank hne Z]
        have hd : (l ++ 32 :: Z).drop (cw l) = l.drop (cw l) ++ 32 :: Z := List.drop_append_of_le_length hcl
        rw [hd]
        exact ih _ (by rw [List.length_drop]; omega) T' E' hQ (by rw [List.length_drop]; omega) Z
      · rw [Qt_fault c34' c92' (by rw [hf]; exact hp)]
end Go.Proofs.YtnodeapjgicclaaDoor
