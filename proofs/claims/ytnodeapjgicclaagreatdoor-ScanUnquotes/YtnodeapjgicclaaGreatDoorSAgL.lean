/- A token cut out of its line is read alone (no program in it). -/
import Derived.Test.YtnodeapjgicclaaGreatDoorSAgM
namespace Go.Proofs.YtnodeapjgicclaaGreatDoor
open Go.RowKit Go.Shelf
set_option linter.unusedVariables false

theorem dgF_loc (m : Nat) : ∀ (a : Nat) (l : List UInt8) (Z : List UInt8), ((dgF m a l).2 = m ∨ (∃ z zs, Z = z :: zs ∧ ¬ 0 ≤ hexV z)) → dgF m a (l.take (dgF m a l).2 ++ Z) = dgF m a l := by
  induction m with
  | zero => intro a l Z h; rfl
  | succ m ih =>
    intro a l Z h
    cases l with
    | nil =>
      have e : dgF (m + 1) a [] = (a, 0) := rfl
      rw [e] at h ⊢
      rcases h with h | ⟨z, zs, rfl, hz⟩
      · simp at h
      · simp only [List.take_nil, List.nil_append, dgF]
        rw [if_neg hz]
    | cons b t =>
      by_cases hb : 0 ≤ hexV b
      · have e : dgF (m + 1) a (b :: t) = ((dgF m (16 * a + (hexV b).toNat) t).1, (dgF m (16 * a + (hexV b).toNat) t).2 + 1) := by simp only [dgF]; rw [if_pos hb]
        rw [e] at h ⊢
        simp only [List.take_succ_cons, List.cons_append]
        have h' : (dgF m (16 * a + (hexV b).toNat) t).2 = m ∨ (∃ z zs, Z = z :: zs ∧ ¬ 0 ≤ hexV z) := by
          rcases h with h | h
          · left; simp at h; exact h
          · exact .inr h
        have := ih (16 * a + (hexV b).toNat) t Z h'
        simp only [dgF]
        rw [if_pos hb, this]
      · have e : dgF (m + 1) a (b :: t) = (a, 0) := by simp only [dgF]; rw [if_neg hb]
        rw [e] at h ⊢
        rcases h with h | ⟨z, zs, rfl, hz⟩
        · simp at h
        · simp only [List.take_zero, List.nil_append, dgF]
          rw [if_neg hz]
theorem dgF_le2 (m a : Nat) (l : List UInt8) : (dgF m a l).2 ≤ m := by
  induction m generalizing a l with
  | zero => exact Nat.le_refl _
  | succ m ih =>
    cases l with
    | nil => exact Nat.zero_le _
    | cons b t =>
      simp only [dgF]
      split
      · have := ih (16 * a + (hexV b).toNat) t
        simp only
        omega
      · exact Nat.zero_le _
theorem by'_take_app {X Z : List UInt8} {n k : Nat} (hk : k < n) (hn : n ≤ X.length) : by' (X.take n ++ Z) k = by' X k := by
  unfold by'
  rw [List.getElem?_append_left (by rw [List.length_take]; omega), List.getElem?_take, if_pos hk]
theorem drop_take_app {X Z : List UInt8} {n k : Nat} (hk : k ≤ n) (hn : n ≤ X.length) : (X.take n ++ Z).drop k = (X.drop k).take (n - k) ++ Z := by
  rw [List.drop_append_of_le_length (by rw [List.length_take]; omega), List.drop_take]
theorem escL_loc {X : List UInt8} (h : (escL X).2 ≠ 0) (Z : List UInt8) : escL (X.take (escL X).2 ++ Z) = escL X := by
  have hs := (escL_small X).2
  have hlen : ∀ n, n ≤ X.length → 1 < n → 1 < (X.take n ++ Z).length := fun n h1 h2 => by rw [List.length_append, List.length_take]; omega
  by_cases h1 : 1 < X.length
  · by_cases c1 : by' X 1 = 34
    · have e : escL X = ([34], 2) := by unfold escL; rw [if_pos h1, if_pos c1]
      rw [e]
      unfold escL
      rw [if_pos (hlen 2 (by omega) (by omega)), by'_take_app (by omega) (by omega), if_pos c1]
    by_cases c2 : by' X 1 = 92
    · have e : escL X = ([92], 2) := by unfold escL; rw [if_pos h1, if_neg c1, if_pos c2]
      rw [e]
      unfold escL
      rw [if_pos (hlen 2 (by omega) (by omega)), by'_take_app (by omega) (by omega), if_neg c1, if_pos c2]
    by_cases c3 : by' X 1 = 110
    · have e : escL X = ([10], 2) := by unfold escL; rw [if_pos h1, if_neg c1, if_neg c2, if_pos c3]
      rw [e]
      unfold escL
      rw [if_pos (hlen 2 (by omega) (by omega)), by'_take_app (by omega) (by omega), if_neg c1, if_neg c2, if_pos c3]
    by_cases c4 : by' X 1 = 114
    · have e : escL X = ([13], 2) := by unfold escL; rw [if_pos h1, if_neg c1, if_neg c2, if_neg c3, if_pos c4]
      rw [e]
      unfold escL
      rw [if_pos (hlen 2 (by omega) (by omega)), by'_take_app (by omega) (by omega), if_neg c1, if_neg c2, if_neg c3, if_pos c4]
    by_cases c5 : by' X 1 = 116
    · have e : escL X = ([9], 2) := by unfold escL; rw [if_pos h1, if_neg c1, if_neg c2, if_neg c3, if_neg c4, if_pos c5]
      rw [e]
      unfold escL
      rw [if_pos (hlen 2 (by omega) (by omega)), by'_take_app (by omega) (by omega), if_neg c1, if_neg c2, if_neg c3, if_neg c4, if_pos c5]
    by_cases c6 : by' X 1 = 120
    · by_cases hd : 2 ≤ (dgF 2 0 (X.drop 2)).2
      · have hd2 : (dgF 2 0 (X.drop 2)).2 = 2 := by have := dgF_le2 2 0 (X.drop 2); omega
        have e : escL X = ([((dgF 2 0 (X.drop 2)).1).toUInt8], 4) := by
          unfold escL; rw [if_pos h1, if_neg c1, if_neg c2, if_neg c3, if_neg c4, if_neg c5, if_pos c6, if_pos hd, hd2]
        rw [e] at hs ⊢
        simp only at hs
        show escL (X.take 4 ++ Z) = ([((dgF 2 0 (X.drop 2)).1).toUInt8], 4)
        have hl := dgF_loc 2 0 (X.drop 2) Z (.inl hd2)
        rw [hd2] at hl
        unfold escL
        rw [if_pos (hlen 4 (by omega) (by omega)), by'_take_app (by omega) (by omega), if_neg c1, if_neg c2, if_neg c3, if_neg c4, if_neg c5, if_pos c6, drop_take_app (by omega) (by omega), hl, if_pos hd, hd2]
      · exact absurd (by unfold escL; rw [if_pos h1, if_neg c1, if_neg c2, if_neg c3, if_neg c4, if_neg c5, if_pos c6, if_neg hd]) h
    by_cases c7 : by' X 1 = 117
    · by_cases c8 : 2 < X.length ∧ by' X 2 = 123
      · by_cases c9 : 1 ≤ (dgF 6 0 (X.drop 3)).2 ∧ (3 + (dgF 6 0 (X.drop 3)).2 < X.length ∧ by' X (3 + (dgF 6 0 (X.drop 3)).2) = 125) ∧ Lib.validRune ((dgF 6 0 (X.drop 3)).1 : Int) = true
        · have e : escL X = (Lib.encodeRune ((dgF 6 0 (X.drop 3)).1 : Int), 3 + (dgF 6 0 (X.drop 3)).2 + 1) := by
            unfold escL; rw [if_pos h1, if_neg c1, if_neg c2, if_neg c3, if_neg c4, if_neg c5, if_neg c6, if_pos c7, if_pos c8, if_pos c9]
          rw [e] at hs ⊢
          simp only at hs
          have ht : (X.drop 3).take ((dgF 6 0 (X.drop 3)).2 + 1) = (X.drop 3).take (dgF 6 0 (X.drop 3)).2 ++ [125] := by
            have hk : (dgF 6 0 (X.drop 3)).2 < (X.drop 3).length := by rw [List.length_drop]; omega
            rw [List.take_succ_eq_append_getElem hk]
            congr 2
            refine UInt8.toNat_inj.1 ?_
            have h9 := c9.2.1.2
            have : by' X (3 + (dgF 6 0 (X.drop 3)).2) = by' (X.drop 3) (dgF 6 0 (X.drop 3)).2 := by rw [by'_drop]
            rw [this] at h9
            unfold by' at h9
            rw [List.getElem?_eq_getElem hk] at h9
            exact h9
          have hl := dgF_loc 6 0 (X.drop 3) (125 :: Z) (.inr ⟨125, Z, rfl, by decide⟩)
          have hdr : (X.take (3 + (dgF 6 0 (X.drop 3)).2 + 1) ++ Z).drop 3 = (X.drop 3).take (dgF 6 0 (X.drop 3)).2 ++ 125 :: Z := by
            rw [drop_take_app (by omega) (by omega), show 3 + (dgF 6 0 (X.drop 3)).2 + 1 - 3 = (dgF 6 0 (X.drop 3)).2 + 1 by omega, ht]
            simp
          unfold escL
          rw [if_pos (hlen _ (by omega) (by omega)), by'_take_app (by omega) (by omega), if_neg c1, if_neg c2, if_neg c3, if_neg c4, if_neg c5, if_neg c6, if_pos c7, hdr, hl]
          rw [if_pos ⟨by rw [List.length_append, List.length_take]; omega, by rw [by'_take_app (by omega) (by omega)]; exact c8.2⟩]
          rw [if_pos ⟨c9.1, ⟨by rw [List.length_append, List.length_take]; omega, by rw [by'_take_app (by omega) (by omega)]; exact c9.2.1.2⟩, c9.2.2⟩]
        · exact absurd (by unfold escL; rw [if_pos h1, if_neg c1, if_neg c2, if_neg c3, if_neg c4, if_neg c5, if_neg c6, if_pos c7, if_pos c8, if_neg c9]) h
      · exact absurd (by unfold escL; rw [if_pos h1, if_neg c1, if_neg c2, if_neg c3, if_neg c4, if_neg c5, if_neg c6, if_pos c7, if_neg c8]) h
    · exact absurd (by unfold escL; rw [if_pos h1, if_neg c1, if_neg c2, if_neg c3, if_neg c4, if_neg c5, if_neg c6, if_neg c7]) h
  · exact absurd (by unfold escL; rw [if_neg h1]) h
theorem rune92 {l : List UInt8} (hl : l ≠ []) : (firstV l).1 = 92 ↔ by' l 0 = 92 := by
  rw [fst_rune hl]
  constructor
  · intro h
    have hr : rune l = 92 := by omega
    have hw := asc_W hl (rune_W (by omega)) (by omega)
    have := (asc (W_one l hw)).2
    omega
  · intro h
    have := (asc (l := l) (by omega)).2
    omega
/-- A quoted text hangs on its own bytes alone. -/
theorem Qt_loc (k : Nat) : ∀ (X : List UInt8), X.length ≤ k → ∀ (T : List UInt8) (E : Nat), Qt X = (T, E, true) → ∀ Z, Qt (X.take E ++ Z) = (T, E, true) := by
  induction k with
  | zero =>
    intro X hX T E h Z
    have : X = [] := List.eq_nil_of_length_eq_zero (by omega)
    subst this
    rw [Qt_fault (by simp) (by simp [firstV]) (by simp [firstV])] at h
    cases h
  | succ k ih =>
    intro X hX T E h Z
    by_cases c34 : 0 < X.length ∧ by' X 0 = 34
    · rw [Qt_close c34] at h
      cases h
      refine Qt_close ⟨by rw [List.length_append, List.length_take]; omega, ?_⟩
      rw [by'_take_app (by omega) (by omega)]
      exact c34.2
    · by_cases hne : X = []
      · subst hne
        rw [Qt_fault (by simp) (by simp [firstV]) (by simp [firstV])] at h
        cases h
      · have hpos : 0 < X.length := List.length_pos_iff.2 hne
        by_cases c92 : (firstV X).1 = 92
        · by_cases hn : (escL X).2 = 0
          · rw [Qt_none c34 c92 hn] at h; cases h
          · rw [Qt_esc c34 c92 hn] at h
            have hs := (escL_small X).2
            obtain ⟨T', E', o', hQ⟩ : ∃ T' E' o', Qt (X.drop (escL X).2) = (T', E', o') := ⟨_, _, _, rfl⟩
            rw [hQ] at h
            simp only [Prod.mk.injEq] at h
            obtain ⟨hT, hE, ho⟩ := h
            subst ho
            have hi := ih (X.drop (escL X).2) (by rw [List.length_drop]; omega) T' E' hQ Z
            have hle := Qt_le (X.drop (escL X).2)
            rw [hQ, List.length_drop] at hle
            simp only at hle
            have hsplit : X.take E ++ Z = X.take (escL X).2 ++ ((X.drop (escL X).2).take E' ++ Z) := by
              rw [← hE, List.take_add, List.append_assoc]
            have hloc := escL_loc hn ((X.drop (escL X).2).take E' ++ Z)
            have hb := (rune92 hne).1 c92
            have hne2 : X.take (escL X).2 ++ ((X.drop (escL X).2).take E' ++ Z) ≠ [] := fun e => by
              have h0 := congrArg List.length e
              rw [List.length_append, List.length_take, List.length_nil] at h0
              omega
            have hb2 : by' (X.take (escL X).2 ++ ((X.drop (escL X).2).take E' ++ Z)) 0 = 92 := by rw [by'_take_app (by omega) (by omega)]; exact hb
            rw [hsplit, Qt_esc (fun e => by rw [hb2] at e; exact absurd e.2 (by decide)) ((rune92 hne2).2 hb2) (by rw [hloc]; exact hn), hloc]
            have hd : (X.take (escL X).2 ++ ((X.drop (escL X).2).take E' ++ Z)).drop (escL X).2 = (X.drop (escL X).2).take E' ++ Z := by
              rw [drop_take_app (Nat.le_refl _) hs, Nat.sub_self, List.take_zero, List.nil_append]
            rw [hd, hi, hT, hE]
        · by_cases hp : (firstV X).2.2 = true ∧ plainK (firstV X).1 = true
          · rw [Qt_char c34 c92 hp] at h
            have hcl := cw_len X hne
            have hcp := cw_pos X
            obtain ⟨T', E', o', hQ⟩ : ∃ T' E' o', Qt (X.drop (cw X)) = (T', E', o') := ⟨_, _, _, rfl⟩
            rw [hQ] at h
            simp only [Prod.mk.injEq] at h
            obtain ⟨hT, hE, ho⟩ := h
            subst ho
            have hi := ih (X.drop (cw X)) (by rw [List.length_drop]; omega) T' E' hQ Z
            have hle := Qt_le (X.drop (cw X))
            rw [hQ, List.length_drop] at hle
            simp only at hle
            have hsplit : X.take E ++ Z = X.take (cw X) ++ ((X.drop (cw X)).take E' ++ Z) := by
              rw [← hE, List.take_add, List.append_assoc]
            have hw : W X ≠ 0 := by have := hp.1; rw [fst_right hne] at this; exact of_decide_eq_true this
            obtain ⟨k1, k2, k3⟩ := keepW hne hw ((X.drop (cw X)).take E' ++ Z)
            have hne2 : X.take (cw X) ++ ((X.drop (cw X)).take E' ++ Z) ≠ [] := fun e => by
              have := congrArg List.length e
              rw [List.length_append, k3] at this
              simp at this
              omega
            have hf1 : (firstV (X.take (cw X) ++ ((X.drop (cw X)).take E' ++ Z))).1 = (firstV X).1 := by rw [fst_rune hne2, fst_rune hne, k2]
            have hf2 : (firstV (X.take (cw X) ++ ((X.drop (cw X)).take E' ++ Z))).2.2 = (firstV X).2.2 := by rw [fst_right hne2, fst_right hne, k1]
            have hb0 : by' (X.take (cw X) ++ ((X.drop (cw X)).take E' ++ Z)) 0 = by' X 0 := by'_take_app (by omega) (by omega)
            have hcw : cw (X.take (cw X) ++ ((X.drop (cw X)).take E' ++ Z)) = (X.take (cw X)).length := by rw [k3, cw_W (by rw [k1]; exact hw), k1]
            rw [hsplit, Qt_char (fun e => c34 ⟨hpos, by rw [← hb0]; exact e.2⟩) (by rw [hf1]; exact c92) (by rw [hf1, hf2]; exact hp), hcw, List.take_left, List.drop_left, hi, hT]
            rw [k3, ← cw_W hw, hE]
          · rw [Qt_fault c34 c92 hp] at h; cases h
end Go.Proofs.YtnodeapjgicclaaGreatDoor
