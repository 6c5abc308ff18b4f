/- Package scan: the one form of a quoted text, as bytes, and that reading brings every text back (no program in it). -/
import Derived.Test.YtaljllbfedfpoaaGreatDoorSQtdM
import Derived.Test.YtaljllbfedfpoaaGreatDoorSEspB
import Derived.Test.YtaljllbfedfpoaaGreatDoorSEncM
namespace Go.Proofs.YtaljllbfedfpoaaGreatDoor
open Go.RowKit Go.Shelf
set_option linter.unusedVariables false

/-- How a character is written that does not stand for itself, by its rune and its first byte. -/
def escB (c : Nat) (f : UInt8) : List UInt8 :=
  if c = 34 then [92, 34] else if c = 92 then [92, 92] else if c = 10 then [92, 110] else if c = 13 then [92, 114] else if c = 9 then [92, 116]
  else if c = 133 then [92, 117, 123, 56, 53, 125] else if c = 8232 then [92, 117, 123, 50, 48, 50, 56, 125] else if c = 8233 then [92, 117, 123, 50, 48, 50, 57, 125]
  else [92, 120, hexD (f.toNat / 16), hexD (f.toNat % 16)]
/-- How the first character of a text is written. -/
def piece (l : List UInt8) : List UInt8 := if W l ≠ 0 ∧ plainK (rune l : Int) = true then l.take (cw l) else escB (rune l) (l.headD 0)
def qoF : Nat → List UInt8 → List UInt8
  | 0, _ => []
  | n + 1, l => if l = [] then [] else piece l ++ qoF n (l.drop (cw l))
def qo (l : List UInt8) : List UInt8 := qoF l.length l
theorem qoF_eq (n : Nat) : ∀ (m : Nat) (l : List UInt8), l.length ≤ n → l.length ≤ m → qoF n l = qoF m l := by
  induction n with
  | zero =>
    intro m l h1 h2
    have : l = [] := List.eq_nil_of_length_eq_zero (by omega)
    subst this
    cases m <;> rfl
  | succ n ih =>
    intro m l h1 h2
    by_cases hl : l = []
    · subst hl; cases m <;> rfl
    · cases m with
      | zero => exact absurd (List.eq_nil_of_length_eq_zero (by omega)) hl
      | succ m =>
        have := cw_pos l
        have : 0 < l.length := List.length_pos_iff.2 hl
        simp only [qoF, if_neg hl]
        rw [ih m (l.drop (cw l)) (by rw [List.length_drop]; omega) (by rw [List.length_drop]; omega)]
theorem qo_nil : qo [] = [] := rfl
theorem qo_cons {l : List UInt8} (h : l ≠ []) : qo l = piece l ++ qo (l.drop (cw l)) := by
  have := cw_pos l
  have hp : 0 < l.length := List.length_pos_iff.2 h
  obtain ⟨n, hn⟩ : ∃ n, l.length = n + 1 := ⟨l.length - 1, by omega⟩
  unfold qo
  rw [hn]
  simp only [qoF, if_neg h]
  rw [qoF_eq n _ (l.drop (cw l)) (by rw [List.length_drop]; omega) (Nat.le_refl _)]
theorem asc {l : List UInt8} (h : by' l 0 < 128) : W l = 1 ∧ rune l = by' l 0 := by
  have hn : need (by' l 0) (by' l 1) = 1 := by unfold need; rw [if_pos h]
  have hw : W l = 1 := by unfold W wd; rw [if_pos hn]
  refine ⟨hw, ?_⟩
  unfold rune; rw [hw]; rfl
theorem keepW {l : List UInt8} (hl : l ≠ []) (h : W l ≠ 0) (Y : List UInt8) : W (l.take (cw l) ++ Y) = W l ∧ rune (l.take (cw l) ++ Y) = rune l ∧ (l.take (cw l)).length = W l := by
  rw [cw_W h]
  have e := enc_dec l hl h
  have a := dec_enc (rune l : Int) Y
  have b := dec_enc (rune l : Int) (l.drop (W l))
  rw [e] at a b
  rw [List.take_append_drop] at b
  exact ⟨a.1.trans b.1.symm, by have := a.2.trans b.2.symm; omega, b.1.symm⟩
theorem asc_W {l : List UInt8} (hl : l ≠ []) (h : W l ≠ 0) (hr : rune l < 128) : W l = 1 := by
  have e := congrArg List.length (enc_dec l hl h)
  rw [enc_nat, if_pos (by omega), List.length_take, Nat.min_eq_left (W_len l hl)] at e
  simpa using e.symm
theorem take_rune {l : List UInt8} (hl : l ≠ []) (h : W l ≠ 0) : l.take (cw l) = Lib.encodeRune (rune l : Int) := by rw [cw_W h, enc_dec l hl h]
theorem rune_W {l : List UInt8} (h : rune l ≠ 65533) : W l ≠ 0 := fun e => h (rune_0 e)
theorem fst_rune {l : List UInt8} (hl : l ≠ []) : (firstV l).1 = (rune l : Int) := by unfold firstV; rw [if_neg hl]
theorem fst_right {l : List UInt8} (hl : l ≠ []) : (firstV l).2.2 = decide (W l ≠ 0) := by unfold firstV; rw [if_neg hl]
theorem hexV_hexD (n : Nat) (h : n < 16) : hexV (hexD n) = (n : Int) := by
  have : ∀ k : Fin 16, hexV (hexD k.val) = (k.val : Int) := by decide +kernel
  exact this ⟨n, h⟩
theorem dg_two (f : UInt8) (Y : List UInt8) : dgF 2 0 (hexD (f.toNat / 16) :: hexD (f.toNat % 16) :: Y) = (f.toNat, 2) := by
  have hf := f.toNat_lt
  have h1 := hexV_hexD (f.toNat / 16) (by omega)
  have h2 := hexV_hexD (f.toNat % 16) (by omega)
  simp only [dgF, h1, h2]
  rw [if_pos (by omega), if_pos (by omega)]
  simp only [Int.toNat_natCast]
  exact congrArg (fun x => (x, 2)) (by omega)
theorem esc_x (f : UInt8) (Y : List UInt8) : escL (92 :: 120 :: hexD (f.toNat / 16) :: hexD (f.toNat % 16) :: Y) = ([f], 4) := by
  unfold escL
  rw [if_pos (by simp)]
  have hb : by' (92 :: 120 :: hexD (f.toNat / 16) :: hexD (f.toNat % 16) :: Y) 1 = 120 := rfl
  rw [hb, if_neg (by decide), if_neg (by decide), if_neg (by decide), if_neg (by decide), if_neg (by decide), if_pos rfl]
  have hd : (92 :: 120 :: hexD (f.toNat / 16) :: hexD (f.toNat % 16) :: Y).drop 2 = hexD (f.toNat / 16) :: hexD (f.toNat % 16) :: Y := rfl
  rw [hd, dg_two, if_pos (Nat.le_refl 2)]
  have e : (f.toNat).toUInt8 = f := UInt8.ofNat_toNat
  simp only [e]
theorem esc_u85 (Y : List UInt8) : escL (92 :: 117 :: 123 :: 56 :: 53 :: 125 :: Y) = (Lib.encodeRune ((133 : Nat) : Int), 6) := by
  have hd : dgF 6 0 ((92 :: 117 :: 123 :: 56 :: 53 :: 125 :: Y).drop 3) = (133, 2) := by
    show dgF 6 0 (56 :: 53 :: 125 :: Y) = _
    simp only [dgF, show hexV 56 = 8 by decide, show hexV 53 = 5 by decide, show hexV 125 = -1 by decide]
    rfl
  unfold escL
  rw [if_pos (by simp), hd]
  have hb : by' (92 :: 117 :: 123 :: 56 :: 53 :: 125 :: Y) 1 = 117 := rfl
  rw [hb, if_neg (by decide), if_neg (by decide), if_neg (by decide), if_neg (by decide), if_neg (by decide), if_neg (by decide), if_pos rfl, if_pos ⟨by simp, rfl⟩, if_pos ⟨by decide, ⟨by simp, rfl⟩, by decide⟩]
  rfl
theorem esc_u2028 (Y : List UInt8) : escL (92 :: 117 :: 123 :: 50 :: 48 :: 50 :: 56 :: 125 :: Y) = (Lib.encodeRune ((8232 : Nat) : Int), 8) := by
  have hd : dgF 6 0 ((92 :: 117 :: 123 :: 50 :: 48 :: 50 :: 56 :: 125 :: Y).drop 3) = (8232, 4) := by
    show dgF 6 0 (50 :: 48 :: 50 :: 56 :: 125 :: Y) = _
    simp only [dgF, show hexV 50 = 2 by decide, show hexV 48 = 0 by decide, show hexV 56 = 8 by decide, show hexV 125 = -1 by decide]
    rfl
  unfold escL
  rw [if_pos (by simp), hd]
  have hb : by' (92 :: 117 :: 123 :: 50 :: 48 :: 50 :: 56 :: 125 :: Y) 1 = 117 := rfl
  rw [hb, if_neg (by decide), if_neg (by decide), if_neg (by decide), if_neg (by decide), if_neg (by decide), if_neg (by decide), if_pos rfl, if_pos ⟨by simp, rfl⟩, if_pos ⟨by decide, ⟨by simp, rfl⟩, by decide⟩]
  rfl
theorem esc_u2029 (Y : List UInt8) : escL (92 :: 117 :: 123 :: 50 :: 48 :: 50 :: 57 :: 125 :: Y) = (Lib.encodeRune ((8233 : Nat) : Int), 8) := by
  have hd : dgF 6 0 ((92 :: 117 :: 123 :: 50 :: 48 :: 50 :: 57 :: 125 :: Y).drop 3) = (8233, 4) := by
    show dgF 6 0 (50 :: 48 :: 50 :: 57 :: 125 :: Y) = _
    simp only [dgF, show hexV 50 = 2 by decide, show hexV 48 = 0 by decide, show hexV 57 = 9 by decide, show hexV 125 = -1 by decide]
    rfl
  unfold escL
  rw [if_pos (by simp), hd]
  have hb : by' (92 :: 117 :: 123 :: 50 :: 48 :: 50 :: 57 :: 125 :: Y) 1 = 117 := rfl
  rw [hb, if_neg (by decide), if_neg (by decide), if_neg (by decide), if_neg (by decide), if_neg (by decide), if_neg (by decide), if_pos rfl, if_pos ⟨by simp, rfl⟩, if_pos ⟨by decide, ⟨by simp, rfl⟩, by decide⟩]
  rfl
theorem esc_short (c : UInt8) (r : UInt8) (Y : List UInt8) (h : (c = 34 ∧ r = 34) ∨ (c = 92 ∧ r = 92) ∨ (c = 110 ∧ r = 10) ∨ (c = 114 ∧ r = 13) ∨ (c = 116 ∧ r = 9)) : escL (92 :: c :: Y) = ([r], 2) := by
  unfold escL
  rw [if_pos (by simp)]
  have hb : by' (92 :: c :: Y) 1 = c.toNat := rfl
  rw [hb]
  rcases h with ⟨rfl, rfl⟩ | ⟨rfl, rfl⟩ | ⟨rfl, rfl⟩ | ⟨rfl, rfl⟩ | ⟨rfl, rfl⟩ <;> rfl
/-- An escape at the front of a text. -/
theorem Qt_of_esc (X B : List UInt8) (Y : List UInt8) (h : escL (92 :: X ++ Y) = (B, (92 :: X).length)) : Qt (92 :: X ++ Y) = (B ++ (Qt Y).1, (92 :: X).length + (Qt Y).2.1, (Qt Y).2.2) := by
  have h0 : by' (92 :: X ++ Y) 0 = 92 := rfl
  have hr := (asc (l := 92 :: X ++ Y) (by rw [h0]; decide)).2
  have hn : ¬ (0 < (92 :: X ++ Y).length ∧ by' (92 :: X ++ Y) 0 = 34) := fun e => by rw [h0] at e; exact absurd e.2 (by decide)
  have hc : (firstV (92 :: X ++ Y)).1 = 92 := by rw [fst_rune (by simp), hr, h0]; rfl
  rw [Qt_esc hn hc (by rw [h]; simp), h]
  have hd : (92 :: X ++ Y).drop (92 :: X).length = Y := List.drop_left
  simp only [hd]
theorem Qt_piece {l : List UInt8} (hl : l ≠ []) (Y : List UInt8) : Qt (piece l ++ Y) = (l.take (cw l) ++ (Qt Y).1, (piece l).length + (Qt Y).2.1, (Qt Y).2.2) := by
  by_cases hp : W l ≠ 0 ∧ plainK (rune l : Int) = true
  · have e : piece l = l.take (cw l) := by unfold piece; rw [if_pos hp]
    rw [e]
    obtain ⟨hw, hr, hlen⟩ := keepW hl hp.1 Y
    have hne : l.take (cw l) ++ Y ≠ [] := fun h => by
      have := congrArg List.length h
      rw [List.length_append, hlen] at this
      have : W l = 0 := by simp at this; omega
      exact hp.1 this
    have hn : ¬ (0 < (l.take (cw l) ++ Y).length ∧ by' (l.take (cw l) ++ Y) 0 = 34) := fun h => by
      have := (asc (l := l.take (cw l) ++ Y) (by rw [h.2]; decide)).2
      rw [hr, h.2] at this
      rw [this] at hp
      exact absurd hp.2 (by decide)
    have hc : (firstV (l.take (cw l) ++ Y)).1 ≠ 92 := fun h => by
      rw [fst_rune hne, hr] at h
      have h' : rune l = 92 := by omega
      rw [h'] at hp
      exact absurd hp.2 (by decide)
    have hcw : cw (l.take (cw l) ++ Y) = (l.take (cw l)).length := by rw [hlen, cw_W (by rw [hw]; exact hp.1), hw]
    rw [Qt_char hn hc ⟨by rw [fst_right hne, hw]; exact decide_eq_true hp.1, by rw [fst_rune hne, hr]; exact hp.2⟩, hcw, List.take_left, List.drop_left]
  · have e : piece l = escB (rune l) (l.headD 0) := by unfold piece; rw [if_neg hp]
    rw [e]
    unfold escB
    by_cases c1 : rune l = 34
    · rw [if_pos c1, take_rune hl (rune_W (by omega)), c1]
      exact Qt_of_esc [34] _ Y (esc_short 34 34 Y (by simp))
    rw [if_neg c1]
    by_cases c2 : rune l = 92
    · rw [if_pos c2, take_rune hl (rune_W (by omega)), c2]
      exact Qt_of_esc [92] _ Y (esc_short 92 92 Y (by simp))
    rw [if_neg c2]
    by_cases c3 : rune l = 10
    · rw [if_pos c3, take_rune hl (rune_W (by omega)), c3]
      exact Qt_of_esc [110] _ Y (esc_short 110 10 Y (by simp))
    rw [if_neg c3]
    by_cases c4 : rune l = 13
    · rw [if_pos c4, take_rune hl (rune_W (by omega)), c4]
      exact Qt_of_esc [114] _ Y (esc_short 114 13 Y (by simp))
    rw [if_neg c4]
    by_cases c5 : rune l = 9
    · rw [if_pos c5, take_rune hl (rune_W (by omega)), c5]
      exact Qt_of_esc [116] _ Y (esc_short 116 9 Y (by simp))
    rw [if_neg c5]
    by_cases c6 : rune l = 133
    · rw [if_pos c6, take_rune hl (rune_W (by omega)), c6]
      exact Qt_of_esc [117, 123, 56, 53, 125] _ Y (esc_u85 Y)
    rw [if_neg c6]
    by_cases c7 : rune l = 8232
    · rw [if_pos c7, take_rune hl (rune_W (by omega)), c7]
      exact Qt_of_esc [117, 123, 50, 48, 50, 56, 125] _ Y (esc_u2028 Y)
    rw [if_neg c7]
    by_cases c8 : rune l = 8233
    · rw [if_pos c8, take_rune hl (rune_W (by omega)), c8]
      exact Qt_of_esc [117, 123, 50, 48, 50, 57, 125] _ Y (esc_u2029 Y)
    rw [if_neg c8]
    have hcw : cw l = 1 := by
      by_cases hw : W l = 0
      · exact cw_0 hw
      · have hpl : ¬ plainK (rune l : Int) = true := fun h => hp ⟨hw, h⟩
        have hr : rune l < 128 := by
          refine Nat.lt_of_not_le fun hge => hpl ?_
          unfold plainK
          rw [beq_eq_false_iff_ne.2 (by omega), beq_eq_false_iff_ne.2 (by omega), beq_eq_false_iff_ne.2 (by omega), beq_eq_false_iff_ne.2 (by omega), beq_eq_false_iff_ne.2 (by omega), beq_eq_false_iff_ne.2 (by omega), decide_eq_true (by omega)]
          rfl
        rw [cw_W hw, asc_W hl hw hr]
    have ht : l.take (cw l) = [l.headD 0] := by
      rw [hcw]
      cases l with
      | nil => exact absurd rfl hl
      | cons a t => rfl
    rw [ht]
    exact Qt_of_esc [120, hexD ((l.headD 0).toNat / 16), hexD ((l.headD 0).toNat % 16)] _ Y (esc_x (l.headD 0) Y)
/-- Every text comes back out of its quoted form. -/
theorem Qt_qo (R : List UInt8) : ∀ l : List UInt8, Qt (qo l ++ 34 :: R) = (l, (qo l).length + 1, true) := by
  refine byChars ?_ ?_
  · rw [qo_nil, List.nil_append, Qt_close ⟨by simp, rfl⟩]; rfl
  · intro l hl ih
    rw [qo_cons hl, List.append_assoc, Qt_piece hl, ih, List.length_append]
    simp only [List.take_append_drop]
    rw [Nat.add_assoc]
/-- Which bytes stand in a quoted form. -/
def okC (b : UInt8) : Prop := 32 ≤ b.toNat ∧ b.toNat ≠ 127
theorem hexD_ok (n : Nat) (h : n < 16) : okC (hexD n) := by
  have : ∀ k : Fin 16, 32 ≤ (hexD k.val).toNat ∧ (hexD k.val).toNat ≠ 127 := by decide +kernel
  exact this ⟨n, h⟩
theorem escB_ok (c : Nat) (f : UInt8) : ∀ b ∈ escB c f, okC b := by
  have hf := f.toNat_lt
  have h1 := hexD_ok (f.toNat / 16) (by omega)
  have h2 := hexD_ok (f.toNat % 16) (by omega)
  have all : ∀ L : List UInt8, (L.all fun b => decide (32 ≤ b.toNat) && decide (b.toNat ≠ 127)) = true → ∀ b ∈ L, okC b := fun L h b hb => by
    have := List.all_eq_true.1 h b hb
    simpa [okC] using this
  unfold escB
  repeat' split
  all_goals first | exact all _ (by decide) | skip
  intro b hb
  simp only [List.mem_cons, List.not_mem_nil, or_false] at hb
  rcases hb with rfl | rfl | rfl | rfl
  · exact ⟨by decide, by decide⟩
  · exact ⟨by decide, by decide⟩
  · exact h1
  · exact h2
theorem piece_ok {l : List UInt8} (hl : l ≠ []) : ∀ b ∈ piece l, okC b := by
  unfold piece
  split
  · rename_i hp
    rw [cw_W hp.1]
    intro b hb
    obtain ⟨k, hk, rfl⟩ := List.mem_iff_getElem.1 hb
    rw [List.length_take] at hk
    have hkl : k < l.length := by omega
    have e : (l.take (W l))[k].toNat = by' l k := by
      rw [List.getElem_take]
      unfold by'
      rw [List.getElem?_eq_getElem hkl]; rfl
    unfold okC
    rw [e]
    by_cases hk0 : k = 0
    · subst hk0
      by_cases hw : W l = 1
      · have h1 := W_one l hw
        have h2 := (asc h1).2
        have h3 := hp.2
        rw [h2] at h3
        generalize by' l 0 = n at *
        refine ⟨?_, ?_⟩
        · refine Nat.le_of_not_lt fun h => ?_
          have h4 : plainK (n : Int) = false := by unfold plainK; rw [decide_eq_false (show ¬ (32 : Int) ≤ (n : Int) by omega), Bool.and_false]
          rw [h4] at h3
          exact absurd h3 (by decide)
        · intro h
          subst h
          exact absurd h3 (by decide)
      · have h1 := W_lead l (by have := hp.1; omega)
        omega
    · have h1 := W_co l k (by omega) (by omega)
      unfold Co at h1
      omega
  · exact escB_ok _ _
theorem qo_ok : ∀ l : List UInt8, ∀ b ∈ qo l, okC b := by
  refine byChars ?_ ?_
  · intro b hb; rw [qo_nil] at hb; exact absurd hb (by simp)
  · intro l hl ih b hb
    rw [qo_cons hl] at hb
    rcases List.mem_append.1 hb with h | h
    · exact piece_ok hl b h
    · exact ih b h
theorem piece_le {l : List UInt8} (hl : l ≠ []) : 1 ≤ (piece l).length ∧ (piece l).length ≤ 4 * cw l := by
  have h1 := cw_pos l
  have h2 := cw_len l hl
  unfold piece
  split
  · rw [List.length_take]; omega
  · rename_i hp
    unfold escB
    have h3 : rune l = 133 ∨ rune l = 8232 ∨ rune l = 8233 → 2 ≤ cw l := by
      intro h
      have hw : W l ≠ 0 := rune_W (by omega)
      rw [cw_W hw]
      refine Nat.le_of_not_lt fun h4 => ?_
      have := rune_1 (l := l) (by omega)
      omega
    repeat' split
    all_goals (simp only [List.length_cons, List.length_nil]; first | omega | (have := h3 (by omega); omega))
theorem qo_len : ∀ l : List UInt8, (qo l).length ≤ 4 * l.length := by
  refine byChars ?_ ?_
  · exact Nat.le_refl _
  · intro l hl ih
    rw [qo_cons hl, List.length_append]
    have h1 := (piece_le hl).2
    have h2 := cw_len l hl
    rw [List.length_drop] at ih
    omega
end Go.Proofs.YtaljllbfedfpoaaGreatDoor
