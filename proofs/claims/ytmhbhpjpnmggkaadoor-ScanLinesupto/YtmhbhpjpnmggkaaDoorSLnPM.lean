/- ScanLines holds: of every script the lines that say something, with their numbers, are what the document says, gone through whole and left early. Conditions: what is read is of a bulk of at most 1048576; the five variables of the library are as the program lays them. -/
import Derived.Test.YtmhbhpjpnmggkaaDoorSQtdM
import Derived.Test.YtmhbhpjpnmggkaaDoorSEspB
import Derived.Test.YtmhbhpjpnmggkaaDoorSEncM
import Derived.Test.YtmhbhpjpnmggkaaDoorSRd
import Derived.Handy
import Derived.WalkKit
import Derived.Laws.Bits64b
import Derived.Laws.IdiomStrings
import Derived.Shelf.Strings.Builder1
import Derived.Shelf.Strings.Builder2
import Derived.Shelf.Strings.BuilderF
import Derived.Shelf.Strings.BuilderK
import Derived.Test.YtmhbhpjpnmggkaaDoorProg
import Derived.Test.YtmhbhpjpnmggkaaDoorSMay
import Derived.Lib.ItoaLen
import Derived.Test.YtmhbhpjpnmggkaaDoorSSaid
import Derived.OwnWalk
import Derived.Maps.AppendAt
import Derived.Test.YtmhbhpjpnmggkaaDoorSRLns
import Derived.Test.YtmhbhpjpnmggkaaDoorUFirst
import Derived.ProofKit
import Derived.ChangeOld
import Derived.ChangeMaps5
import Derived.SizedLaws
import Derived.JoinedCond
import Derived.Test.YtmhbhpjpnmggkaaDoorCards
import Derived.Test.YtmhbhpjpnmggkaaDoorTie
import Derived.Test.YtmhbhpjpnmggkaaDoorSNum
import Derived.OpenShut
import Derived.Deep.DeepHandedRow
import Derived.Deep.DeepWitnessRowRef
import Derived.Lib.LaidTab
import Derived.LaidMore
import Derived.LaidLaws
namespace Go.Proofs.YtmhbhpjpnmggkaaDoor
open Go.RowKit Go.Shelf
set_option linter.unusedVariables false

/-- How a character is written that does not stand for itself, by its rune and its first byte. -/
def escB (c : Nat) (f : UInt8) : List UInt8 :=
  if c = 34 then [92, 34] else if c = 92 then [92, 92] else if c = 10 then [92, 110] else if c = 13 then [92, 114] else if c = 9 then [92, 116]
  else if c = 133 then [92, 117, 123, 56, 53, 125] else if c = 8232 then [92, 117, 123, 50, 48, 50, 56, 125] else if c = 8233 then [92, 117, 123, 50, 48, 50, 57, 125]
  else [92, 120, hexD (f.toNat / 16), hexD (f.toNat % 16)]
/-- How the first character of a text is written. -/
def piece (l : List UInt8) : List UInt8 := if W l ≠ 0 ∧ plainK (rune l : Int) = true then l.take (cw l) else escB (rune l) (l.headD 0)
def qoF : Nat → List UInt8 → List UInt8
  | 0, _ => []
  | n + 1, l => if l = [] then [] else piece l ++ qoF n (l.drop (cw l))
def qo (l : List UInt8) : List UInt8 := qoF l.length l
theorem qoF_eq (n : Nat) : ∀ (m : Nat) (l : List UInt8), l.length ≤ n → l.length ≤ m → qoF n l = qoF m l := by
  induction n with
  | zero =>
    intro m l h1 h2
    have : l = [] := List.eq_nil_of_length_eq_zero (by omega)
    subst this
    cases m <;> rfl
  | succ n ih =>
    intro m l h1 h2
    by_cases hl : l = []
    · subst hl; cases m <;> rfl
    · cases m with
      | zero => exact absurd (List.eq_nil_of_length_eq_zero (by omega)) hl
      | succ m =>
        have := cw_pos l
        have : 0 < l.length := List.length_pos_iff.2 hl
        simp only [qoF, if_neg hl]
        rw [ih m (l.drop (cw l)) (by rw [List.length_drop]; omega) (by rw [List.length_drop]; omega)]
theorem qo_nil : qo [] = [] := rfl
theorem qo_cons {l : List UInt8} (h : l ≠ []) : qo l = piece l ++ qo (l.drop (cw l)) := by
  have := cw_pos l
  have hp : 0 < l.length := List.length_pos_iff.2 h
  obtain ⟨n, hn⟩ : ∃ n, l.length = n + 1 := ⟨l.length - 1, by omega⟩
  unfold qo
  rw [hn]
  simp only [qoF, if_neg h]
  rw [qoF_eq n _ (l.drop (cw l)) (by rw [List.length_drop]; omega) (Nat.le_refl _)]
theorem asc {l : List UInt8} (h : by' l 0 < 128) : W l = 1 ∧ rune l = by' l 0 := by
  have hn : need (by' l 0) (by' l 1) = 1 := by unfold need; rw [if_pos h]
  have hw : W l = 1 := by unfold W wd; rw [if_pos hn]
  refine ⟨hw, ?_⟩
  unfold rune; rw [hw]; rfl
theorem keepW {l : List UInt8} (hl : l ≠ []) (h : W l ≠ 0) (Y : List UInt8) : W (l.take (cw l) ++ Y) = W l ∧ rune (l.take (cw l) ++ Y) = rune l ∧ (l.take (cw l)).length = W l := by
  rw [cw_W h]
  have e := enc_dec l hl h
  have a := dec_enc (rune l : Int) Y
  have b := dec_enc (rune l : Int) (l.drop (W l))
  rw [e] at a b
  rw [List.take_append_drop] at b
  exact ⟨a.1.trans b.1.symm, by have := a.2.trans b.2.symm; omega, b.1.symm⟩
theorem asc_W {l : List UInt8} (hl : l ≠ []) (h : W l ≠ 0) (hr : rune l < 128) : W l = 1 := by
  have e := congrArg List.length (enc_dec l hl h)
  rw [enc_nat, if_pos (by omega), List.length_take, Nat.min_eq_left (W_len l hl)] at e
  simpa using e.symm
theorem take_rune {l : List UInt8} (hl : l ≠ []) (h : W l ≠ 0) : l.take (cw l) = Lib.encodeRune (rune l : Int) := by rw [cw_W h, enc_dec l hl h]
theorem rune_W {l : List UInt8} (h : rune l ≠ 65533) : W l ≠ 0 := fun e => h (rune_0 e)
theorem fst_rune {l : List UInt8} (hl : l ≠ []) : (firstV l).1 = (rune l : Int) := by unfold firstV; rw [if_neg hl]
theorem fst_right {l : List UInt8} (hl : l ≠ []) : (firstV l).2.2 = decide (W l ≠ 0) := by unfold firstV; rw [if_neg hl]
theorem hexV_hexD (n : Nat) (h : n < 16) : hexV (hexD n) = (n : Int) := by
  have : ∀ k : Fin 16, hexV (hexD k.val) = (k.val : Int) := by decide +kernel
  exact this ⟨n, h⟩
theorem dg_two (f : UInt8) (Y : List UInt8) : dgF 2 0 (hexD (f.toNat / 16) :: hexD (f.toNat % 16) :: Y) = (f.toNat, 2) := by
  have hf := f.toNat_lt
  have h1 := hexV_hexD (f.toNat / 16) (by omega)
  have h2 := hexV_hexD (f.toNat % 16) (by omega)
  simp only [dgF, h1, h2]
  rw [if_pos (by omega), if_pos (by omega)]
  simp only [Int.toNat_natCast]
  exact congrArg (fun x => (x, 2)) (by omega)
theorem esc_x (f : UInt8) (Y : List UInt8) : escL (92 :: 120 :: hexD (f.toNat / 16) :: hexD (f.toNat % 16) :: Y) = ([f], 4) := by
  unfold escL
  rw [if_pos (by simp)]
  have hb : by' (92 :: 120 :: hexD (f.toNat / 16) :: hexD (f.toNat % 16) :: Y) 1 = 120 := rfl
  rw [hb, if_neg (by decide), if_neg (by decide), if_neg (by decide), if_neg (by decide), if_neg (by decide), if_pos rfl]
  have hd : (92 :: 120 :: hexD (f.toNat / 16) :: hexD (f.toNat % 16) :: Y).drop 2 = hexD (f.toNat / 16) :: hexD (f.toNat % 16) :: Y := rfl
  rw [hd, dg_two, if_pos (Nat.le_refl 2)]
  have e : (f.toNat).toUInt8 = f := UInt8.ofNat_toNat
  simp only [e]
theorem esc_u85 (Y : List UInt8) : escL (92 :: 117 :: 123 :: 56 :: 53 :: 125 :: Y) = (Lib.encodeRune ((133 : Nat) : Int), 6) := by
  have hd : dgF 6 0 ((92 :: 117 :: 123 :: 56 :: 53 :: 125 :: Y).drop 3) = (133, 2) := by
    show dgF 6 0 (56 :: 53 :: 125 :: Y) = _
    simp only [dgF, show hexV 56 = 8 by decide, show hexV 53 = 5 by decide, show hexV 125 = -1 by decide]
    rfl
  unfold escL
  rw [if_pos (by simp), hd]
  have hb : by' (92 :: 117 :: 123 :: 56 :: 53 :: 125 :: Y) 1 = 117 := rfl
  rw [hb, if_neg (by decide), if_neg (by decide), if_neg (by decide), if_neg (by decide), if_neg (by decide), if_neg (by decide), if_pos rfl, if_pos ⟨by simp, rfl⟩, if_pos ⟨by decide, ⟨by simp, rfl⟩, by decide⟩]
  rfl
theorem esc_u2028 (Y : List UInt8) : escL (92 :: 117 :: 123 :: 50 :: 48 :: 50 :: 56 :: 125 :: Y) = (Lib.encodeRune ((8232 : Nat) : Int), 8) := by
  have hd : dgF 6 0 ((92 :: 117 :: 123 :: 50 :: 48 :: 50 :: 56 :: 125 :: Y).drop 3) = (8232, 4) := by
    show dgF 6 0 (50 :: 48 :: 50 :: 56 :: 125 :: Y) = _
    simp only [dgF, show hexV 50 = 2 by decide, show hexV 48 = 0 by decide, show hexV 56 = 8 by decide, show hexV 125 = -1 by decide]
    rfl
  unfold escL
  rw [if_pos (by simp), hd]
  have hb : by' (92 :: 117 :: 123 :: 50 :: 48 :: 50 :: 56 :: 125 :: Y) 1 = 117 := rfl
  rw [hb, if_neg (by decide), if_neg (by decide), if_neg (by decide), if_neg (by decide), if_neg (by decide), if_neg (by decide), if_pos rfl, if_pos ⟨by simp, rfl⟩, if_pos ⟨by decide, ⟨by simp, rfl⟩, by decide⟩]
  rfl
theorem esc_u2029 (Y : List UInt8) : escL (92 :: 117 :: 123 :: 50 :: 48 :: 50 :: 57 :: 125 :: Y) = (Lib.encodeRune ((8233 : Nat) : Int), 8) := by
  have hd : dgF 6 0 ((92 :: 117 :: 123 :: 50 :: 48 :: 50 :: 57 :: 125 :: Y).drop 3) = (8233, 4) := by
    show dgF 6 0 (50 :: 48 :: 50 :: 57 :: 125 :: Y) = _
    simp only [dgF, show hexV 50 = 2 by decide, show hexV 48 = 0 by decide, show hexV 57 = 9 by decide, show hexV 125 = -1 by decide]
    rfl
  unfold escL
  rw [if_pos (by simp), hd]
  have hb : by' (92 :: 117 :: 123 :: 50 :: 48 :: 50 :: 57 :: 125 :: Y) 1 = 117 := rfl
  rw [hb, if_neg (by decide), if_neg (by decide), if_neg (by decide), if_neg (by decide), if_neg (by decide), if_neg (by decide), if_pos rfl, if_pos ⟨by simp, rfl⟩, if_pos ⟨by decide, ⟨by simp, rfl⟩, by decide⟩]
  rfl
theorem esc_short (c : UInt8) (r : UInt8) (Y : List UInt8) (h : (c = 34 ∧ r = 34) ∨ (c = 92 ∧ r = 92) ∨ (c = 110 ∧ r = 10) ∨ (c = 114 ∧ r = 13) ∨ (c = 116 ∧ r = 9)) : escL (92 :: c :: Y) = ([r], 2) := by
  unfold escL
  rw [if_pos (by simp)]
  have hb : by' (92 :: c :: Y) 1 = c.toNat := rfl
  rw [hb]
  rcases h with ⟨rfl, rfl⟩ | ⟨rfl, rfl⟩ | ⟨rfl, rfl⟩ | ⟨rfl, rfl⟩ | ⟨rfl, rfl⟩ <;> rfl
/-- An escape at the front of a text. -/
theorem Qt_of_esc (X B : List UInt8) (Y : List UInt8) (h : escL (92 :: X ++ Y) = (B, (92 :: X).length)) : Qt (92 :: X ++ Y) = (B ++ (Qt Y).1, (92 :: X).length + (Qt Y).2.1, (Qt Y).2.2) := by
  have h0 : by' (92 :: X ++ Y) 0 = 92 := rfl
  have hr := (asc (l := 92 :: X ++ Y) (by rw [h0]; decide)).2
  have hn : ¬ (0 < (92 :: X ++ Y).length ∧ by' (92 :: X ++ Y) 0 = 34) := fun e => by rw [h0] at e; exact absurd e.2 (by decide)
  have hc : (firstV (92 :: X ++ Y)).1 = 92 := by rw [fst_rune (by simp), hr, h0]; rfl
  rw [Qt_esc hn hc (by rw [h]; simp), h]
  have hd : (92 :: X ++ Y).drop (92 :: X).length = Y := List.drop_left
  simp only [hd]
theorem Qt_piece {l : List UInt8} (hl : l ≠ []) (Y : List UInt8) : Qt (piece l ++ Y) = (l.take (cw l) ++ (Qt Y).1, (piece l).length + (Qt Y).2.1, (Qt Y).2.2) := by
  by_cases hp : W l ≠ 0 ∧ plainK (rune l : Int) = true
  · have e : piece l = l.take (cw l) := by unfold piece; rw [if_pos hp]
    rw [e]
    obtain ⟨hw, hr, hlen⟩ := keepW hl hp.1 Y
    have hne : l.take (cw l) ++ Y ≠ [] := fun h => by
      have := congrArg List.length h
      rw [List.length_append, hlen] at this
      have : W l = 0 := by simp at this; omega
      exact hp.1 this
    have hn : ¬ (0 < (l.take (cw l) ++ Y).length ∧ by' (l.take (cw l) ++ Y) 0 = 34) := fun h => by
      have := (asc (l := l.take (cw l) ++ Y) (by rw [h.2]; decide)).2
      rw [hr, h.2] at this
      rw [this] at hp
      exact absurd hp.2 (by decide)
    have hc : (firstV (l.take (cw l) ++ Y)).1 ≠ 92 := fun h => by
      rw [fst_rune hne, hr] at h
      have h' : rune l = 92 := by omega
      rw [h'] at hp
      exact absurd hp.2 (by decide)
    have hcw : cw (l.take (cw l) ++ Y) = (l.take (cw l)).length := by rw [hlen, cw_W (by rw [hw]; exact hp.1), hw]
    rw [Qt_char hn hc ⟨by rw [fst_right hne, hw]; exact decide_eq_true hp.1, by rw [fst_rune hne, hr]; exact hp.2⟩, hcw, List.take_left, List.drop_left]
  · have e : piece l = escB (rune l) (l.headD 0) := by unfold piece; rw [if_neg hp]
    rw [e]
    unfold escB
    by_cases c1 : rune l = 34
    · rw [if_pos c1, take_rune hl (rune_W (by omega)), c1]
      exact Qt_of_esc [34] _ Y (esc_short 34 34 Y (by simp))
    rw [if_neg c1]
    by_cases c2 : rune l = 92
    · rw [if_pos c2, take_rune hl (rune_W (by omega)), c2]
      exact Qt_of_esc [92] _ Y (esc_short 92 92 Y (by simp))
    rw [if_neg c2]
    by_cases c3 : rune l = 10
    · rw [if_pos c3, take_rune hl (rune_W (by omega)), c3]
      exact Qt_of_esc [110] _ Y (esc_short 110 10 Y (by simp))
    rw [if_neg c3]
    by_cases c4 : rune l = 13
    · rw [if_pos c4, take_rune hl (rune_W (by omega)), c4]
      exact Qt_of_esc [114] _ Y (esc_short 114 13 Y (by simp))
    rw [if_neg c4]
    by_cases c5 : rune l = 9
    · rw [if_pos c5, take_rune hl (rune_W (by omega)), c5]
      exact Qt_of_esc [116] _ Y (esc_short 116 9 Y (by simp))
    rw [if_neg c5]
    by_cases c6 : rune l = 133
    · rw [if_pos c6, take_rune hl (rune_W (by omega)), c6]
      exact Qt_of_esc [117, 123, 56, 53, 125] _ Y (esc_u85 Y)
    rw [if_neg c6]
    by_cases c7 : rune l = 8232
    · rw [if_pos c7, take_rune hl (rune_W (by omega)), c7]
      exact Qt_of_esc [117, 123, 50, 48, 50, 56, 125] _ Y (esc_u2028 Y)
    rw [if_neg c7]
    by_cases c8 : rune l = 8233
    · rw [if_pos c8, take_rune hl (rune_W (by omega)), c8]
      exact Qt_of_esc [117, 123, 50, 48, 50, 57, 125] _ Y (esc_u2029 Y)
    rw [if_neg c8]
    have hcw : cw l = 1 := by
      by_cases hw : W l = 0
      · exact cw_0 hw
      · have hpl : ¬ plainK (rune l : Int) = true := fun h => hp ⟨hw, h⟩
        have hr : rune l < 128 := by
          refine Nat.lt_of_not_le fun hge => hpl ?_
          unfold plainK
          rw [beq_eq_false_iff_ne.2 (by omega), beq_eq_false_iff_ne.2 (by omega), beq_eq_false_iff_ne.2 (by omega), beq_eq_false_iff_ne.2 (by omega), beq_eq_false_iff_ne.2 (by omega), beq_eq_false_iff_ne.2 (by omega), decide_eq_true (by omega)]
          rfl
        rw [cw_W hw, asc_W hl hw hr]
    have ht : l.take (cw l) = [l.headD 0] := by
      rw [hcw]
      cases l with
      | nil => exact absurd rfl hl
      | cons a t => rfl
    rw [ht]
    exact Qt_of_esc [120, hexD ((l.headD 0).toNat / 16), hexD ((l.headD 0).toNat % 16)] _ Y (esc_x (l.headD 0) Y)
/-- Every text comes back out of its quoted form. -/
theorem Qt_qo (R : List UInt8) : ∀ l : List UInt8, Qt (qo l ++ 34 :: R) = (l, (qo l).length + 1, true) := by
  refine byChars ?_ ?_
  · rw [qo_nil, List.nil_append, Qt_close ⟨by simp, rfl⟩]; rfl
  · intro l hl ih
    rw [qo_cons hl, List.append_assoc, Qt_piece hl, ih, List.length_append]
    simp only [List.take_append_drop]
    rw [Nat.add_assoc]
/-- Which bytes stand in a quoted form. -/
def okC (b : UInt8) : Prop := 32 ≤ b.toNat ∧ b.toNat ≠ 127
theorem hexD_ok (n : Nat) (h : n < 16) : okC (hexD n) := by
  have : ∀ k : Fin 16, 32 ≤ (hexD k.val).toNat ∧ (hexD k.val).toNat ≠ 127 := by decide +kernel
  exact this ⟨n, h⟩
theorem escB_ok (c : Nat) (f : UInt8) : ∀ b ∈ escB c f, okC b := by
  have hf := f.toNat_lt
  have h1 := hexD_ok (f.toNat / 16) (by omega)
  have h2 := hexD_ok (f.toNat % 16) (by omega)
  have all : ∀ L : List UInt8, (L.all fun b => decide (32 ≤ b.toNat) && decide (b.toNat ≠ 127)) = true → ∀ b ∈ L, okC b := fun L h b hb => by
    have := List.all_eq_true.1 h b hb
    simpa [okC] using this
  unfold escB
  repeat' split
  all_goals first | exact all _ (by decide) | skip
  intro b hb
  simp only [List.mem_cons, List.not_mem_nil, or_false] at hb
  rcases hb with rfl | rfl | rfl | rfl
  · exact ⟨by decide, by decide⟩
  · exact ⟨by decide, by decide⟩
  · exact h1
  · exact h2
theorem piece_ok {l : List UInt8} (hl : l ≠ []) : ∀ b ∈ piece l, okC b := by
  unfold piece
  split
  · rename_i hp
    rw [cw_W hp.1]
    intro b hb
    obtain ⟨k, hk, rfl⟩ := List.mem_iff_getElem.1 hb
    rw [List.length_take] at hk
    have hkl : k < l.length := by omega
    have e : (l.take (W l))[k].toNat = by' l k := by
      rw [List.getElem_take]
      unfold by'
      rw [List.getElem?_eq_getElem hkl]; rfl
    unfold okC
    rw [e]
    by_cases hk0 : k = 0
    · subst hk0
      by_cases hw : W l = 1
      · have h1 := W_one l hw
        have h2 := (asc h1).2
        have h3 := hp.2
        rw [h2] at h3
        generalize by' l 0 = n at *
        refine ⟨?_, ?_⟩
        · refine Nat.le_of_not_lt fun h => ?_
          have h4 : plainK (n : Int) = false := by unfold plainK; rw [decide_eq_false (show ¬ (32 : Int) ≤ (n : Int) by omega), Bool.and_false]
          rw [h4] at h3
          exact absurd h3 (by decide)
        · intro h
          subst h
          exact absurd h3 (by decide)
      · have h1 := W_lead l (by have := hp.1; omega)
        omega
    · have h1 := W_co l k (by omega) (by omega)
      unfold Co at h1
      omega
  · exact escB_ok _ _
theorem qo_ok : ∀ l : List UInt8, ∀ b ∈ qo l, okC b := by
  refine byChars ?_ ?_
  · intro b hb; rw [qo_nil] at hb; exact absurd hb (by simp)
  · intro l hl ih b hb
    rw [qo_cons hl] at hb
    rcases List.mem_append.1 hb with h | h
    · exact piece_ok hl b h
    · exact ih b h
theorem piece_le {l : List UInt8} (hl : l ≠ []) : 1 ≤ (piece l).length ∧ (piece l).length ≤ 4 * cw l := by
  have h1 := cw_pos l
  have h2 := cw_len l hl
  unfold piece
  split
  · rw [List.length_take]; omega
  · rename_i hp
    unfold escB
    have h3 : rune l = 133 ∨ rune l = 8232 ∨ rune l = 8233 → 2 ≤ cw l := by
      intro h
      have hw : W l ≠ 0 := rune_W (by omega)
      rw [cw_W hw]
      refine Nat.le_of_not_lt fun h4 => ?_
      have := rune_1 (l := l) (by omega)
      omega
    repeat' split
    all_goals (simp only [List.length_cons, List.length_nil]; first | omega | (have := h3 (by omega); omega))
theorem qo_len : ∀ l : List UInt8, (qo l).length ≤ 4 * l.length := by
  refine byChars ?_ ?_
  · exact Nat.le_refl _
  · intro l hl ih
    rw [qo_cons hl, List.length_append]
    have h1 := (piece_le hl).2
    have h2 := cw_len l hl
    rw [List.length_drop] at ih
    omega
end Go.Proofs.YtmhbhpjpnmggkaaDoor
namespace Go.Proofs.YtmhbhpjpnmggkaaDoor
open Go.RowKit
set_option linter.unusedVariables false
set_option linter.unusedSimpArgs false

/-- What the library's table says of 16. -/
def LaidZ (w : World) : Prop := w.cell? ⟨3, 15, none⟩ = some (.int .u8 4)
theorem LaidZ.below {w w' : World} (h : LaidZ w) (hb : Below w.heap.size w w') : LaidZ w' := (hb.cell (World.block_lt_of_cell? _ _ h)).trans h
set_option maxRecDepth 100000 in
set_option maxHeartbeats 4000000 in
theorem pow2_16 (w : World) : Calls Tryd.prog 77 #[.int .i64 16] w fun e w' => e = .returned (.bool true) ∧ w' = w := by
  go_enter Tryd.func77, Tryd.ntmps77
  go_wp2
  go_ret
  exact ⟨rfl, rfl⟩
set_option maxRecDepth 100000 in
set_option maxHeartbeats 4000000 in
theorem tz64_16 (w : World) (h : LaidZ w) : Calls Tryd.prog 86 #[.int .u64 16] w fun e w' => e = .returned (.int .i64 4) ∧ w' = w := by
  have c : w.cell? ⟨3, 15, none⟩ = some (.int .u8 4) := h
  have key : IntKind.u64.wrap (bits BinOp.and IntKind.u64 16 (IntKind.u64.wrap (-16)) * 285870213051353865) / 288230376151711744 = 15 := by decide
  go_enter Tryd.func86, Tryd.ntmps86
  go_wp2_with (simp only [key])
  go_ret
  exact ⟨rfl, rfl⟩
set_option maxRecDepth 100000 in
set_option maxHeartbeats 4000000 in
theorem tz_16 (w : World) (h : LaidZ w) : Calls Tryd.prog 78 #[.int .u64 16] w fun e w' => e = .returned (.int .i64 4) ∧ w' = w := by
  go_enter Tryd.func78, Tryd.ntmps78
  go_wp2_with (go_at_call 86; refine (tz64_16 _ h).mono ?_; rintro e w' ⟨rfl, rfl⟩)
  go_ret
  exact ⟨rfl, rfl⟩
theorem a65 (W : World) (b : Nat) (A : Array Value) (t : TypeId) (h : W.heap[b]? = some (.cells A t (0, 0))) (o : Nat) (ho : o < A.size) : (∃ v, W.cell? ⟨b, o, none⟩ = some v) ∧ W.frozen? ⟨b, o, none⟩ = false := by
  refine ⟨⟨A[o], ?_⟩, ?_⟩
  · simp only [World.cell?, h]
    exact Array.getElem?_eq_getElem ho
  · simp [World.frozen?, h]
theorem size65 : Tryd.zeroCells117.size = 65 := by kernel_rfl
theorem convA (w : World) (A : Array Value) (o : Nat) (bs : List UInt8) (hA : ∀ j (h : j < bs.length), A[o + j]? = some (.int .u8 (bs[j].toNat : Int))) :
    (convert 48 9 (.slice (some ⟨w.heap.size, o, none⟩) bs.length bs.length)).run Tryd.prog (w.alloc (.cells A 117)) = .ok (.string ⟨bs.toArray⟩) (w.alloc (.cells A 117)) := by
  refine run_convert_bytes_back (P := Tryd.prog) _ 48 9 5 ⟨w.heap.size, o, none⟩ bs.length bs Tryd.underlying48 Tryd.underlying5 Tryd.underlying9 (fun j hj => ?_)
  have hh : (w.alloc (.cells A 117)).heap[w.heap.size]? = some (.cells A 117 (0, 0)) := heap_alloc_new w _
  rw [show (⟨w.heap.size, o, none⟩ : Addr).add j = ⟨w.heap.size, o + j, none⟩ from by cases j <;> simp [Addr.add]]
  simp only [World.cell?, hh]
  exact hA j hj
theorem conv2 (w : World) (X Y : Value) (a b : UInt8) (hX : X = .int .u8 (a.toNat : Int)) (hY : Y = .int .u8 (b.toNat : Int)) :
    (convert 48 9 (.slice (some ⟨w.heap.size, 63, none⟩) 2 2)).run Tryd.prog (w.alloc (.cells ((Tryd.zeroCells117.setIfInBounds 64 X).setIfInBounds 63 Y) 117)) = .ok (.string ⟨#[b, a]⟩) (w.alloc (.cells ((Tryd.zeroCells117.setIfInBounds 64 X).setIfInBounds 63 Y) 117)) := by
  refine convA w _ 63 [b, a] (fun j hj => ?_)
  subst hX hY
  have h0 : j = 0 ∨ j = 1 := by simp at hj; omega
  rcases h0 with rfl | rfl
  · simp [Array.getElem?_setIfInBounds, size65]
  · simp [Array.getElem?_setIfInBounds, size65]
theorem conv4 (w : World) (X Y Z V : Value) (a b c d : UInt8) (hX : X = .int .u8 (a.toNat : Int)) (hY : Y = .int .u8 (b.toNat : Int)) (hZ : Z = .int .u8 (c.toNat : Int)) (hV : V = .int .u8 (d.toNat : Int)) :
    (convert 48 9 (.slice (some ⟨w.heap.size, 61, none⟩) 4 4)).run Tryd.prog (w.alloc (.cells ((((Tryd.zeroCells117.setIfInBounds 64 X).setIfInBounds 63 Y).setIfInBounds 62 Z).setIfInBounds 61 V) 117)) = .ok (.string ⟨#[d, c, b, a]⟩) (w.alloc (.cells ((((Tryd.zeroCells117.setIfInBounds 64 X).setIfInBounds 63 Y).setIfInBounds 62 Z).setIfInBounds 61 V) 117)) := by
  refine convA w _ 61 [d, c, b, a] (fun j hj => ?_)
  subst hX hY hZ hV
  have h0 : j = 0 ∨ j = 1 ∨ j = 2 ∨ j = 3 := by simp at hj; omega
  rcases h0 with rfl | rfl | rfl | rfl
  all_goals simp [Array.getElem?_setIfInBounds, size65]
set_option maxRecDepth 100000 in
set_option maxHeartbeats 4000000 in
theorem fb_133 (w : World) (h : LaidZ w) : Calls Tryd.prog 64 #[.slice none 0 0, .int .u64 133, .int .i64 16, .bool false, .bool false] w fun e w' => e = .returned (.tuple #[.slice none 0 0, .string ⟨#[56, 53]⟩]) ∧ Below w.heap.size w w' := by
  have HP := hide pow2_16
  have HT := hide tz_16
  have HH := hide h
  have hb0 := heap_alloc_new w (.cells Tryd.zeroCells117 117)
  obtain ⟨⟨v64, c64⟩, f64⟩ := a65 _ _ _ _ hb0 64 (by rw [size65]; decide)
  obtain ⟨⟨v63, c63⟩, f63⟩ := a65 _ _ _ _ hb0 63 (by rw [size65]; decide)
  clear h hb0
  go_enter Tryd.func64, Tryd.ntmps64
  go_wp2_with (first | (go_at_call 77; refine (HP.out _).mono ?_; rintro e x ⟨rfl, hx⟩; subst hx) | (go_at_call 78; refine (HT.out _ (HH.out.below ((Below.refl _ _).alloc (Nat.le_refl _) _))).mono ?_; rintro e x ⟨rfl, hx⟩; subst hx))
  refine wp_loop_rounds 3 ?_
  rw [rounds_succ]
  go_wp2
  rw [rounds_succ]
  go_wp2
  rw [conv2 w _ _ 53 56 ?hX ?hY]
  case hX => rfl
  case hY => rfl
  go_wp2
  go_ret2
  exact ⟨rfl, (Below.refl _ _).alloc (Nat.le_refl _) _⟩
set_option maxRecDepth 100000 in
set_option maxHeartbeats 4000000 in
theorem fb_8232 (w : World) (h : LaidZ w) : Calls Tryd.prog 64 #[.slice none 0 0, .int .u64 8232, .int .i64 16, .bool false, .bool false] w fun e w' => e = .returned (.tuple #[.slice none 0 0, .string ⟨#[50, 48, 50, 56]⟩]) ∧ Below w.heap.size w w' := by
  have HP := hide pow2_16
  have HT := hide tz_16
  have HH := hide h
  have hb0 := heap_alloc_new w (.cells Tryd.zeroCells117 117)
  obtain ⟨⟨v64, c64⟩, f64⟩ := a65 _ _ _ _ hb0 64 (by rw [size65]; decide)
  obtain ⟨⟨v63, c63⟩, f63⟩ := a65 _ _ _ _ hb0 63 (by rw [size65]; decide)
  obtain ⟨⟨v62, c62⟩, f62⟩ := a65 _ _ _ _ hb0 62 (by rw [size65]; decide)
  obtain ⟨⟨v61, c61⟩, f61⟩ := a65 _ _ _ _ hb0 61 (by rw [size65]; decide)
  clear h hb0
  go_enter Tryd.func64, Tryd.ntmps64
  go_wp2_with (first | (go_at_call 77; refine (HP.out _).mono ?_; rintro e x ⟨rfl, hx⟩; subst hx) | (go_at_call 78; refine (HT.out _ (HH.out.below ((Below.refl _ _).alloc (Nat.le_refl _) _))).mono ?_; rintro e x ⟨rfl, hx⟩; subst hx))
  refine wp_loop_rounds 5 ?_
  rw [rounds_succ]
  go_wp2
  rw [rounds_succ]
  go_wp2
  rw [rounds_succ]
  go_wp2
  rw [rounds_succ]
  go_wp2
  rw [conv4 w _ _ _ _ 56 50 48 50 ?hX ?hY ?hZ ?hV]
  case hX => rfl
  case hY => rfl
  case hZ => rfl
  case hV => rfl
  go_wp2
  go_ret2
  exact ⟨rfl, (Below.refl _ _).alloc (Nat.le_refl _) _⟩
set_option maxRecDepth 100000 in
set_option maxHeartbeats 4000000 in
theorem fb_8233 (w : World) (h : LaidZ w) : Calls Tryd.prog 64 #[.slice none 0 0, .int .u64 8233, .int .i64 16, .bool false, .bool false] w fun e w' => e = .returned (.tuple #[.slice none 0 0, .string ⟨#[50, 48, 50, 57]⟩]) ∧ Below w.heap.size w w' := by
  have HP := hide pow2_16
  have HT := hide tz_16
  have HH := hide h
  have hb0 := heap_alloc_new w (.cells Tryd.zeroCells117 117)
  obtain ⟨⟨v64, c64⟩, f64⟩ := a65 _ _ _ _ hb0 64 (by rw [size65]; decide)
  obtain ⟨⟨v63, c63⟩, f63⟩ := a65 _ _ _ _ hb0 63 (by rw [size65]; decide)
  obtain ⟨⟨v62, c62⟩, f62⟩ := a65 _ _ _ _ hb0 62 (by rw [size65]; decide)
  obtain ⟨⟨v61, c61⟩, f61⟩ := a65 _ _ _ _ hb0 61 (by rw [size65]; decide)
  clear h hb0
  go_enter Tryd.func64, Tryd.ntmps64
  go_wp2_with (first | (go_at_call 77; refine (HP.out _).mono ?_; rintro e x ⟨rfl, hx⟩; subst hx) | (go_at_call 78; refine (HT.out _ (HH.out.below ((Below.refl _ _).alloc (Nat.le_refl _) _))).mono ?_; rintro e x ⟨rfl, hx⟩; subst hx))
  refine wp_loop_rounds 5 ?_
  rw [rounds_succ]
  go_wp2
  rw [rounds_succ]
  go_wp2
  rw [rounds_succ]
  go_wp2
  rw [rounds_succ]
  go_wp2
  rw [conv4 w _ _ _ _ 57 50 48 50 ?hX ?hY ?hZ ?hV]
  case hX => rfl
  case hY => rfl
  case hZ => rfl
  case hV => rfl
  go_wp2
  go_ret2
  exact ⟨rfl, (Below.refl _ _).alloc (Nat.le_refl _) _⟩
set_option maxRecDepth 100000 in
set_option maxHeartbeats 4000000 in
theorem fi_133 (w : World) (h : LaidZ w) : Calls Tryd.prog 47 #[.int .i64 133, .int .i64 16] w fun e w' => e = .returned (.string ⟨#[56, 53]⟩) ∧ Below w.heap.size w w' := by
  go_enter Tryd.func47, Tryd.ntmps47
  go_wp2_with (go_at_call 64; refine (fb_133 _ h).mono ?_; rintro e x ⟨rfl, hx⟩)
  go_ret
  exact ⟨rfl, hx⟩
set_option maxRecDepth 100000 in
set_option maxHeartbeats 4000000 in
theorem fmt_133 (w : World) (h : LaidZ w) : Calls Tryd.prog 28 #[.int .i64 133, .int .i64 16] w fun e w' => e = .returned (.string ⟨#[56, 53]⟩) ∧ Below w.heap.size w w' := by
  go_enter Tryd.func28, Tryd.ntmps28
  go_wp2_with (go_at_call 47; refine (fi_133 _ h).mono ?_; rintro e x ⟨rfl, hx⟩)
  go_ret
  exact ⟨rfl, hx⟩
set_option maxRecDepth 100000 in
set_option maxHeartbeats 4000000 in
theorem escape_133 (f : Int) (w : World) (h : LaidZ w) : Calls Tryd.prog 23 #[.int .i32 133, .int .u8 f] w fun e w' => e = .returned (.string ⟨#[92, 117, 123, 56, 53, 125]⟩) ∧ Below w.heap.size w w' := by
  go_enter Tryd.func23, Tryd.ntmps23
  go_wp2_with (go_at_call 28; refine (fmt_133 _ h).mono ?_; rintro e x ⟨rfl, hx⟩)
  go_ret
  exact ⟨rfl, hx⟩
set_option maxRecDepth 100000 in
set_option maxHeartbeats 4000000 in
theorem fi_8232 (w : World) (h : LaidZ w) : Calls Tryd.prog 47 #[.int .i64 8232, .int .i64 16] w fun e w' => e = .returned (.string ⟨#[50, 48, 50, 56]⟩) ∧ Below w.heap.size w w' := by
  go_enter Tryd.func47, Tryd.ntmps47
  go_wp2_with (go_at_call 64; refine (fb_8232 _ h).mono ?_; rintro e x ⟨rfl, hx⟩)
  go_ret
  exact ⟨rfl, hx⟩
set_option maxRecDepth 100000 in
set_option maxHeartbeats 4000000 in
theorem fmt_8232 (w : World) (h : LaidZ w) : Calls Tryd.prog 28 #[.int .i64 8232, .int .i64 16] w fun e w' => e = .returned (.string ⟨#[50, 48, 50, 56]⟩) ∧ Below w.heap.size w w' := by
  go_enter Tryd.func28, Tryd.ntmps28
  go_wp2_with (go_at_call 47; refine (fi_8232 _ h).mono ?_; rintro e x ⟨rfl, hx⟩)
  go_ret
  exact ⟨rfl, hx⟩
set_option maxRecDepth 100000 in
set_option maxHeartbeats 4000000 in
theorem escape_8232 (f : Int) (w : World) (h : LaidZ w) : Calls Tryd.prog 23 #[.int .i32 8232, .int .u8 f] w fun e w' => e = .returned (.string ⟨#[92, 117, 123, 50, 48, 50, 56, 125]⟩) ∧ Below w.heap.size w w' := by
  go_enter Tryd.func23, Tryd.ntmps23
  go_wp2_with (go_at_call 28; refine (fmt_8232 _ h).mono ?_; rintro e x ⟨rfl, hx⟩)
  go_ret
  exact ⟨rfl, hx⟩
set_option maxRecDepth 100000 in
set_option maxHeartbeats 4000000 in
theorem fi_8233 (w : World) (h : LaidZ w) : Calls Tryd.prog 47 #[.int .i64 8233, .int .i64 16] w fun e w' => e = .returned (.string ⟨#[50, 48, 50, 57]⟩) ∧ Below w.heap.size w w' := by
  go_enter Tryd.func47, Tryd.ntmps47
  go_wp2_with (go_at_call 64; refine (fb_8233 _ h).mono ?_; rintro e x ⟨rfl, hx⟩)
  go_ret
  exact ⟨rfl, hx⟩
set_option maxRecDepth 100000 in
set_option maxHeartbeats 4000000 in
theorem fmt_8233 (w : World) (h : LaidZ w) : Calls Tryd.prog 28 #[.int .i64 8233, .int .i64 16] w fun e w' => e = .returned (.string ⟨#[50, 48, 50, 57]⟩) ∧ Below w.heap.size w w' := by
  go_enter Tryd.func28, Tryd.ntmps28
  go_wp2_with (go_at_call 47; refine (fi_8233 _ h).mono ?_; rintro e x ⟨rfl, hx⟩)
  go_ret
  exact ⟨rfl, hx⟩
set_option maxRecDepth 100000 in
set_option maxHeartbeats 4000000 in
theorem escape_8233 (f : Int) (w : World) (h : LaidZ w) : Calls Tryd.prog 23 #[.int .i32 8233, .int .u8 f] w fun e w' => e = .returned (.string ⟨#[92, 117, 123, 50, 48, 50, 57, 125]⟩) ∧ Below w.heap.size w w' := by
  go_enter Tryd.func23, Tryd.ntmps23
  go_wp2_with (go_at_call 28; refine (fmt_8233 _ h).mono ?_; rintro e x ⟨rfl, hx⟩)
  go_ret
  exact ⟨rfl, hx⟩
end Go.Proofs.YtmhbhpjpnmggkaaDoor
namespace Go.Proofs.YtmhbhpjpnmggkaaDoor
open Go.Shelf Go.RowKit

def renA_165 : Go.Shelf.Ren := ⟨fun | 165 => 18 | 240 => 45 | 241 => 46 | 276 => 59 | 277 => 60 | n => n, fun | 0 => 0 | 3 => 3 | 4 => 4 | 5 => 5 | 9 => 9 | 20 => 20 | 37 => 48 | 70 => 47 | 72 => 50 | 164 => 97 | n => n, fun  | n => n⟩
theorem lay_Lays_165 : Go.Proofs.Lays.n165 Tryd.prog renA_165 := {
  mixed := by kernel_rfl
  f165 := Tryd.func18.trans (congrArg some (by kernel_rfl))
  f240 := Tryd.func45.trans (congrArg some (by kernel_rfl))
  f241 := Tryd.func46.trans (congrArg some (by kernel_rfl))
  f276 := Tryd.func59.trans (congrArg some (by kernel_rfl))
  f277 := Tryd.func60.trans (congrArg some (by kernel_rfl))
  t0 := Tryd.underlying0
  a0 := Tryd.isAgg0
  z0 := Tryd.sizeOf0
  v0 := Tryd.zeroValue0
  t3 := Tryd.underlying3
  a3 := Tryd.isAgg3
  z3 := Tryd.sizeOf3
  v3 := Tryd.zeroValue3
  t4 := Tryd.underlying4
  a4 := Tryd.isAgg4
  z4 := Tryd.sizeOf4
  v4 := Tryd.zeroValue4
  t9 := Tryd.underlying9
  a9 := Tryd.isAgg9
  z9 := Tryd.sizeOf9
  v9 := Tryd.zeroValue9
  t20 := Tryd.underlying20
  a20 := Tryd.isAgg20
  z20 := Tryd.sizeOf20
  v20 := Tryd.zeroValue20
  t37 := Tryd.underlying48
  a37 := Tryd.isAgg48
  z37 := Tryd.sizeOf48
  v37 := Tryd.zeroValue48
  t70 := Tryd.underlying47
  a70 := Tryd.isAgg47
  z70 := Tryd.sizeOf47
  v70 := Tryd.zeroValue47
  t72 := Tryd.underlying50
  a72 := Tryd.isAgg50
  z72 := Tryd.sizeOf50
  v72 := Tryd.zeroValue50
  t164 := Tryd.underlying97
  a164 := Tryd.isAgg97
  z164 := Tryd.sizeOf97
  v164 := Tryd.zeroValue97 }
def renA_166 : Go.Shelf.Ren := ⟨fun | 166 => 22 | 240 => 45 | 276 => 59 | n => n, fun | 0 => 0 | 3 => 3 | 4 => 4 | 5 => 5 | 9 => 9 | 20 => 20 | 37 => 48 | 70 => 47 | 72 => 50 | 75 => 40 | 80 => 59 | 164 => 97 | n => n, fun  | n => n⟩
theorem lay_Lays_166 : Go.Proofs.Lays.n166 Tryd.prog renA_166 := {
  mixed := by kernel_rfl
  f166 := Tryd.func22.trans (congrArg some (by kernel_rfl))
  f240 := Tryd.func45.trans (congrArg some (by kernel_rfl))
  f276 := Tryd.func59.trans (congrArg some (by kernel_rfl))
  t0 := Tryd.underlying0
  a0 := Tryd.isAgg0
  z0 := Tryd.sizeOf0
  v0 := Tryd.zeroValue0
  t3 := Tryd.underlying3
  a3 := Tryd.isAgg3
  z3 := Tryd.sizeOf3
  v3 := Tryd.zeroValue3
  t4 := Tryd.underlying4
  a4 := Tryd.isAgg4
  z4 := Tryd.sizeOf4
  v4 := Tryd.zeroValue4
  t9 := Tryd.underlying9
  a9 := Tryd.isAgg9
  z9 := Tryd.sizeOf9
  v9 := Tryd.zeroValue9
  t20 := Tryd.underlying20
  a20 := Tryd.isAgg20
  z20 := Tryd.sizeOf20
  v20 := Tryd.zeroValue20
  t37 := Tryd.underlying48
  a37 := Tryd.isAgg48
  z37 := Tryd.sizeOf48
  v37 := Tryd.zeroValue48
  t70 := Tryd.underlying47
  a70 := Tryd.isAgg47
  z70 := Tryd.sizeOf47
  v70 := Tryd.zeroValue47
  t72 := Tryd.underlying50
  a72 := Tryd.isAgg50
  z72 := Tryd.sizeOf50
  v72 := Tryd.zeroValue50
  t75 := Tryd.underlying40
  a75 := Tryd.isAgg40
  z75 := Tryd.sizeOf40
  v75 := Tryd.zeroValue40
  t164 := Tryd.underlying97
  a164 := Tryd.isAgg97
  z164 := Tryd.sizeOf97
  v164 := Tryd.zeroValue97 }
def renA_167 : Go.Shelf.Ren := ⟨fun | 167 => 19 | 240 => 45 | 276 => 59 | n => n, fun | 0 => 0 | 4 => 4 | 5 => 5 | 9 => 9 | 20 => 20 | 37 => 48 | 70 => 47 | 72 => 50 | 75 => 40 | 80 => 59 | 164 => 97 | n => n, fun  | n => n⟩
theorem lay_Lays_167 : Go.Proofs.Lays.n167 Tryd.prog renA_167 := {
  mixed := by kernel_rfl
  f167 := Tryd.func19.trans (congrArg some (by kernel_rfl))
  f240 := Tryd.func45.trans (congrArg some (by kernel_rfl))
  f276 := Tryd.func59.trans (congrArg some (by kernel_rfl))
  t0 := Tryd.underlying0
  a0 := Tryd.isAgg0
  z0 := Tryd.sizeOf0
  v0 := Tryd.zeroValue0
  t4 := Tryd.underlying4
  a4 := Tryd.isAgg4
  z4 := Tryd.sizeOf4
  v4 := Tryd.zeroValue4
  t5 := Tryd.underlying5
  a5 := Tryd.isAgg5
  z5 := Tryd.sizeOf5
  v5 := Tryd.zeroValue5
  t9 := Tryd.underlying9
  a9 := Tryd.isAgg9
  z9 := Tryd.sizeOf9
  v9 := Tryd.zeroValue9
  t20 := Tryd.underlying20
  a20 := Tryd.isAgg20
  z20 := Tryd.sizeOf20
  v20 := Tryd.zeroValue20
  t37 := Tryd.underlying48
  a37 := Tryd.isAgg48
  z37 := Tryd.sizeOf48
  v37 := Tryd.zeroValue48
  t70 := Tryd.underlying47
  a70 := Tryd.isAgg47
  z70 := Tryd.sizeOf47
  v70 := Tryd.zeroValue47
  t72 := Tryd.underlying50
  a72 := Tryd.isAgg50
  z72 := Tryd.sizeOf50
  v72 := Tryd.zeroValue50
  t75 := Tryd.underlying40
  a75 := Tryd.isAgg40
  z75 := Tryd.sizeOf40
  v75 := Tryd.zeroValue40
  t164 := Tryd.underlying97
  a164 := Tryd.isAgg97
  z164 := Tryd.sizeOf97
  v164 := Tryd.zeroValue97 }
def renA_169 : Go.Shelf.Ren := ⟨fun | 169 => 24 | n => n, fun | 0 => 0 | 3 => 3 | 5 => 5 | 9 => 9 | 37 => 48 | 70 => 47 | 72 => 50 | 127 => 86 | n => n, fun  | n => n⟩
theorem lay_Lays_169 : Go.Proofs.Lays.n169 Tryd.prog renA_169 := {
  mixed := by kernel_rfl
  f169 := Tryd.func24.trans (congrArg some (by kernel_rfl))
  t0 := Tryd.underlying0
  a0 := Tryd.isAgg0
  z0 := Tryd.sizeOf0
  v0 := Tryd.zeroValue0
  t3 := Tryd.underlying3
  a3 := Tryd.isAgg3
  z3 := Tryd.sizeOf3
  v3 := Tryd.zeroValue3
  t9 := Tryd.underlying9
  a9 := Tryd.isAgg9
  z9 := Tryd.sizeOf9
  v9 := Tryd.zeroValue9
  t37 := Tryd.underlying48
  a37 := Tryd.isAgg48
  z37 := Tryd.sizeOf48
  v37 := Tryd.zeroValue48
  t70 := Tryd.underlying47
  a70 := Tryd.isAgg47
  z70 := Tryd.sizeOf47
  v70 := Tryd.zeroValue47
  t72 := Tryd.underlying50
  a72 := Tryd.isAgg50
  z72 := Tryd.sizeOf50
  v72 := Tryd.zeroValue50
  t127 := Tryd.underlying86
  a127 := Tryd.isAgg86
  z127 := Tryd.sizeOf86
  v127 := Tryd.zeroValue86 }
def renA_170 : Go.Shelf.Ren := ⟨fun | 170 => 31 | n => n, fun | 0 => 0 | 3 => 3 | 5 => 5 | 37 => 48 | 70 => 47 | 72 => 50 | n => n, fun  | n => n⟩
theorem lay_Lays_170 : Go.Proofs.Lays.n170 Tryd.prog renA_170 := {
  mixed := by kernel_rfl
  f170 := Tryd.func31.trans (congrArg some (by kernel_rfl))
  t0 := Tryd.underlying0
  a0 := Tryd.isAgg0
  z0 := Tryd.sizeOf0
  v0 := Tryd.zeroValue0
  t3 := Tryd.underlying3
  a3 := Tryd.isAgg3
  z3 := Tryd.sizeOf3
  v3 := Tryd.zeroValue3
  t37 := Tryd.underlying48
  a37 := Tryd.isAgg48
  z37 := Tryd.sizeOf48
  v37 := Tryd.zeroValue48
  t70 := Tryd.underlying47
  a70 := Tryd.isAgg47
  z70 := Tryd.sizeOf47
  v70 := Tryd.zeroValue47
  t72 := Tryd.underlying50
  a72 := Tryd.isAgg50
  z72 := Tryd.sizeOf50
  v72 := Tryd.zeroValue50 }
theorem extraA_165 : Builder.Extra Tryd.prog renA_165 := {
  sizeBuilder := by kernel_rfl
  liesBuilder := by kernel_rfl
  t5 := Tryd.underlying5
  a5 := Tryd.isAgg5
  z5 := Tryd.sizeOf5
  v5 := Tryd.zeroValue5
  infoByte := by kernel_rfl
  cellsByte := by kernel_rfl
  sizeByte := by kernel_rfl
  neB5 := by decide }
theorem extraA_166 : Builder.Extra Tryd.prog renA_166 := {
  sizeBuilder := by kernel_rfl
  liesBuilder := by kernel_rfl
  t5 := Tryd.underlying5
  a5 := Tryd.isAgg5
  z5 := Tryd.sizeOf5
  v5 := Tryd.zeroValue5
  infoByte := by kernel_rfl
  cellsByte := by kernel_rfl
  sizeByte := by kernel_rfl
  neB5 := by decide }
theorem extraA_167 : Builder.Extra Tryd.prog renA_167 := {
  sizeBuilder := by kernel_rfl
  liesBuilder := by kernel_rfl
  t5 := Tryd.underlying5
  a5 := Tryd.isAgg5
  z5 := Tryd.sizeOf5
  v5 := Tryd.zeroValue5
  infoByte := by kernel_rfl
  cellsByte := by kernel_rfl
  sizeByte := by kernel_rfl
  neB5 := by decide }
theorem extraA_169 : Builder.Extra Tryd.prog renA_169 := {
  sizeBuilder := by kernel_rfl
  liesBuilder := by kernel_rfl
  t5 := Tryd.underlying5
  a5 := Tryd.isAgg5
  z5 := Tryd.sizeOf5
  v5 := Tryd.zeroValue5
  infoByte := by kernel_rfl
  cellsByte := by kernel_rfl
  sizeByte := by kernel_rfl
  neB5 := by decide }
/-- A Builder that holds these bytes. -/
def Bd8 (B b : Nat) (l : List UInt8) (w : World) : Prop := Lib.IsBuilderF 50 5 B b (Lib.byteCells l) w
theorem bwriteByte (B b : Nat) (l : List UInt8) (c : UInt8) (w : World) (h : Bd8 B b l w) (hlen : l.length + 1 ≤ 140737488355328) (hBw : B ≤ w.heap.size) :
    Calls Tryd.prog 19 #[.pointer (some ⟨b, 0, none⟩), .int .u8 (c.toNat : Int)] w fun e w' => e = .returned (.nilIface) ∧ Bd8 B b (l ++ [c]) w' ∧ Below B w w' := by
  refine (Any.Builder_WriteByte_k lay_Lays_167 extraA_167 B b _ _ w h (by simpa [Lib.byteCells] using hlen) hBw).mono ?_
  rintro e w' ⟨rfl, h1, h2, h3⟩
  refine ⟨rfl, ?_, h2⟩
  have e1 : Lib.byteCells (l ++ [c]) = Lib.byteCells l ++ [.int .u8 (c.toNat : Int)] := by rw [Lib.byteCells_append]; rfl
  unfold Bd8
  rw [e1]
  exact .inr h1
theorem bwriteString (B b : Nat) (l : List UInt8) (s : ByteArray) (w : World) (h : Bd8 B b l w) (hlen : l.length + s.size ≤ 140737488355328) (hBw : B ≤ w.heap.size) :
    Calls Tryd.prog 22 #[.pointer (some ⟨b, 0, none⟩), .string s] w fun e w' => (∃ v, e = .returned v) ∧ Bd8 B b (l ++ s.data.toList) w' ∧ Below B w w' := by
  refine (Any.Builder_WriteString_k lay_Lays_166 extraA_166 B b _ s w h (by simpa [Lib.byteCells] using hlen) hBw).mono ?_
  rintro e w' ⟨rfl, h1, h2, h3⟩
  refine ⟨⟨_, rfl⟩, ?_, h2⟩
  unfold Bd8
  rw [Lib.byteCells_append]
  exact .inr h1
theorem bstring (B b : Nat) (l : List UInt8) (w : World) (h : Bd8 B b l w) (hBw : B ≤ w.heap.size) :
    Calls Tryd.prog 24 #[.pointer (some ⟨b, 0, none⟩)] w fun e w' => e = .returned (.string ⟨l.toArray⟩) ∧ Bd8 B b l w' ∧ Below B w w' := by
  refine (Any.Builder_String_any_k lay_Lays_169 extraA_169 B b l w h hBw).mono ?_
  rintro e w' ⟨rfl, h1, h2, h3⟩
  exact ⟨rfl, h1, h2⟩
theorem blen (B b : Nat) (l : List UInt8) (w : World) (h : Bd8 B b l w) :
    Calls Tryd.prog 31 #[.pointer (some ⟨b, 0, none⟩)] w fun e w' => e = .returned (.int .i64 (l.length : Int)) ∧ w' = w := by
  refine (Any.Builder_Len_f lay_Lays_170 B b _ w h).mono ?_
  rintro e w' ⟨rfl, rfl⟩
  exact ⟨by simp [Lib.byteCells], rfl⟩
theorem bgrow (B b n : Nat) (w : World) (hB : B ≤ b) (hbk : w.heap[b]? = some (.cells #[.pointer none, .slice none 0 0] 50 (0, 0))) (hBw : B ≤ w.heap.size) (hn : n ≤ 281474976710656) :
    Calls Tryd.prog 18 #[.pointer (some ⟨b, 0, none⟩), .int .i64 n] w fun e w' => e = .returned (.tuple #[]) ∧ Bd8 B b [] w' ∧ Below B w w' := by
  refine (Any.Builder_Grow_fresh lay_Lays_165 extraA_165 B b n w hB hbk hBw hn).mono ?_
  rintro e w' ⟨rfl, h1, h2⟩
  exact ⟨rfl, .inr (Lib.BuilderAtF.of h1), h2⟩
theorem bfresh (w : World) : Bd8 w.heap.size w.heap.size [] (w.alloc (.cells #[.pointer none, .slice none 0 0] 50)) :=
  .inl ⟨Nat.le_refl _, _, heap_alloc_new w _, World.ownsRowF_of (World.ownsRow_nil _ _ _ _), by simp [Value.ownBlock]⟩
end Go.Proofs.YtmhbhpjpnmggkaaDoor
namespace Go.Proofs.YtmhbhpjpnmggkaaDoor
open Go.RowKit Go.Shelf
set_option linter.unusedVariables false

theorem Bd8.low {B nb : Nat} {l : List UInt8} {w w' : World} (h : Bd8 B nb l w) (hk : ∀ j, B ≤ j → j < w.heap.size → w'.heap[j]? = w.heap[j]?) : Bd8 B nb l w' := by
  rcases h with h | h
  · obtain ⟨hB, v, hb, hown, hne⟩ := h
    refine .inl ⟨hB, v, (hk nb hB (Array.getElem?_eq_some_iff.1 hb).1).trans hb, ⟨hown.1, ?_⟩, hne⟩
    rcases hown.2 with hn | ⟨g, cap, cur, fz, hv, hbg, hg, rest⟩
    · exact .inl hn
    · exact .inr ⟨g, cap, cur, fz, hv, hbg, (hk g hbg (Array.getElem?_eq_some_iff.1 hg).1).trans hg, rest⟩
  · obtain ⟨hB, v, hb, hown, hne⟩ := h
    refine .inr ⟨hB, v, (hk nb hB (Array.getElem?_eq_some_iff.1 hb).1).trans hb, ⟨hown.1, ?_⟩, hne⟩
    rcases hown.2 with hn | ⟨g, cap, cur, fz, hv, hbg, hg, rest⟩
    · exact .inl hn
    · exact .inr ⟨g, cap, cur, fz, hv, hbg, (hk g hbg (Array.getElem?_eq_some_iff.1 hg).1).trans hg, rest⟩
theorem Bd8.grown {B nb b : Nat} {l : List UInt8} {w w' : World} (h : Bd8 B nb l w) (hb : b < B) (g : w.grownBy w' (some b)) : Bd8 B nb l w' :=
  h.low (fun j hj hl => g.block j hl (fun e => by cases e; omega))
theorem Bd8.below {B nb : Nat} {l : List UInt8} {w w' : World} (h : Bd8 B nb l w) (g : Below w.heap.size w w') : Bd8 B nb l w' :=
  h.low (fun j hj hl => g.block j hl)
theorem grown_below {w x y : World} {r : Option Nat} {B : Nat} (h : w.grownBy x r) (hB : w.heap.size ≤ B) (k : Below B x y) : w.grownBy y r :=
  ⟨k.os.trans h.os, k.tape.trans h.tape, k.output.trans h.output, Nat.le_trans h.size k.size, fun j hj hr => (k.block j (by omega)).trans (h.block j hj hr)⟩
theorem Rd.below {w x : World} {b B : Nat} {s : ByteArray} {p : Nat} (h : Rd w b s p) (hb : b < B) (k : Below B w x) : Rd x b s p := (k.block b hb).trans h
theorem mix_then {c rest : Code} {P : Program} {Q : Exit → Act → World → Prop} {J : Act → World → Prop} {K : Act → World → Prop} {n l : Nat} {a : Act} {w : World} (hf : findLabel c (l + 1) = some rest) (h : rest.wp P (jumpA (mixJ c P Q J n) Q) a w) : Exit.then K (jumpA (mixJ c P Q J (n + 1)) Q) (.goto (l + 1)) a w := ⟨rest, hf, h⟩
theorem mix_zero {c : Code} {P : Program} {Q : Exit → Act → World → Prop} {J : Act → World → Prop} {K : Act → World → Prop} {n : Nat} {a : Act} {w : World} (h : J a w) : Exit.then K (jumpA (mixJ c P Q J n) Q) (.goto 0) a w := by
  show mixJ c P Q J n 0 a w
  cases n <;> (unfold mixJ; exact h)
theorem wp_scope_mixR {P : Program} {a : Act} {w : World} {Q : Exit → Act → World → Prop} {c R : Code} (n : Nat) (J : Act → World → Prop) (μ : Act → World → Nat) (hf0 : findLabel c 0 = some (Code.skip.seq R))
    (pass : ∀ a w, J a w → R.wp P (jumpA (mixJ c P Q (fun a' w' => J a' w' ∧ μ a' w' < μ a w) n) Q) a w)
    (first : (∀ a w, J a w → R.wp P (jumpA (mixJ c P Q J n) Q) a w) → c.wp P (jumpA (mixJ c P Q J n) Q) a w) : (Code.scope c).wp P Q a w := by
  refine wp_scope_mix n J μ hf0 (fun a w hJ => wp_seq (wp_skip (pass a w hJ))) (fun _ => first ?_)
  exact fun a w hJ => Code.wp_mono (jumpA_mono (mixJ_mono (fun _ _ h => h.1) n)) (pass a w hJ)
theorem Rd.lt {w : World} {b : Nat} {s : ByteArray} {p : Nat} (h : Rd w b s p) : b < w.heap.size := (Array.getElem?_eq_some_iff.1 h).1
/-- What holds at each part of a quoted text. -/
def QJ (w : World) (b : Nat) (s : ByteArray) (p : Nat) (T : List UInt8 × Nat × Bool) (a : Act) (wr : World) : Prop :=
  ∃ t1 t5 t6 t7 t8 t9 t10 t11 t12 t13 t14 t15 t16 t17 t18 t19 t20 t21 t22 t23 t24 t25 t26 t27 t28 t29 t30 t31 t32 t33 t34 t35 t36 t37 t38 t39 t40 t41 t42 t43 t44 t45 t46 t47 t48 t49 t50 t51 t52 t53 t54 t55 t56 t57 t58 t59 t60 t61 t62 t63 t64 t65 t66 t67 t68 t69 t70 t71 t72 t73 t74 t75 t76 t77 t78 t79 t80 t81 t82 t83 : Value, a = { tmps := #[.pointer (some ⟨b, 0, none⟩), t1, .string ⟨#[]⟩, .bool false, .pointer (some ⟨w.heap.size, 0, none⟩), t5, t6, t7, t8, t9, t10, t11, t12, t13, t14, t15, t16, t17, t18, t19, t20, t21, t22, t23, t24, t25, t26, t27, t28, t29, t30, t31, t32, t33, t34, t35, t36, t37, t38, t39, t40, t41, t42, t43, t44, t45, t46, t47, t48, t49, t50, t51, t52, t53, t54, t55, t56, t57, t58, t59, t60, t61, t62, t63, t64, t65, t66, t67, t68, t69, t70, t71, t72, t73, t74, t75, t76, t77, t78, t79, t80, t81, t82, t83], defers := [] } ∧
    ∃ (q : Nat) (acc : List UInt8), p ≤ q ∧ q ≤ s.size ∧ acc.length ≤ q ∧ T = (acc ++ (Qt ((bl s).drop q)).1, q - p + (Qt ((bl s).drop q)).2.1, (Qt ((bl s).drop q)).2.2) ∧
      Rd wr b s q ∧ Bd8 w.heap.size w.heap.size acc wr ∧ w.grownBy wr (some b)
set_option maxRecDepth 100000 in
set_option maxHeartbeats 8000000 in
theorem quoted_any (b : Nat) (s : ByteArray) (p : Nat) (w : World) (h : Rd w b s p) (hp : p ≤ s.size) (hs : s.size ≤ 140737488355328) :
    Calls Tryd.prog 39 #[.pointer (some ⟨b, 0, none⟩)] w fun e w' => e = .returned (.tuple #[.string (if (Qt ((bl s).drop p)).2.2 = true then ⟨(Qt ((bl s).drop p)).1.toArray⟩ else ⟨#[]⟩), .bool (Qt ((bl s).drop p)).2.2]) ∧ Rd w' b s (p + (Qt ((bl s).drop p)).2.1) ∧ w.grownBy w' (some b) := by
  have hb : b < w.heap.size := h.lt
  have hT0 : Qt ((bl s).drop p) = Qt ((bl s).drop p) := rfl
  generalize hTT : Qt ((bl s).drop p) = TT at hT0 ⊢
  obtain ⟨T, E, ok⟩ := TT
  simp only
  clear hT0
  go_enter Tryd.func39, Tryd.ntmps39
  go_wp2_with (fail)
  refine wp_scope_mixR 3 (QJ w b s p (T, E, ok)) (fun _ wr => s.size - (intOf ((wr.cell? ⟨b, 1, none⟩).getD undef)).toNat) rfl ?_ ?_
  · intro a wr hJ
    obtain ⟨t1, t5, t6, t7, t8, t9, t10, t11, t12, t13, t14, t15, t16, t17, t18, t19, t20, t21, t22, t23, t24, t25, t26, t27, t28, t29, t30, t31, t32, t33, t34, t35, t36, t37, t38, t39, t40, t41, t42, t43, t44, t45, t46, t47, t48, t49, t50, t51, t52, t53, t54, t55, t56, t57, t58, t59, t60, t61, t62, t63, t64, t65, t66, t67, t68, t69, t70, t71, t72, t73, t74, t75, t76, t77, t78, t79, t80, t81, t82, t83, rfl, q, acc, hpq, hqs, hal, hQ, hR, hBd, hG⟩ := hJ
    have HR := hide hR
    have HBd := hide hBd
    have HG := hide hG
    have HQ := hide hQ
    have hl0 : (0 < ((bl s).drop q).length ∧ by' ((bl s).drop q) 0 = 34) ↔ (q < s.size ∧ by' (bl s) q = 34) := by
      rw [List.length_drop, bl_len, by'_drop, Nat.add_zero]
      constructor
      · exact fun h => ⟨by omega, h.2⟩
      · exact fun h => ⟨by omega, h.2⟩
    have hmu : s.size - (intOf ((wr.cell? ⟨b, 1, none⟩).getD undef)).toNat = s.size - q := by rw [hR.at]; simp [intOf]
    rw [hmu]
    clear hR hBd hG hQ hmu
    by_cases c34 : q < s.size ∧ by' (bl s) q = 34
    · have e34 : isAt s q 34 = true := by unfold isAt; rw [← Bool.decide_and]; exact decide_eq_true c34
      have hQ := HQ.out
      rw [Qt_close (hl0.2 c34)] at hQ
      simp only [Prod.mk.injEq, List.append_nil] at hQ
      have HQ2 := hide hQ
      have HR0 := HR
      clear hQ hl0
      go_wp2_with (first | (go_at_call 38; refine (takes_yes b s q 34 _ HR0.out hqs hs e34).mono ?_; rintro e x ⟨rfl, hRx, hgx⟩; have HRX := hide hRx; have HGX := hide (grown_trans HG.out hgx); have HBX := hide (HBd.out.grown hb hgx); clear hRx hgx HR0) | (go_at_call 24; refine (bstring _ _ acc _ HBX.out HGX.out.size).mono ?_; rintro e y ⟨rfl, hBy, hby⟩; have HRY := hide (HRX.out.below hb hby); have HGY := hide (grown_below HGX.out (Nat.le_refl _) hby); clear hBy hby HBX))
      rw [jumpA_ret]
      go_ret2
      obtain ⟨hT, hE, hO⟩ := HQ2.out
      refine ⟨by rw [hT, hO]; rfl, ?_, HGY.out⟩
      rw [show p + E = q + 1 by omega]
      exact HRY.out
    have e34 : isAt s q 34 = false := by unfold isAt; rw [← Bool.decide_and]; exact decide_eq_false c34
    have n34 := fun h => c34 (hl0.1 h)
    have hxs : (s.extract q s.size).size ≤ 9223372036854775807 := by rw [ByteArray.size_extract]; omega
    have kf := fun W => first_any (s.extract q s.size) W hxs
    rw [bl_from] at kf
    obtain ⟨c, wd, r, hF⟩ : ∃ c wd r, firstV ((bl s).drop q) = (c, wd, r) := ⟨_, _, _, rfl⟩
    rw [hF] at kf
    simp only at kf
    have KF := hide kf
    clear kf hl0 hxs
    have HR0 := HR
    go_wp2_with (first | (go_at_call 38; refine (takes_no b s q 34 _ HR0.out hqs hs e34).mono ?_; rintro e x ⟨rfl, hRx, hgx⟩; have HRX := hide hRx; have HGX := hide (grown_trans HG.out hgx); have HBX := hide (HBd.out.grown hb hgx); clear hRx hgx HR0))
    refine Go.wp_mono (Q := noPanS _) ?_ noPanS_le
    refine wp_region_held_drew (S := fun W => Rd W b s q) (by kernel_rfl) HRX.out (fun hS => ?_)
    refine wpAnyH_take (i := 0) (v := .pointer (some ⟨b, 0, none⟩)) rfl (by kernel_rfl) (by kernel_rfl) (by kernel_rfl) (fun _ _ _ h => h) (Or.inl ⟨by kernel_rfl, fun w' hw => by (have z0 := Rd.text hw; have z1 := Rd.at hw; clear hw; go_simp)⟩) hS ?_
    refine wpAnyH_take (i := 1) (v := .pointer (some ⟨b, 0, none⟩)) rfl (by kernel_rfl) (by kernel_rfl) (by kernel_rfl) (fun _ _ _ h => h) (Or.inl ⟨by kernel_rfl, fun w' hw => by (have z0 := Rd.text hw; have z1 := Rd.at hw; clear hw; go_simp)⟩) hS ?_
    refine wpAnyH_take (i := 2) (v := .pointer (some ⟨b, 0, none⟩)) rfl (by kernel_rfl) (by kernel_rfl) (by kernel_rfl) (fun _ _ _ h => h) (Or.inl ⟨by kernel_rfl, fun w' hw => by (have z0 := Rd.text hw; have z1 := Rd.at hw; clear hw; go_simp)⟩) hS ?_
    refine wpAnyH_take (i := 3) (v := .string s) rfl (by kernel_rfl) (by kernel_rfl) (by kernel_rfl) (fun _ _ _ h => h) (Or.inl ⟨by kernel_rfl, fun w' hw => by (have z0 := Rd.text hw; have z1 := Rd.at hw; clear hw; go_simp)⟩) hS ?_
    refine wpAnyH_take (i := 4) (v := .pointer (some ⟨b, 0, none⟩)) rfl (by kernel_rfl) (by kernel_rfl) (by kernel_rfl) (fun _ _ _ h => h) (Or.inl ⟨by kernel_rfl, fun w' hw => by (have z0 := Rd.text hw; have z1 := Rd.at hw; clear hw; go_simp)⟩) hS ?_
    refine wpAnyH_take (i := 5) (v := .pointer (some ⟨b, 0, none⟩)) rfl (by kernel_rfl) (by kernel_rfl) (by kernel_rfl) (fun _ _ _ h => h) (Or.inl ⟨by kernel_rfl, fun w' hw => by (have z0 := Rd.text hw; have z1 := Rd.at hw; clear hw; go_simp)⟩) hS ?_
    refine wpAnyH_take (i := 6) (v := .pointer (some ⟨b, 1, none⟩)) rfl (by kernel_rfl) (by kernel_rfl) (by kernel_rfl) (fun _ _ _ h => h) (Or.inl ⟨by kernel_rfl, fun w' hw => by (have z0 := Rd.text hw; have z1 := Rd.at hw; clear hw; go_simp)⟩) hS ?_
    refine wpAnyH_take (i := 7) (v := .int .i64 (q : Int)) rfl (by kernel_rfl) (by kernel_rfl) (by kernel_rfl) (fun _ _ _ h => h) (Or.inl ⟨by kernel_rfl, fun w' hw => by (have z0 := Rd.text hw; have z1 := Rd.at hw; clear hw; go_simp)⟩) hS ?_
    refine wpAnyH_take (i := 8) (v := .string (s.extract q s.size)) rfl (by kernel_rfl) (by kernel_rfl) (by kernel_rfl) (fun _ _ _ h => h) (Or.inl ⟨by kernel_rfl, fun w' hw => by (have z0 := Rd.text hw; have z1 := Rd.at hw; clear hw; go_simp)⟩) hS ?_
    refine wpAnyH_ready (rs := [9]) (by kernel_rfl) (by simp) ?_
    refine AllReadyH.cons rfl (fun K hK => ?_) AllReadyH.nil
    rw [if_pos (by kernel_rfl)]
    go_simp
    go_wp2_with (go_at_call 20; refine (KF.out _).mono ?_; rintro e y ⟨rfl, hby⟩)
    have hby' : Below x.heap.size x y := bseq (Below.refl x.heap.size x).drew hby
    have hS2 : Rd y b s q := HRX.out.below HRX.out.lt hby'
    have HRY := hide hS2
    have HGY := hide (grown_below HGX.out HGX.out.size hby')
    have HBY := hide (HBX.out.below hby')
    refine hK.out _ _ hS2 (fun _ => ?_)
    clear hK K hby hby'
    refine wpAnyH_take (i := 10) (v := .tuple #[.int .i32 c, .int .i64 wd, .bool r]) rfl (by kernel_rfl) (by kernel_rfl) (by kernel_rfl) (fun _ _ _ h => h) (Or.inl ⟨by kernel_rfl, fun w' hw => by (have z0 := Rd.text hw; have z1 := Rd.at hw; clear hw; go_simp)⟩) hS2 ?_
    refine wpAnyH_take (i := 11) (v := .int .i32 c) rfl (by kernel_rfl) (by kernel_rfl) (by kernel_rfl) (fun _ _ _ h => h) (Or.inl ⟨by kernel_rfl, fun w' hw => by (have z0 := Rd.text hw; have z1 := Rd.at hw; clear hw; go_simp)⟩) hS2 ?_
    refine wpAnyH_take (i := 12) (v := .int .i64 wd) rfl (by kernel_rfl) (by kernel_rfl) (by kernel_rfl) (fun _ _ _ h => h) (Or.inl ⟨by kernel_rfl, fun w' hw => by (have z0 := Rd.text hw; have z1 := Rd.at hw; clear hw; go_simp)⟩) hS2 ?_
    refine wpAnyH_take (i := 13) (v := .bool r) rfl (by kernel_rfl) (by kernel_rfl) (by kernel_rfl) (fun _ _ _ h => h) (Or.inl ⟨by kernel_rfl, fun w' hw => by (have z0 := Rd.text hw; have z1 := Rd.at hw; clear hw; go_simp)⟩) hS2 ?_
    refine wpAnyH_take (i := 14) (v := .int .i32 c) rfl (by kernel_rfl) (by kernel_rfl) (by kernel_rfl) (fun _ _ _ h => h) (Or.inl ⟨by kernel_rfl, fun w' hw => by (have z0 := Rd.text hw; have z1 := Rd.at hw; clear hw; go_simp)⟩) hS2 ?_
    refine wpAnyH_take (i := 15) (v := .int .i64 wd) rfl (by kernel_rfl) (by kernel_rfl) (by kernel_rfl) (fun _ _ _ h => h) (Or.inl ⟨by kernel_rfl, fun w' hw => by (have z0 := Rd.text hw; have z1 := Rd.at hw; clear hw; go_simp)⟩) hS2 ?_
    refine wpAnyH_take (i := 16) (v := .bool r) rfl (by kernel_rfl) (by kernel_rfl) (by kernel_rfl) (fun _ _ _ h => h) (Or.inl ⟨by kernel_rfl, fun w' hw => by (have z0 := Rd.text hw; have z1 := Rd.at hw; clear hw; go_simp)⟩) hS2 ?_
    refine wpAnyH_done (by kernel_rfl) (noPanS_normal ?_) _
    try simp only [Act.put, List.getElem_toArray, List.getElem_cons_zero, List.getElem_cons_succ, List.setIfInBounds_toArray, List.set_cons_zero, List.set_cons_succ]
    by_cases hc : c = 92
    · subst hc
      have hlp : 1 ≤ (s.extract q s.size).size := by
        rw [ByteArray.size_extract]
        by_cases e : q < s.size
        · omega
        · have e2 : (bl s).drop q = [] := List.drop_eq_nil_of_le (by rw [bl_len]; omega)
          rw [e2] at hF
          simp [firstV] at hF
      have kes := fun W => escaped_any (s.extract q s.size) W hlp (by rw [ByteArray.size_extract]; omega)
      rw [bl_from] at kes
      obtain ⟨X, n, hX⟩ : ∃ X n, escL ((bl s).drop q) = (X, n) := ⟨_, _, rfl⟩
      rw [hX] at kes
      simp only at kes
      have KES := hide kes
      clear kes
      by_cases hn : n = 0
      · subst hn
        have hQ := HQ.out
        rw [Qt_none n34 (by rw [hF]) (by rw [hX])] at hQ
        simp only [Prod.mk.injEq, List.append_nil, Nat.add_zero] at hQ
        have HQ2 := hide hQ
        clear hQ HQ
        go_wp2_with (fail)
        go_step3
        first | refine mix_then rfl ?_ | refine mix_zero ?_
        go_wp2_with (fail)
        refine Go.wp_mono (Q := noPanS _) ?_ noPanS_le
        refine wp_region_held_drew (S := fun W => Rd W b s q) (by kernel_rfl) HRY.out (fun hS => ?_)
        refine wpAnyH_take (i := 0) (v := .pointer (some ⟨b, 0, none⟩)) rfl (by kernel_rfl) (by kernel_rfl) (by kernel_rfl) (fun _ _ _ h => h) (Or.inl ⟨by kernel_rfl, fun w' hw => by (have z0 := Rd.text hw; have z1 := Rd.at hw; clear hw; go_simp)⟩) hS ?_
        refine wpAnyH_take (i := 1) (v := .pointer (some ⟨b, 0, none⟩)) rfl (by kernel_rfl) (by kernel_rfl) (by kernel_rfl) (fun _ _ _ h => h) (Or.inl ⟨by kernel_rfl, fun w' hw => by (have z0 := Rd.text hw; have z1 := Rd.at hw; clear hw; go_simp)⟩) hS ?_
        refine wpAnyH_take (i := 2) (v := .pointer (some ⟨b, 0, none⟩)) rfl (by kernel_rfl) (by kernel_rfl) (by kernel_rfl) (fun _ _ _ h => h) (Or.inl ⟨by kernel_rfl, fun w' hw => by (have z0 := Rd.text hw; have z1 := Rd.at hw; clear hw; go_simp)⟩) hS ?_
        refine wpAnyH_take (i := 3) (v := .string s) rfl (by kernel_rfl) (by kernel_rfl) (by kernel_rfl) (fun _ _ _ h => h) (Or.inl ⟨by kernel_rfl, fun w' hw => by (have z0 := Rd.text hw; have z1 := Rd.at hw; clear hw; go_simp)⟩) hS ?_
        refine wpAnyH_take (i := 4) (v := .pointer (some ⟨b, 0, none⟩)) rfl (by kernel_rfl) (by kernel_rfl) (by kernel_rfl) (fun _ _ _ h => h) (Or.inl ⟨by kernel_rfl, fun w' hw => by (have z0 := Rd.text hw; have z1 := Rd.at hw; clear hw; go_simp)⟩) hS ?_
        refine wpAnyH_take (i := 5) (v := .pointer (some ⟨b, 0, none⟩)) rfl (by kernel_rfl) (by kernel_rfl) (by kernel_rfl) (fun _ _ _ h => h) (Or.inl ⟨by kernel_rfl, fun w' hw => by (have z0 := Rd.text hw; have z1 := Rd.at hw; clear hw; go_simp)⟩) hS ?_
        refine wpAnyH_take (i := 6) (v := .pointer (some ⟨b, 1, none⟩)) rfl (by kernel_rfl) (by kernel_rfl) (by kernel_rfl) (fun _ _ _ h => h) (Or.inl ⟨by kernel_rfl, fun w' hw => by (have z0 := Rd.text hw; have z1 := Rd.at hw; clear hw; go_simp)⟩) hS ?_
        refine wpAnyH_take (i := 7) (v := .int .i64 (q : Int)) rfl (by kernel_rfl) (by kernel_rfl) (by kernel_rfl) (fun _ _ _ h => h) (Or.inl ⟨by kernel_rfl, fun w' hw => by (have z0 := Rd.text hw; have z1 := Rd.at hw; clear hw; go_simp)⟩) hS ?_
        refine wpAnyH_take (i := 8) (v := .string (s.extract q s.size)) rfl (by kernel_rfl) (by kernel_rfl) (by kernel_rfl) (fun _ _ _ h => h) (Or.inl ⟨by kernel_rfl, fun w' hw => by (have z0 := Rd.text hw; have z1 := Rd.at hw; clear hw; go_simp)⟩) hS ?_
        refine wpAnyH_ready (rs := [9]) (by kernel_rfl) (by simp) ?_
        refine AllReadyH.cons rfl (fun K hK => ?_) AllReadyH.nil
        rw [if_pos (by kernel_rfl)]
        go_simp
        go_wp2_with (go_at_call 58; refine (KES.out _).mono ?_; rintro e z ⟨rfl, hbz⟩)
        have hbz' : Below y.heap.size y z := bseq (Below.refl y.heap.size y).drew hbz
        have hS3 : Rd z b s q := HRY.out.below HRY.out.lt hbz'
        have HRZ := hide hS3
        have HGZ := hide (grown_below HGY.out HGY.out.size hbz')
        have HBZ := hide (HBY.out.below hbz')
        refine hK.out _ _ hS3 (fun _ => ?_)
        clear hK K hbz hbz'
        refine wpAnyH_take (i := 10) (v := .tuple #[.string ⟨X.toArray⟩, .int .i64 0]) rfl (by kernel_rfl) (by kernel_rfl) (by kernel_rfl) (fun _ _ _ h => h) (Or.inl ⟨by kernel_rfl, fun w' hw => by (have z0 := Rd.text hw; have z1 := Rd.at hw; clear hw; go_simp)⟩) hS3 ?_
        refine wpAnyH_take (i := 11) (v := .string ⟨X.toArray⟩) rfl (by kernel_rfl) (by kernel_rfl) (by kernel_rfl) (fun _ _ _ h => h) (Or.inl ⟨by kernel_rfl, fun w' hw => by (have z0 := Rd.text hw; have z1 := Rd.at hw; clear hw; go_simp)⟩) hS3 ?_
        refine wpAnyH_take (i := 12) (v := .int .i64 0) rfl (by kernel_rfl) (by kernel_rfl) (by kernel_rfl) (fun _ _ _ h => h) (Or.inl ⟨by kernel_rfl, fun w' hw => by (have z0 := Rd.text hw; have z1 := Rd.at hw; clear hw; go_simp)⟩) hS3 ?_
        refine wpAnyH_take (i := 13) (v := .string ⟨X.toArray⟩) rfl (by kernel_rfl) (by kernel_rfl) (by kernel_rfl) (fun _ _ _ h => h) (Or.inl ⟨by kernel_rfl, fun w' hw => by (have z0 := Rd.text hw; have z1 := Rd.at hw; clear hw; go_simp)⟩) hS3 ?_
        refine wpAnyH_take (i := 14) (v := .int .i64 0) rfl (by kernel_rfl) (by kernel_rfl) (by kernel_rfl) (fun _ _ _ h => h) (Or.inl ⟨by kernel_rfl, fun w' hw => by (have z0 := Rd.text hw; have z1 := Rd.at hw; clear hw; go_simp)⟩) hS3 ?_
        refine wpAnyH_done (by kernel_rfl) (noPanS_normal ?_) _
        try simp only [Act.put, List.getElem_toArray, List.getElem_cons_zero, List.getElem_cons_succ, List.setIfInBounds_toArray, List.set_cons_zero, List.set_cons_succ]
        go_wp2_with (fail)
        go_step3
        first | refine mix_then rfl ?_ | refine mix_zero ?_
        go_wp2_with (fail)
        rw [jumpA_ret]
        go_ret2
        obtain ⟨hT, hE, hO⟩ := HQ2.out
        refine ⟨by rw [hO]; rfl, ?_, HGZ.out⟩
        rw [show p + E = q by omega]
        exact HRZ.out
      · have hQ := HQ.out
        rw [Qt_esc n34 (by rw [hF]) (by rw [hX]; exact hn)] at hQ
        rw [hX, List.drop_drop] at hQ
        have HQ2 := hide hQ
        have hXs := escL_small ((bl s).drop q)
        rw [hX, List.length_drop, bl_len] at hXs
        have hwl : acc.length + (⟨X.toArray⟩ : ByteArray).size ≤ 140737488355328 := by
          have : (⟨X.toArray⟩ : ByteArray).size = X.length := by simp [ByteArray.size]
          simp only at hXs
          omega
        simp only at hXs
        have hn0 : ((n : Int) == 0) = false := beq_eq_false_iff_ne.2 (by omega)
        clear hQ HQ
        go_wp2_with (fail)
        go_step3
        first | refine mix_then rfl ?_ | refine mix_zero ?_
        go_wp2_with (fail)
        refine Go.wp_mono (Q := noPanS _) ?_ noPanS_le
        refine wp_region_held_drew (S := fun W => Rd W b s q) (by kernel_rfl) HRY.out (fun hS => ?_)
        refine wpAnyH_take (i := 0) (v := .pointer (some ⟨b, 0, none⟩)) rfl (by kernel_rfl) (by kernel_rfl) (by kernel_rfl) (fun _ _ _ h => h) (Or.inl ⟨by kernel_rfl, fun w' hw => by (have z0 := Rd.text hw; have z1 := Rd.at hw; clear hw; go_simp)⟩) hS ?_
        refine wpAnyH_take (i := 1) (v := .pointer (some ⟨b, 0, none⟩)) rfl (by kernel_rfl) (by kernel_rfl) (by kernel_rfl) (fun _ _ _ h => h) (Or.inl ⟨by kernel_rfl, fun w' hw => by (have z0 := Rd.text hw; have z1 := Rd.at hw; clear hw; go_simp)⟩) hS ?_
        refine wpAnyH_take (i := 2) (v := .pointer (some ⟨b, 0, none⟩)) rfl (by kernel_rfl) (by kernel_rfl) (by kernel_rfl) (fun _ _ _ h => h) (Or.inl ⟨by kernel_rfl, fun w' hw => by (have z0 := Rd.text hw; have z1 := Rd.at hw; clear hw; go_simp)⟩) hS ?_
        refine wpAnyH_take (i := 3) (v := .string s) rfl (by kernel_rfl) (by kernel_rfl) (by kernel_rfl) (fun _ _ _ h => h) (Or.inl ⟨by kernel_rfl, fun w' hw => by (have z0 := Rd.text hw; have z1 := Rd.at hw; clear hw; go_simp)⟩) hS ?_
        refine wpAnyH_take (i := 4) (v := .pointer (some ⟨b, 0, none⟩)) rfl (by kernel_rfl) (by kernel_rfl) (by kernel_rfl) (fun _ _ _ h => h) (Or.inl ⟨by kernel_rfl, fun w' hw => by (have z0 := Rd.text hw; have z1 := Rd.at hw; clear hw; go_simp)⟩) hS ?_
        refine wpAnyH_take (i := 5) (v := .pointer (some ⟨b, 0, none⟩)) rfl (by kernel_rfl) (by kernel_rfl) (by kernel_rfl) (fun _ _ _ h => h) (Or.inl ⟨by kernel_rfl, fun w' hw => by (have z0 := Rd.text hw; have z1 := Rd.at hw; clear hw; go_simp)⟩) hS ?_
        refine wpAnyH_take (i := 6) (v := .pointer (some ⟨b, 1, none⟩)) rfl (by kernel_rfl) (by kernel_rfl) (by kernel_rfl) (fun _ _ _ h => h) (Or.inl ⟨by kernel_rfl, fun w' hw => by (have z0 := Rd.text hw; have z1 := Rd.at hw; clear hw; go_simp)⟩) hS ?_
        refine wpAnyH_take (i := 7) (v := .int .i64 (q : Int)) rfl (by kernel_rfl) (by kernel_rfl) (by kernel_rfl) (fun _ _ _ h => h) (Or.inl ⟨by kernel_rfl, fun w' hw => by (have z0 := Rd.text hw; have z1 := Rd.at hw; clear hw; go_simp)⟩) hS ?_
        refine wpAnyH_take (i := 8) (v := .string (s.extract q s.size)) rfl (by kernel_rfl) (by kernel_rfl) (by kernel_rfl) (fun _ _ _ h => h) (Or.inl ⟨by kernel_rfl, fun w' hw => by (have z0 := Rd.text hw; have z1 := Rd.at hw; clear hw; go_simp)⟩) hS ?_
        refine wpAnyH_ready (rs := [9]) (by kernel_rfl) (by simp) ?_
        refine AllReadyH.cons rfl (fun K hK => ?_) AllReadyH.nil
        rw [if_pos (by kernel_rfl)]
        go_simp
        go_wp2_with (go_at_call 58; refine (KES.out _).mono ?_; rintro e z ⟨rfl, hbz⟩)
        have hbz' : Below y.heap.size y z := bseq (Below.refl y.heap.size y).drew hbz
        have hS3 : Rd z b s q := HRY.out.below HRY.out.lt hbz'
        have HRZ := hide hS3
        have HGZ := hide (grown_below HGY.out HGY.out.size hbz')
        have HBZ := hide (HBY.out.below hbz')
        refine hK.out _ _ hS3 (fun _ => ?_)
        clear hK K hbz hbz'
        refine wpAnyH_take (i := 10) (v := .tuple #[.string ⟨X.toArray⟩, .int .i64 (n : Int)]) rfl (by kernel_rfl) (by kernel_rfl) (by kernel_rfl) (fun _ _ _ h => h) (Or.inl ⟨by kernel_rfl, fun w' hw => by (have z0 := Rd.text hw; have z1 := Rd.at hw; clear hw; go_simp)⟩) hS3 ?_
        refine wpAnyH_take (i := 11) (v := .string ⟨X.toArray⟩) rfl (by kernel_rfl) (by kernel_rfl) (by kernel_rfl) (fun _ _ _ h => h) (Or.inl ⟨by kernel_rfl, fun w' hw => by (have z0 := Rd.text hw; have z1 := Rd.at hw; clear hw; go_simp)⟩) hS3 ?_
        refine wpAnyH_take (i := 12) (v := .int .i64 (n : Int)) rfl (by kernel_rfl) (by kernel_rfl) (by kernel_rfl) (fun _ _ _ h => h) (Or.inl ⟨by kernel_rfl, fun w' hw => by (have z0 := Rd.text hw; have z1 := Rd.at hw; clear hw; go_simp)⟩) hS3 ?_
        refine wpAnyH_take (i := 13) (v := .string ⟨X.toArray⟩) rfl (by kernel_rfl) (by kernel_rfl) (by kernel_rfl) (fun _ _ _ h => h) (Or.inl ⟨by kernel_rfl, fun w' hw => by (have z0 := Rd.text hw; have z1 := Rd.at hw; clear hw; go_simp)⟩) hS3 ?_
        refine wpAnyH_take (i := 14) (v := .int .i64 (n : Int)) rfl (by kernel_rfl) (by kernel_rfl) (by kernel_rfl) (fun _ _ _ h => h) (Or.inl ⟨by kernel_rfl, fun w' hw => by (have z0 := Rd.text hw; have z1 := Rd.at hw; clear hw; go_simp)⟩) hS3 ?_
        refine wpAnyH_done (by kernel_rfl) (noPanS_normal ?_) _
        try simp only [Act.put, List.getElem_toArray, List.getElem_cons_zero, List.getElem_cons_succ, List.setIfInBounds_toArray, List.set_cons_zero, List.set_cons_succ]
        go_wp2_with (first | (go_at_call 22; refine (bwriteString _ _ acc _ _ HBZ.out hwl HGZ.out.size).mono ?_; rintro e v ⟨⟨ev, rfl⟩, hBv, hbv⟩; have HRV := hide (HRZ.out.below hb hbv); have HGV := hide (grown_below HGZ.out (Nat.le_refl _) hbv); have HBV := hide hBv; have v1 := HRV.out.at; have v2 := HRV.out.frz; clear hBv hbv HBZ))
        go_step3
        first | refine mix_then rfl ?_ | refine mix_zero ?_
        have hcast : (q : Int) + (n : Int) = ((q + n : Nat) : Int) := by push_cast; rfl
        rw [hcast]
        have hR9 := HRV.out.set (q + n)
        refine ⟨⟨_, _, _, _, _, _, _, _, _, _, _, _, _, _, _, _, _, _, _, _, _, _, _, _, _, _, _, _, _, _, _, _, _, _, _, _, _, _, _, _, _, _, _, _, _, _, _, _, _, _, _, _, _, _, _, _, _, _, _, _, _, _, _, _, _, _, _, _, _, _, _, _, _, _, _, _, _, _, _, _, rfl, q + n, acc ++ X, by omega, by omega, by rw [List.length_append]; omega, ?_, hR9, HBV.out.grown hb (grown_set _ _ _ _), grown_trans HGV.out (grown_set _ _ _ _)⟩, ?_⟩
        · rw [HQ2.out, List.append_assoc]
          have e : ∀ z, q - p + (n + z) = q + n - p + z := fun z => by omega
          rw [e]
        · rw [hR9.at]
          simp only [Option.getD_some, intOf, Int.toNat_natCast]
          omega
    · by_cases hr : r = true ∧ plainK c = true
      · have hne := first_ne (l := (bl s).drop q) (by rw [hF]; exact hr.1)
        have hF2 := hF
        rw [firstV_ne hne] at hF2
        simp only [Prod.mk.injEq] at hF2
        obtain ⟨_, hwd, _⟩ := hF2
        have hm1 := cw_pos ((bl s).drop q)
        have hm2 := cw_len _ hne
        have hQ := HQ.out
        rw [Qt_char n34 (by rw [hF]; exact hc) (by rw [hF]; exact hr)] at hQ
        rw [List.length_drop, bl_len] at hm2
        generalize cw ((bl s).drop q) = m at *
        subst hwd
        rw [List.drop_drop] at hQ
        have hx : (s.extract q (q + m)).data.toList = ((bl s).drop q).take m := by
          have := bl_extract s q (q + m)
          rw [Nat.add_sub_cancel_left] at this
          exact this
        have hwr : IntKind.i64.wrap ((q : Int) + (m : Int)) = (q : Int) + (m : Int) := by simp only [IntKind.wrap_i64]; omega
        have b1 : 0 ≤ (q : Int) + (m : Int) ∧ (q : Int) + (m : Int) ≤ (s.size : Int) := by omega
        have b2 : (q : Int) ≤ (q : Int) + (m : Int) := by omega
        have b3 : ((q : Int) + (m : Int)).toNat = q + m := by omega
        have hxl : (((bl s).drop q).take m).length ≤ m := List.length_take_le _ _
        have hwl : acc.length + (s.extract q (q + m)).size ≤ 140737488355328 := by rw [ByteArray.size_extract]; omega
        have kw := fun W h1 h2 => bwriteString w.heap.size w.heap.size acc (s.extract q (q + m)) W h1 hwl h2
        rw [hx] at kw
        have KW := hide kw
        generalize ((bl s).drop q).take m = X at *
        have HQ2 := hide hQ
        have KP := hide (fun W => plain_any c W)
        rw [hr.2] at KP
        have hc0 : (c == 92) = false := beq_eq_false_iff_ne.2 hc
        have hrt := hr.1
        subst hrt
        clear hQ HQ kw hx
        go_wp2_with (first | (go_at_call 21; refine (KP.out _).mono ?_; rintro e y2 ⟨rfl, hy2⟩; subst hy2))
        refine Go.wp_mono (Q := noPanS _) ?_ noPanS_le
        refine wp_region_held_drew (S := fun W => Rd W b s q) (by kernel_rfl) HRY.out (fun hS => ?_)
        refine wpAnyH_take (i := 0) (v := .pointer (some ⟨b, 0, none⟩)) rfl (by kernel_rfl) (by kernel_rfl) (by kernel_rfl) (fun _ _ _ h => h) (Or.inl ⟨by kernel_rfl, fun w' hw => by (have z0 := Rd.text hw; have z1 := Rd.at hw; clear hw; go_simp)⟩) hS ?_
        refine wpAnyH_take (i := 1) (v := .pointer (some ⟨b, 0, none⟩)) rfl (by kernel_rfl) (by kernel_rfl) (by kernel_rfl) (fun _ _ _ h => h) (Or.inl ⟨by kernel_rfl, fun w' hw => by (have z0 := Rd.text hw; have z1 := Rd.at hw; clear hw; go_simp)⟩) hS ?_
        refine wpAnyH_take (i := 2) (v := .pointer (some ⟨b, 0, none⟩)) rfl (by kernel_rfl) (by kernel_rfl) (by kernel_rfl) (fun _ _ _ h => h) (Or.inl ⟨by kernel_rfl, fun w' hw => by (have z0 := Rd.text hw; have z1 := Rd.at hw; clear hw; go_simp)⟩) hS ?_
        refine wpAnyH_take (i := 3) (v := .string s) rfl (by kernel_rfl) (by kernel_rfl) (by kernel_rfl) (fun _ _ _ h => h) (Or.inl ⟨by kernel_rfl, fun w' hw => by (have z0 := Rd.text hw; have z1 := Rd.at hw; clear hw; go_simp)⟩) hS ?_
        refine wpAnyH_take (i := 4) (v := .pointer (some ⟨b, 0, none⟩)) rfl (by kernel_rfl) (by kernel_rfl) (by kernel_rfl) (fun _ _ _ h => h) (Or.inl ⟨by kernel_rfl, fun w' hw => by (have z0 := Rd.text hw; have z1 := Rd.at hw; clear hw; go_simp)⟩) hS ?_
        refine wpAnyH_take (i := 5) (v := .pointer (some ⟨b, 0, none⟩)) rfl (by kernel_rfl) (by kernel_rfl) (by kernel_rfl) (fun _ _ _ h => h) (Or.inl ⟨by kernel_rfl, fun w' hw => by (have z0 := Rd.text hw; have z1 := Rd.at hw; clear hw; go_simp)⟩) hS ?_
        refine wpAnyH_take (i := 6) (v := .pointer (some ⟨b, 1, none⟩)) rfl (by kernel_rfl) (by kernel_rfl) (by kernel_rfl) (fun _ _ _ h => h) (Or.inl ⟨by kernel_rfl, fun w' hw => by (have z0 := Rd.text hw; have z1 := Rd.at hw; clear hw; go_simp)⟩) hS ?_
        refine wpAnyH_take (i := 7) (v := .int .i64 (q : Int)) rfl (by kernel_rfl) (by kernel_rfl) (by kernel_rfl) (fun _ _ _ h => h) (Or.inl ⟨by kernel_rfl, fun w' hw => by (have z0 := Rd.text hw; have z1 := Rd.at hw; clear hw; go_simp)⟩) hS ?_
        refine wpAnyH_take (i := 8) (v := .pointer (some ⟨b, 0, none⟩)) rfl (by kernel_rfl) (by kernel_rfl) (by kernel_rfl) (fun _ _ _ h => h) (Or.inl ⟨by kernel_rfl, fun w' hw => by (have z0 := Rd.text hw; have z1 := Rd.at hw; clear hw; go_simp)⟩) hS ?_
        refine wpAnyH_take (i := 9) (v := .pointer (some ⟨b, 0, none⟩)) rfl (by kernel_rfl) (by kernel_rfl) (by kernel_rfl) (fun _ _ _ h => h) (Or.inl ⟨by kernel_rfl, fun w' hw => by (have z0 := Rd.text hw; have z1 := Rd.at hw; clear hw; go_simp)⟩) hS ?_
        refine wpAnyH_take (i := 10) (v := .pointer (some ⟨b, 1, none⟩)) rfl (by kernel_rfl) (by kernel_rfl) (by kernel_rfl) (fun _ _ _ h => h) (Or.inl ⟨by kernel_rfl, fun w' hw => by (have z0 := Rd.text hw; have z1 := Rd.at hw; clear hw; go_simp)⟩) hS ?_
        refine wpAnyH_take (i := 11) (v := .int .i64 (q : Int)) rfl (by kernel_rfl) (by kernel_rfl) (by kernel_rfl) (fun _ _ _ h => h) (Or.inl ⟨by kernel_rfl, fun w' hw => by (have z0 := Rd.text hw; have z1 := Rd.at hw; clear hw; go_simp)⟩) hS ?_
        refine wpAnyH_take (i := 12) (v := .int .i64 (m : Int)) rfl (by kernel_rfl) (by kernel_rfl) (by kernel_rfl) (fun _ _ _ h => h) (Or.inl ⟨by kernel_rfl, fun w' hw => by (have z0 := Rd.text hw; have z1 := Rd.at hw; clear hw; go_simp)⟩) hS ?_
        refine wpAnyH_take (i := 13) (v := .int .i64 ((q : Int) + (m : Int))) rfl (by kernel_rfl) (by kernel_rfl) (by kernel_rfl) (fun _ _ _ h => h) (Or.inl ⟨by kernel_rfl, fun w' hw => by (have z0 := Rd.text hw; have z1 := Rd.at hw; clear hw; go_simp; try exact hwr)⟩) hS ?_
        refine wpAnyH_take (i := 14) (v := .string (s.extract q (q + m))) rfl (by kernel_rfl) (by kernel_rfl) (by kernel_rfl) (fun _ _ _ h => h) (Or.inl ⟨by kernel_rfl, fun w' hw => by (have z0 := Rd.text hw; have z1 := Rd.at hw; clear hw; go_simp; try rw [if_pos b1, if_pos b2, b3])⟩) hS ?_
        refine wpAnyH_ready (rs := [15]) (by kernel_rfl) (by simp) ?_
        refine AllReadyH.cons rfl (fun K hK => ?_) AllReadyH.nil
        rw [if_pos (by kernel_rfl)]
        go_simp
        have KW2 := hide (KW.out y2.drew HBY.out HGY.out.size)
        go_wp2_with (go_at_call 22; refine (KW2.out).mono ?_; rintro e v ⟨⟨ev, rfl⟩, hBv, hbv⟩)
        replace hbv := (Below.refl w.heap.size y2).drew.trans hbv
        have HRV := hide (HRY.out.below hb hbv)
        have HGV := hide (grown_below HGY.out (Nat.le_refl _) hbv)
        have HBV := hide hBv
        have v1 := HRV.out.at
        have v2 := HRV.out.frz
        refine hK.out _ _ HRV.out (fun _ => ?_)
        clear hK K hBv hbv HBY
        refine wpAnyH_done (by kernel_rfl) (noPanS_normal ?_) _
        try simp only [Act.put, List.getElem_toArray, List.getElem_cons_zero, List.getElem_cons_succ, List.setIfInBounds_toArray, List.set_cons_zero, List.set_cons_succ]
        go_wp2_with (fail)
        go_step3
        first | refine mix_then rfl ?_ | refine mix_zero ?_
        have hcast : (q : Int) + (m : Int) = ((q + m : Nat) : Int) := by push_cast; rfl
        rw [hcast]
        have hR9 := HRV.out.set (q + m)
        refine ⟨⟨_, _, _, _, _, _, _, _, _, _, _, _, _, _, _, _, _, _, _, _, _, _, _, _, _, _, _, _, _, _, _, _, _, _, _, _, _, _, _, _, _, _, _, _, _, _, _, _, _, _, _, _, _, _, _, _, _, _, _, _, _, _, _, _, _, _, _, _, _, _, _, _, _, _, _, _, _, _, _, _, rfl, q + m, acc ++ X, by omega, by omega, by rw [List.length_append]; omega, ?_, hR9, HBV.out.grown hb (grown_set _ _ _ _), grown_trans HGV.out (grown_set _ _ _ _)⟩, ?_⟩
        · rw [HQ2.out, List.append_assoc]
          have e : ∀ z, q - p + (m + z) = q + m - p + z := fun z => by omega
          rw [e]
        · rw [hR9.at]
          simp only [Option.getD_some, intOf, Int.toNat_natCast]
          omega
      · have hQ := HQ.out
        rw [Qt_fault n34 (by rw [hF]; exact hc) (by rw [hF]; exact hr)] at hQ
        simp only [Prod.mk.injEq, List.append_nil, Nat.add_zero] at hQ
        have HQ2 := hide hQ
        have KP := hide (fun W => plain_any c W)
        have hc0 : (c == 92) = false := beq_eq_false_iff_ne.2 hc
        clear hQ HQ
        cases r with
        | false =>
          go_wp2_with (fail)
          go_step3
          first | refine mix_then rfl ?_ | refine mix_zero ?_
          go_wp2_with (fail)
          rw [jumpA_ret]
          go_ret2
          obtain ⟨hT, hE, hO⟩ := HQ2.out
          refine ⟨by rw [hO]; rfl, ?_, HGY.out⟩
          rw [show p + E = q by omega]
          exact HRY.out
        | true =>
          have hpl : plainK c = false := by
            cases h : plainK c with
            | false => rfl
            | true => exact absurd ⟨rfl, h⟩ hr
          rw [hpl] at KP
          go_wp2_with (first | (go_at_call 21; refine (KP.out _).mono ?_; rintro e y2 ⟨rfl, hy2⟩; subst hy2))
          go_step3
          first | refine mix_then rfl ?_ | refine mix_zero ?_
          go_wp2_with (fail)
          rw [jumpA_ret]
          go_ret2
          obtain ⟨hT, hE, hO⟩ := HQ2.out
          refine ⟨by rw [hO]; rfl, ?_, HGY.out⟩
          rw [show p + E = q by omega]
          exact HRY.out
  · intro hst
    have HST := hide hst
    clear hst
    have c0 := h.text
    go_wp2_with (fail)
    refine wp_label ?_
    rename_i K9 hK9
    refine hK9 _ _ (HST.out _ _ ⟨_, _, _, _, _, _, _, _, _, _, _, _, _, _, _, _, _, _, _, _, _, _, _, _, _, _, _, _, _, _, _, _, _, _, _, _, _, _, _, _, _, _, _, _, _, _, _, _, _, _, _, _, _, _, _, _, _, _, _, _, _, _, _, _, _, _, _, _, _, _, _, _, _, _, _, _, _, _, _, _, rfl, p, [], Nat.le_refl _, hp, Nat.zero_le _, ?_, ?_, bfresh w, ?_⟩)
    · rw [← hTT]; simp
    · exact h.below hb ((Below.refl _ _).alloc (Nat.le_refl _) _)
    · exact grown_below (grown_drewN w 0 _) (Nat.le_refl _) ((Below.refl _ _).alloc (Nat.le_refl _) _)
end Go.Proofs.YtmhbhpjpnmggkaaDoor
namespace Go.Proofs.YtmhbhpjpnmggkaaDoor
open Go.RowKit Go.Shelf
set_option linter.unusedVariables false

theorem escape_any (c : Nat) (f : UInt8) (w : World) (hZ : LaidZ w) :
    Calls Tryd.prog 23 #[.int .i32 (c : Int), .int .u8 (f.toNat : Int)] w fun e w' => e = .returned (.string ⟨(escB c f).toArray⟩) ∧ Below w.heap.size w w' := by
  unfold escB
  by_cases c1 : c = 34
  · subst c1
    exact (escape_34 _ w).mono fun e w' ⟨h1, h2⟩ => ⟨h1, by subst h2; exact Below.refl _ _⟩
  rw [if_neg c1]
  by_cases c2 : c = 92
  · subst c2
    exact (escape_92 _ w).mono fun e w' ⟨h1, h2⟩ => ⟨h1, by subst h2; exact Below.refl _ _⟩
  rw [if_neg c2]
  by_cases c3 : c = 10
  · subst c3
    exact (escape_10 _ w).mono fun e w' ⟨h1, h2⟩ => ⟨h1, by subst h2; exact Below.refl _ _⟩
  rw [if_neg c3]
  by_cases c4 : c = 13
  · subst c4
    exact (escape_13 _ w).mono fun e w' ⟨h1, h2⟩ => ⟨h1, by subst h2; exact Below.refl _ _⟩
  rw [if_neg c4]
  by_cases c5 : c = 9
  · subst c5
    exact (escape_9 _ w).mono fun e w' ⟨h1, h2⟩ => ⟨h1, by subst h2; exact Below.refl _ _⟩
  rw [if_neg c5]
  by_cases c6 : c = 133
  · subst c6
    exact escape_133 _ w hZ
  rw [if_neg c6]
  by_cases c7 : c = 8232
  · subst c7
    exact escape_8232 _ w hZ
  rw [if_neg c7]
  by_cases c8 : c = 8233
  · subst c8
    exact escape_8233 _ w hZ
  rw [if_neg c8]
  exact escape_byte (c : Int) f w ⟨beq_eq_false_iff_ne.2 (by omega), beq_eq_false_iff_ne.2 (by omega), beq_eq_false_iff_ne.2 (by omega), beq_eq_false_iff_ne.2 (by omega), beq_eq_false_iff_ne.2 (by omega), beq_eq_false_iff_ne.2 (by omega), beq_eq_false_iff_ne.2 (by omega), beq_eq_false_iff_ne.2 (by omega)⟩

theorem LaidZ.on {B : Nat} {w w' : World} (h : LaidZ w) (hw : w.heap.size ≤ B) (hb : Below B w w') : LaidZ w' := h.below (hb.mono hw)
set_option maxRecDepth 100000 in
set_option maxHeartbeats 4000000 in
theorem quote_any (s : ByteArray) (w : World) (hs : s.size ≤ 17592186044416) (hZ : LaidZ w) :
    Calls Tryd.prog 7 #[.string s] w fun e w' => e = .returned (.string ⟨(34 :: (qo (bl s) ++ [34])).toArray⟩) ∧ Below w.heap.size w w' := by
  have HZ := hide hZ
  have hsI : (s.size : Int) ≤ 17592186044416 := by omega
  have hbk : (w.alloc (.cells #[.pointer none, .slice none 0 0] 50)).heap[w.heap.size]? = some (.cells #[.pointer none, .slice none 0 0] 50 (0, 0)) := heap_alloc_new w _
  have hb0 : Below w.heap.size w (w.alloc (.cells #[.pointer none, .slice none 0 0] 50)) := (Below.refl _ _).alloc (Nat.le_refl _) _
  have kg := bgrow w.heap.size w.heap.size (1 + s.size + 1) _ (Nat.le_refl _) hbk hb0.size (by omega)
  push_cast at kg
  have KG := hide kg
  have HB0 := hide hb0
  clear hZ kg hbk hb0
  go_enter Tryd.func7, Tryd.ntmps7
  go_wp2_with (first | (go_at_call 18; refine (KG.out).mono ?_; rintro e x ⟨rfl, hBx, hbx⟩; have HBX := hide hBx; have HX := hide (HB0.out.trans hbx); clear hBx hbx) | (go_at_call 19; refine (bwriteByte _ _ [] 34 _ HBX.out (by decide) HX.out.size).mono ?_; rintro e y ⟨rfl, hBy, hby⟩; have HBY := hide hBy; have HY := hide (HX.out.trans hby); clear hBy hby HBX))
  go_loopw [4] (fun at_ wr => ∃ (q : Nat) (acc : List UInt8), at_ = .int .i64 (q : Int) ∧ q ≤ s.size ∧ acc ++ qo ((bl s).drop q) = 34 :: qo (bl s) ∧ acc.length ≤ 1 + 4 * q ∧ Bd8 w.heap.size w.heap.size acc wr ∧ Below w.heap.size w wr) (fun at_ _ => s.size - (intOf at_).toNat)
  case atStart => exact ⟨0, [34], rfl, Nat.zero_le _, rfl, by decide, HBY.out, HY.out⟩
  case round =>
    obtain ⟨q, acc, rfl, hqs, hacc, hlen, hBd, hB⟩ := hrel
    have HBD := hide hBd
    have HB := hide hB
    have HACC := hide hacc
    clear hBd hB hacc HBY HY
    by_cases hlt : q < s.size
    · have hltI : (q : Int) < (s.size : Int) := by omega
      have hne := bl_drop_ne hlt
      have hxs : (s.extract q s.size).size ≤ 9223372036854775807 := by rw [ByteArray.size_extract]; omega
      have kf := fun W => first_any (s.extract q s.size) W hxs
      rw [bl_from] at kf
      have hm1 := cw_pos ((bl s).drop q)
      have hm2 := cw_len _ hne
      have hm4 := cw_le4 ((bl s).drop q)
      rw [List.length_drop, bl_len] at hm2
      have hF : firstV ((bl s).drop q) = ((rune ((bl s).drop q) : Int), (cw ((bl s).drop q) : Int), decide (W ((bl s).drop q) ≠ 0)) := by unfold firstV; rw [if_neg hne]
      rw [hF] at kf
      simp only at kf
      have hqc := qo_cons hne
      have hpl := piece_le hne
      rw [List.drop_drop] at hqc
      have hhd : ((bl s).drop q).headD 0 = s[q]'hlt := by
        rw [List.drop_eq_getElem_cons (by rw [bl_len]; exact hlt)]
        rfl
      have hx : (s.extract q (q + cw ((bl s).drop q))).data.toList = ((bl s).drop q).take (cw ((bl s).drop q)) := by
        have := bl_extract s q (q + cw ((bl s).drop q))
        rw [Nat.add_sub_cancel_left] at this
        exact this
      have hpc : piece ((bl s).drop q) = if W ((bl s).drop q) ≠ 0 ∧ plainK (rune ((bl s).drop q) : Int) = true then ((bl s).drop q).take (cw ((bl s).drop q)) else escB (rune ((bl s).drop q)) (s[q]'hlt) := by unfold piece; rw [hhd]
      rw [hqc] at HACC
      have KF := hide kf
      have HX := hide hx
      have HPC := hide hpc
      generalize piece ((bl s).drop q) = P at *
      generalize W ((bl s).drop q) = wl at *
      generalize rune ((bl s).drop q) = r at *
      generalize cw ((bl s).drop q) = m at *
      have hmI : (q : Int) + (m : Int) ≤ (s.size : Int) := by omega
      have hm4I : (m : Int) ≤ 4 := by omega
      have hm1I : 1 ≤ (m : Int) := by omega
      have KP := hide (fun W => plain_any (r : Int) W)
      have hnx : (acc ++ P) ++ qo ((bl s).drop (q + m)) = 34 :: qo (bl s) := by rw [List.append_assoc]; exact HACC.out
      have hnl : (acc ++ P).length ≤ 1 + 4 * (q + m) := by rw [List.length_append]; omega
      have HNX := hide hnx
      clear kf hF hqc hhd hx hpc hne hnx hxs
      by_cases hw : wl ≠ 0
      · rw [decide_eq_true hw] at KF
        cases hpk : plainK (r : Int) with
        | true =>
          rw [hpk] at KP
          have hP := HPC.out
          rw [if_pos ⟨hw, hpk⟩, ← HX.out] at hP
          have hwl : acc.length + (s.extract q (q + m)).size ≤ 140737488355328 := by rw [ByteArray.size_extract]; omega
          have kw := fun W h1 h2 => bwriteString w.heap.size w.heap.size acc (s.extract q (q + m)) W h1 hwl h2
          rw [← hP] at kw
          have KW := hide kw
          clear kw hP hwl HX HPC hpk
          go_wp2_with (first | (go_at_call 20; refine (KF.out _).mono ?_; rintro e x ⟨rfl, hbx⟩; have HX2 := hide (bseq HB.out hbx); have HBX2 := hide (HBD.out.below hbx); clear hbx HBD) | (go_at_call 21; refine (KP.out _).mono ?_; rintro e x2 ⟨rfl, hx2⟩; subst hx2) | (go_at_call 22; refine (KW.out _ HBX2.out HX2.out.size).mono ?_; rintro e y ⟨⟨ev, rfl⟩, hBy, hby⟩; have HBY := hide hBy; have HY := hide (HX2.out.trans hby); clear hBy hby HBX2))
          go_roundw
          case rel => exact ⟨q + m, acc ++ P, by go_num, by omega, HNX.out, hnl, HBY.out, HY.out⟩
          case measure => simp [intOf]; omega
        | false =>
          rw [hpk] at KP
          have hP := HPC.out
          rw [if_neg (by rw [hpk]; exact fun h => absurd h.2 (by decide))] at hP
          have ke := fun W h => escape_any r (s[q]'hlt) W h
          rw [← hP] at ke
          have hwl : acc.length + (⟨P.toArray⟩ : ByteArray).size ≤ 140737488355328 := by
            have : (⟨P.toArray⟩ : ByteArray).size = P.length := by simp [ByteArray.size]
            omega
          have KE := hide ke
          clear ke hP HX HPC hpk
          go_wp2_with (first | (go_at_call 20; refine (KF.out _).mono ?_; rintro e x ⟨rfl, hbx⟩; have HX2 := hide (bseq HB.out hbx); have HBX2 := hide (HBD.out.below hbx); clear hbx HBD) | (go_at_call 21; refine (KP.out _).mono ?_; rintro e x2 ⟨rfl, hx2⟩; subst hx2) | (go_at_call 23; refine (KE.out _ (HZ.out.below HX2.out)).mono ?_; rintro e z ⟨rfl, hbz⟩; have HX3 := hide (bseq HX2.out hbz); have HBX3 := hide (HBX2.out.below hbz); clear hbz HBX2) | (go_at_call 22; refine (bwriteString _ _ acc _ _ HBX3.out hwl HX3.out.size).mono ?_; rintro e y ⟨⟨ev, rfl⟩, hBy, hby⟩; have HBY := hide hBy; have HY := hide (HX3.out.trans hby); clear hBy hby HBX3))
          go_roundw
          case rel => exact ⟨q + m, acc ++ P, by go_num, by omega, HNX.out, hnl, HBY.out, HY.out⟩
          case measure => simp [intOf]; omega
      · rw [decide_eq_false hw] at KF
        have hP := HPC.out
        rw [if_neg (fun h => hw h.1)] at hP
        have ke := fun W h => escape_any r (s[q]'hlt) W h
        rw [← hP] at ke
        have hwl : acc.length + (⟨P.toArray⟩ : ByteArray).size ≤ 140737488355328 := by
          have : (⟨P.toArray⟩ : ByteArray).size = P.length := by simp [ByteArray.size]
          omega
        have KE := hide ke
        clear ke hP HX HPC
        go_wp2_with (first | (go_at_call 20; refine (KF.out _).mono ?_; rintro e x ⟨rfl, hbx⟩; have HX2 := hide (bseq HB.out hbx); have HBX2 := hide (HBD.out.below hbx); clear hbx HBD) | (go_at_call 23; refine (KE.out _ (HZ.out.below HX2.out)).mono ?_; rintro e z ⟨rfl, hbz⟩; have HX3 := hide (bseq HX2.out hbz); have HBX3 := hide (HBX2.out.below hbz); clear hbz HBX2) | (go_at_call 22; refine (bwriteString _ _ acc _ _ HBX3.out hwl HX3.out.size).mono ?_; rintro e y ⟨⟨ev, rfl⟩, hBy, hby⟩; have HBY := hide hBy; have HY := hide (HX3.out.trans hby); clear hBy hby HBX3))
        go_roundw
        case rel => exact ⟨q + m, acc ++ P, by go_num, by omega, HNX.out, hnl, HBY.out, HY.out⟩
        case measure => simp [intOf]; omega
    · have hltI : (s.size : Int) ≤ (q : Int) := by omega
      have hacc := HACC.out
      rw [List.drop_eq_nil_of_le (by rw [bl_len]; omega), qo_nil, List.append_nil] at hacc
      have hw1 : acc.length + 1 ≤ 140737488355328 := by omega
      go_wp2_with (first | (go_at_call 19; refine (bwriteByte _ _ acc 34 _ HBD.out hw1 HB.out.size).mono ?_; rintro e y ⟨rfl, hBy, hby⟩; have HBY := hide hBy; have HY := hide (HB.out.trans hby); clear hBy hby HBD) | (go_at_call 24; refine (bstring _ _ _ _ HBY.out HY.out.size).mono ?_; rintro e z ⟨rfl, hBz, hbz⟩; have HZ2 := hide (HY.out.trans hbz); clear hBz hbz HBY))
      go_ret
      exact ⟨rfl, HZ2.out⟩
end Go.Proofs.YtmhbhpjpnmggkaaDoor
namespace Go.Proofs.YtmhbhpjpnmggkaaDoor
open Go.RowKit Go.Shelf
set_option linter.unusedVariables false

/-- A token as it may come in: kind, place, text, number. -/
abbrev TkI := Int × Int × ByteArray × Int
/-- May some line have it? -/
def mayI (x : TkI) : Bool := if x.1 = 1 then (isRunL (bl x.2.2.1) && !(numK (bl x.2.2.1)).isSome && (x.2.2.2 == 0)) else if x.1 = 2 then (decide (bl x.2.2.1 = []) && decide (0 ≤ x.2.2.2)) else if x.1 = 3 then (x.2.2.2 == 0) else false
theorem mayBe_any (k a : Int) (t : ByteArray) (n : Int) (w : World) (hs : t.size ≤ 140737488355328) (hL : LaidW w) :
    Calls Tryd.prog 29 #[.agg #[.int .i64 k, .int .i64 a, .string t, .int .i64 n]] w fun e w' => e = .returned (.bool (mayI (k, a, t, n))) ∧ Below w.heap.size w w' := by
  unfold mayI
  simp only
  by_cases h1 : k = 1
  · subst h1; exact mayBe_1 a t n w hs hL
  rw [if_neg h1]
  by_cases h2 : k = 2
  · subst h2; exact mayBe_2 a t n w
  rw [if_neg h2]
  by_cases h3 : k = 3
  · subst h3; exact mayBe_3 a t n w
  rw [if_neg h3]
  exact mayBe_else k a t n w (beq_eq_false_iff_ne.2 h1) (beq_eq_false_iff_ne.2 h2) (beq_eq_false_iff_ne.2 h3)
/-- How a token stands in a line. -/
def pT (x : TkI) : List UInt8 := if x.1 = 2 then Lib.itoa x.2.2.2 else if x.1 = 3 then 34 :: (qo (bl x.2.2.1) ++ [34]) else bl x.2.2.1
set_option maxRecDepth 100000 in
set_option maxHeartbeats 4000000 in
theorem printed_2 (a : Int) (t : ByteArray) (n : Int) (w : World) (hL : LaidW w) (h0 : -9223372036854775808 ≤ n) (h1 : n ≤ 9223372036854775807) :
    Calls Tryd.prog 30 #[.agg #[.int .i64 2, .int .i64 a, .string t, .int .i64 n]] w fun e w' => e = .returned (.string ⟨(Lib.itoa n).toArray⟩) ∧ Below w.heap.size w w' := by
  have hb0 : Below w.heap.size w (w.alloc (.cells #[.int .i64 2, .int .i64 a, .string t, .int .i64 n] 46)) := (Below.refl _ _).alloc (Nat.le_refl _) _
  have KI := hide (itoa_any n h0 h1 _ (hL.below hb0))
  clear hL
  go_enter Tryd.func30, Tryd.ntmps30
  go_wp2_with (go_at_call 33; refine (KI.out).mono ?_; rintro e x ⟨rfl, hx⟩)
  go_ret
  exact ⟨rfl, bseq hb0 hx⟩
set_option maxRecDepth 100000 in
set_option maxHeartbeats 4000000 in
theorem printed_3 (a : Int) (t : ByteArray) (n : Int) (w : World) (hZ : LaidZ w) (ht : t.size ≤ 17592186044416) :
    Calls Tryd.prog 30 #[.agg #[.int .i64 3, .int .i64 a, .string t, .int .i64 n]] w fun e w' => e = .returned (.string ⟨(34 :: (qo (bl t) ++ [34])).toArray⟩) ∧ Below w.heap.size w w' := by
  have hb0 : Below w.heap.size w (w.alloc (.cells #[.int .i64 3, .int .i64 a, .string t, .int .i64 n] 46)) := (Below.refl _ _).alloc (Nat.le_refl _) _
  have KI := hide (quote_any t _ ht (hZ.below hb0))
  clear hZ
  go_enter Tryd.func30, Tryd.ntmps30
  go_wp2_with (go_at_call 7; refine (KI.out).mono ?_; rintro e x ⟨rfl, hx⟩)
  go_ret
  exact ⟨rfl, bseq hb0 hx⟩
set_option maxRecDepth 100000 in
set_option maxHeartbeats 4000000 in
theorem printed_1 (k a : Int) (t : ByteArray) (n : Int) (w : World) (h2 : (k == 2) = false) (h3 : (k == 3) = false) :
    Calls Tryd.prog 30 #[.agg #[.int .i64 k, .int .i64 a, .string t, .int .i64 n]] w fun e w' => e = .returned (.string t) ∧ Below w.heap.size w w' := by
  have hb0 : Below w.heap.size w (w.alloc (.cells #[.int .i64 k, .int .i64 a, .string t, .int .i64 n] 46)) := (Below.refl _ _).alloc (Nat.le_refl _) _
  go_enter Tryd.func30, Tryd.ntmps30
  go_wp2_with (fail)
  go_ret
  exact ⟨rfl, hb0⟩
theorem bl_back (t : ByteArray) : (⟨(bl t).toArray⟩ : ByteArray) = t := by unfold bl; simp
theorem printed_any (k a : Int) (t : ByteArray) (n : Int) (w : World) (hL : LaidW w) (hZ : LaidZ w) (ht : t.size ≤ 17592186044416) (h0 : -9223372036854775808 ≤ n) (h1 : n ≤ 9223372036854775807) :
    Calls Tryd.prog 30 #[.agg #[.int .i64 k, .int .i64 a, .string t, .int .i64 n]] w fun e w' => e = .returned (.string ⟨(pT (k, a, t, n)).toArray⟩) ∧ Below w.heap.size w w' := by
  unfold pT
  simp only
  by_cases h2 : k = 2
  · subst h2; exact printed_2 a t n w hL h0 h1
  rw [if_neg h2]
  by_cases h3 : k = 3
  · subst h3; exact printed_3 a t n w hZ ht
  rw [if_neg h3, bl_back]
  exact printed_1 k a t n w (beq_eq_false_iff_ne.2 h2) (beq_eq_false_iff_ne.2 h3)
/-- Tokens, joined by blanks. -/
def prJ : List TkI → List UInt8
  | [] => []
  | x :: xs => pT x ++ xs.flatMap (fun y => 32 :: pT y)
theorem prJ_snoc (xs : List TkI) (x : TkI) : prJ (xs ++ [x]) = prJ xs ++ (if xs = [] then [] else [32]) ++ pT x := by
  cases xs with
  | nil => simp [prJ]
  | cons y ys => simp [prJ, List.flatMap_append]
theorem prJ_take {xs : List TkI} {k : Nat} (h : k < xs.length) : prJ (xs.take (k + 1)) = prJ (xs.take k) ++ (if k = 0 then [] else [32]) ++ pT xs[k] := by
  rw [List.take_succ_eq_append_getElem h, prJ_snoc]
  congr 2
  by_cases hk : k = 0
  · subst hk; simp
  · rw [if_neg hk, if_neg (fun e => by have := congrArg List.length e; rw [List.length_take, List.length_nil] at this; omega)]
theorem prJ_mono {xs : List TkI} {k : Nat} (h : k ≤ xs.length) : (prJ (xs.take k)).length ≤ (prJ xs).length := by
  obtain ⟨m, hm⟩ : ∃ m, xs.length = k + m := ⟨xs.length - k, by omega⟩
  have key : ∀ m k, k + m = xs.length → (prJ (xs.take k)).length ≤ (prJ xs).length := by
    intro m
    induction m with
    | zero => intro k hk; rw [List.take_of_length_le (by omega)]; exact Nat.le_refl _
    | succ m ih =>
      intro k hk
      have h1 := ih (k + 1) (by omega)
      rw [prJ_take (by omega)] at h1
      simp only [List.length_append] at h1
      omega
  exact key m k hm.symm
theorem pT_len (x : TkI) (ht : x.2.2.1.size ≤ 17592186044416) (h0 : -9223372036854775808 ≤ x.2.2.2) (h1 : x.2.2.2 ≤ 9223372036854775807) : (pT x).length ≤ 70368744177687 := by
  unfold pT
  split
  · have := Lib.itoa_length_le _ h0 h1
    omega
  · split
    · have := qo_len (bl x.2.2.1)
      rw [bl_len] at this
      simp only [List.length_cons, List.length_append, List.length_nil]
      omega
    · rw [bl_len]; omega
/-- What a row of tokens holds. -/
def SlK (W : World) (a : Option Addr) (xs : List TkI) : Prop := xs = [] ∨ ∃ b off, a = some ⟨b, off, none⟩ ∧ b < W.heap.size ∧ ∀ (i : Nat) (x : TkI), xs[i]? = some x →
  W.cell? ⟨b, off + i * 4, none⟩ = some (.int .i64 x.1) ∧ W.cell? ⟨b, off + i * 4 + 1, none⟩ = some (.int .i64 x.2.1) ∧ W.cell? ⟨b, off + i * 4 + 2, none⟩ = some (.string x.2.2.1) ∧ W.cell? ⟨b, off + i * 4 + 3, none⟩ = some (.int .i64 x.2.2.2)
theorem cell_belowS {W W' : World} {p : Addr} {v : Value} (h : W.cell? p = some v) (hB : Below W.heap.size W W') : W'.cell? p = some v := (hB.cell (World.block_lt_of_cell? _ _ h)).trans h
theorem SlK.below {W W' : World} {a : Option Addr} {xs : List TkI} (h : SlK W a xs) (hB : Below W.heap.size W W') : SlK W' a xs := by
  rcases h with h | ⟨b, off, ha, hb, hc⟩
  · exact .inl h
  · refine .inr ⟨b, off, ha, Nat.lt_of_lt_of_le hb hB.size, fun i x hx => ?_⟩
    obtain ⟨c0, c1, c2, c3⟩ := hc i x hx
    exact ⟨cell_belowS c0 hB, cell_belowS c1 hB, cell_belowS c2 hB, cell_belowS c3 hB⟩
theorem bwriteByteK (B b : Nat) (l : List UInt8) (c : UInt8) (w : World) (h : Bd8 B b l w) (hlen : l.length + 1 ≤ 140737488355328) (hBw : B ≤ w.heap.size) :
    Calls Tryd.prog 19 #[.pointer (some ⟨b, 0, none⟩), .int .u8 (c.toNat : Int)] w fun e w' => e = .returned (.nilIface) ∧ Bd8 B b (l ++ [c]) w' ∧ Below B w w' ∧ Lib.OthersKept 5 (some b) w w' := by
  refine (Any.Builder_WriteByte_k lay_Lays_167 extraA_167 B b _ _ w h (by simpa [Lib.byteCells] using hlen) hBw).mono ?_
  rintro e w' ⟨rfl, h1, h2, h3⟩
  refine ⟨rfl, ?_, h2, h3⟩
  have e1 : Lib.byteCells (l ++ [c]) = Lib.byteCells l ++ [.int .u8 (c.toNat : Int)] := by rw [Lib.byteCells_append]; rfl
  unfold Bd8
  rw [e1]
  exact .inr h1
/-- What Print answers. -/
def prV (xs : List TkI) : List UInt8 × Int := if xs.all mayI = true then (if 16384 < (prJ xs).length then ([], 4) else (prJ xs, 0)) else ([], 70)
end Go.Proofs.YtmhbhpjpnmggkaaDoor
namespace Go.Proofs.YtmhbhpjpnmggkaaDoor
open Go.RowKit Go.Shelf
set_option linter.unusedVariables false

theorem tok_cells {W : World} {a : Option Addr} {xs : List TkI} {k : Nat} {x : TkI} (h : SlK W a xs) (hx : xs[k]? = some x) : ∃ b off, a = some ⟨b, off, none⟩ ∧ W.cell? ⟨b, off + k * 4, none⟩ = some (.int .i64 x.1) ∧ W.cell? ⟨b, off + k * 4 + 1, none⟩ = some (.int .i64 x.2.1) ∧ W.cell? ⟨b, off + k * 4 + 2, none⟩ = some (.string x.2.2.1) ∧ W.cell? ⟨b, off + k * 4 + 3, none⟩ = some (.int .i64 x.2.2.2) := by
  rcases h with h | ⟨b, off, ha, hb, hc⟩
  · rw [h] at hx; simp at hx
  · exact ⟨b, off, ha, hc k x hx⟩
theorem four_at {y : World} {b : Nat} {t : TypeId} {c0 c1 c2 c3 : Value} (h : y.heap[b]? = some (.cells #[c0, c1, c2, c3] t (0, 0))) : (y.cell? ⟨b, 0, none⟩ = some c0 ∧ y.cell? ⟨b, 1, none⟩ = some c1) ∧ y.cell? ⟨b, 2, none⟩ = some c2 ∧ y.cell? ⟨b, 3, none⟩ = some c3 :=
  ⟨⟨celS h 0 _ rfl, celS h 1 _ rfl⟩, celS h 2 _ rfl, celS h 3 _ rfl⟩
theorem Bd8.lt {B b : Nat} {l : List UInt8} {w : World} (h : Bd8 B b l w) : b < w.heap.size := by
  rcases h with ⟨_, v, hb, _⟩ | ⟨_, v, hb, _⟩
  · exact (Array.getElem?_eq_some_iff.1 hb).1
  · exact (Array.getElem?_eq_some_iff.1 hb).1
set_option maxRecDepth 100000 in
set_option maxHeartbeats 8000000 in
theorem print_any (a : Option Addr) (cap : Nat) (xs : List TkI) (w : World) (hx : SlK w a xs) (hL : LaidW w) (hZ : LaidZ w) (hl : xs.length ≤ 9223372036854775807)
    (hb : ∀ x ∈ xs, x.2.2.1.size ≤ 17592186044416 ∧ -9223372036854775808 ≤ x.2.2.2 ∧ x.2.2.2 ≤ 9223372036854775807) :
    Calls Tryd.prog 11 #[.slice a xs.length cap] w fun e w' => e = .returned (.tuple #[.string ⟨(prV xs).1.toArray⟩, .int .i64 (prV xs).2]) ∧ Below w.heap.size w w' := by
  have HX := hide hx
  have HBD := hide hb
  have HL := hide hL
  have HZ := hide hZ
  clear hx hb hL hZ
  go_enter Tryd.func11, Tryd.ntmps11
  go_wp2_with (fail)
  go_loopw [11] (fun i wr => ∃ k : Nat, i = .int .i64 k ∧ k ≤ xs.length ∧ (xs.take k).all mayI = true ∧ Below w.heap.size w wr) (fun i _ => xs.length - (intOf i).toNat)
  case atStart => exact ⟨0, rfl, Nat.zero_le _, rfl, Below.refl _ _⟩
  case round =>
    obtain ⟨k, rfl, hk, hall, hB⟩ := hrel
    have HALL := hide hall
    have HB := hide hB
    clear hall hB
    by_cases hlt : k < xs.length
    · have hxk : xs[k]? = some xs[k] := List.getElem?_eq_getElem hlt
      obtain ⟨b0, off, rfl, v0, v1, v2, v3⟩ := tok_cells (HX.out.below HB.out) hxk
      obtain ⟨hb1, hb2, hb3⟩ := HBD.out _ (List.getElem_mem hlt)
      have hall2 : (xs.take (k + 1)).all mayI = mayI xs[k] := by
        rw [List.take_succ_eq_append_getElem hlt, List.all_append, HALL.out]
        simp
      have hno : mayI xs[k] = false → prV xs = ([], 70) := by
        intro h
        unfold prV
        rw [if_neg]
        intro h2
        have := List.all_eq_true.1 h2 _ (List.getElem_mem hlt)
        rw [h] at this
        exact absurd this (by decide)
      generalize xs[k] = x at *
      obtain ⟨k', a', t', n'⟩ := x
      simp only at v0 v1 v2 v3 hb1 hb2 hb3
      have hltI : (k : Int) < (xs.length : Int) := by omega
      have hbA : Below w.heap.size w (wr.alloc (.cells #[.int .i64 k', .int .i64 a', .string t', .int .i64 n'] 46)) := HB.out.alloc HB.out.size _
      have km := mayBe_any k' a' t' n' _ (by omega) (HL.out.below hbA)
      have HBA := hide hbA
      clear hbA hxk
      cases hm : mayI (k', a', t', n') with
      | true =>
        rw [hm] at km hall2
        have KM := hide km
        have HALL2 := hide hall2
        clear km hall2 hno hm
        go_wp2_with (go_at_call 29; refine (KM.out).mono ?_; rintro e y ⟨rfl, hy⟩)
        go_roundw
        case rel => exact ⟨k + 1, by go_num, by omega, HALL2.out, bseq HBA.out hy⟩
        case measure => simp [intOf]; omega
      | false =>
        rw [hm] at km
        have hv := hno hm
        have KM := hide km
        have HV := hide hv
        clear km hall2 hno hm hv
        go_wp2_with (go_at_call 29; refine (KM.out).mono ?_; rintro e y ⟨rfl, hy⟩)
        go_ret2
        exact ⟨by rw [HV.out]; rfl, bseq HBA.out hy⟩
    · have hge : (xs.length : Int) ≤ (k : Int) := by omega
      have hall := HALL.out
      rw [List.take_of_length_le (by omega)] at hall
      have hv : prV xs = if 16384 < (prJ xs).length then ([], 4) else (prJ xs, 0) := by unfold prV; rw [if_pos hall]
      have HV := hide hv
      generalize wr = W1 at *
      have hbf := bfresh W1
      have HBF := hide hbf
      have hb1 : Below w.heap.size w (W1.alloc (.cells #[.pointer none, .slice none 0 0] 50)) := HB.out.alloc HB.out.size _
      have HB1 := hide hb1
      clear hv hbf hall HALL hb1
      go_wp2_with (fail)
      go_loopw [21] (fun i wr => ∃ j : Nat, i = .int .i64 j ∧ j ≤ xs.length ∧ (prJ (xs.take j)).length ≤ 16384 ∧ Bd8 W1.heap.size W1.heap.size (prJ (xs.take j)) wr ∧ Below w.heap.size w wr ∧ W1.heap.size ≤ wr.heap.size) (fun i _ => xs.length - (intOf i).toNat)
      case atStart => exact ⟨0, rfl, Nat.zero_le _, Nat.zero_le _, HBF.out, HB1.out, by simp⟩
      case round =>
        clear HBF HB1
        obtain ⟨j, rfl, hj, hlen, hBd, hB2, hsz⟩ := hrel
        have HBD2 := hide hBd
        have HB2 := hide hB2
        clear hBd hB2
        by_cases hlt2 : j < xs.length
        · have hxk : xs[j]? = some xs[j] := List.getElem?_eq_getElem hlt2
          obtain ⟨b0, off, rfl, v0, v1, v2, v3⟩ := tok_cells (HX.out.below HB2.out) hxk
          obtain ⟨hb1, hb2, hb3⟩ := HBD.out _ (List.getElem_mem hlt2)
          have hpt := pT_len _ hb1 hb2 hb3
          have hnx := prJ_take hlt2
          have hmo := prJ_mono (xs := xs) (k := j + 1) (by omega)
          generalize xs[j] = x at *
          obtain ⟨k', a', t', n'⟩ := x
          simp only at v0 v1 v2 v3 hb1 hb2 hb3
          have hltI : (j : Int) < (xs.length : Int) := by omega
          have hba0 : Below wr.heap.size wr (wr.alloc (.cells #[.int .i64 k', .int .i64 a', .string t', .int .i64 n'] 46)) := (Below.refl _ _).alloc (Nat.le_refl _) _
          have hbA := bseq HB2.out hba0
          have hBdA := HBD2.out.below hba0
          have hcp : (wr.alloc (.cells #[.int .i64 k', .int .i64 a', .string t', .int .i64 n'] 46)).heap[wr.heap.size]? = some (.cells #[.int .i64 k', .int .i64 a', .string t', .int .i64 n'] 46 (0, 0)) := heap_alloc_new wr _
          have hszA : W1.heap.size ≤ (wr.alloc (.cells #[.int .i64 k', .int .i64 a', .string t', .int .i64 n'] 46)).heap.size := by simp; omega
          have KP := hide (fun W h1 h2 => printed_any k' a' t' n' W h1 h2 hb1 hb2 hb3)
          generalize hacc : prJ (xs.take j) = acc at *
          generalize pT (k', a', t', n') = P at *
          have HBDA := hide hBdA
          have HBA := hide hbA
          have HCP := hide hcp
          have hWw : w.heap.size ≤ W1.heap.size := HB.out.size
          have hnb : some wr.heap.size ≠ some W1.heap.size := fun e => by
            have h9 := Option.some.inj e
            have := HBD2.out.lt
            omega
          have hltI2 := True.intro
          clear hBdA hbA hcp hba0
          by_cases hj0 : j = 0
          · rw [if_pos hj0, List.append_nil] at hnx
            have hjI : (j : Int) ≤ 0 := by omega
            clear hj0
            have hw2 : (acc).length + (⟨P.toArray⟩ : ByteArray).size ≤ 140737488355328 := by
              have : (⟨P.toArray⟩ : ByteArray).size = P.length := by simp [ByteArray.size]
              try simp only [List.length_append, List.length_cons, List.length_nil]
              omega
            obtain ⟨NL, hNL⟩ : ∃ NL, (acc ++ P).length = NL := ⟨_, rfl⟩
            rw [hnx, hNL] at hmo
            clear hxk hltI2
            by_cases hbig : 16384 < NL
            · have hbigI : (16384 : Int) < (NL : Int) := by omega
              have hv2 := HV.out
              rw [if_pos (by omega)] at hv2
              have HV2 := hide hv2
              clear hv2 hnx hacc
              go_wp2_with (first | (go_at_call 30; refine (KP.out _ (HL.out.below HBA.out) (HZ.out.below HBA.out)).mono ?_; rintro e z ⟨rfl, hbz⟩; have HBZ := hide (HBDA.out.below hbz); have HZ2 := hide (bseq HBA.out hbz); have hszZ : W1.heap.size ≤ z.heap.size := Nat.le_trans hszA hbz.size; clear hbz) | (go_at_call 22; refine (bwriteString _ _ acc _ _ HBZ.out hw2 hszZ).mono ?_; rintro e u ⟨⟨ev, rfl⟩, hBu, hbu⟩; rw [show (⟨P.toArray⟩ : ByteArray).data.toList = P from by simp] at hBu; have HBU := hide hBu; have HU := hide (HZ2.out.trans (hbu.mono hWw)); have hszU : W1.heap.size ≤ u.heap.size := Nat.le_trans hszZ hbu.size; have klu := blen _ _ _ _ hBu; rw [hNL] at klu; have KLU := hide klu; clear hBu hbu HBZ klu) | (go_at_call 31; refine (KLU.out).mono ?_; rintro e u2 ⟨rfl, hu2⟩; subst hu2))
              go_ret2
              exact ⟨by rw [HV2.out]; rfl, HU.out⟩
            · have hbigI : (NL : Int) ≤ (16384 : Int) := by omega
              have HNX := hide hnx
              have HNL := hide hNL
              clear hnx hacc
              go_wp2_with (first | (go_at_call 30; refine (KP.out _ (HL.out.below HBA.out) (HZ.out.below HBA.out)).mono ?_; rintro e z ⟨rfl, hbz⟩; have HBZ := hide (HBDA.out.below hbz); have HZ2 := hide (bseq HBA.out hbz); have hszZ : W1.heap.size ≤ z.heap.size := Nat.le_trans hszA hbz.size; clear hbz) | (go_at_call 22; refine (bwriteString _ _ acc _ _ HBZ.out hw2 hszZ).mono ?_; rintro e u ⟨⟨ev, rfl⟩, hBu, hbu⟩; rw [show (⟨P.toArray⟩ : ByteArray).data.toList = P from by simp] at hBu; have HBU := hide hBu; have HU := hide (HZ2.out.trans (hbu.mono hWw)); have hszU : W1.heap.size ≤ u.heap.size := Nat.le_trans hszZ hbu.size; have klu := blen _ _ _ _ hBu; rw [hNL] at klu; have KLU := hide klu; clear hBu hbu HBZ klu) | (go_at_call 31; refine (KLU.out).mono ?_; rintro e u2 ⟨rfl, hu2⟩; subst hu2))
              go_roundw
              case rel => exact ⟨j + 1, by go_num, by omega, by rw [HNX.out, HNL.out]; omega, by rw [HNX.out]; exact HBU.out, HU.out, hszU⟩
              case measure => simp [intOf]; omega
          · rw [if_neg hj0] at hnx
            have hjI : (0 : Int) < (j : Int) := by omega
            have hw1 : acc.length + 1 ≤ 140737488355328 := by omega
            have hw2 : (acc ++ [32]).length + (⟨P.toArray⟩ : ByteArray).size ≤ 140737488355328 := by
              have : (⟨P.toArray⟩ : ByteArray).size = P.length := by simp [ByteArray.size]
              try simp only [List.length_append, List.length_cons, List.length_nil]
              omega
            obtain ⟨NL, hNL⟩ : ∃ NL, (acc ++ [32] ++ P).length = NL := ⟨_, rfl⟩
            rw [hnx, hNL] at hmo
            clear hxk hltI2
            by_cases hbig : 16384 < NL
            · have hbigI : (16384 : Int) < (NL : Int) := by omega
              have hv2 := HV.out
              rw [if_pos (by omega)] at hv2
              have HV2 := hide hv2
              clear hv2 hnx hacc
              go_wp2_with (first | (go_at_call 19; refine (bwriteByteK _ _ acc 32 _ HBDA.out hw1 hszA).mono ?_; rintro e y ⟨rfl, hBy, hby, hoy⟩; have hyc := hoy _ _ HCP.out hnb (by intro c fz h; cases h); obtain ⟨⟨q0, q1⟩, q2, q3⟩ := four_at hyc; have HBY := hide hBy; have HY := hide ((HBA.out).trans (hby.mono hWw)); have hszY : W1.heap.size ≤ y.heap.size := Nat.le_trans hszA hby.size; clear hBy hby hoy hyc HBDA) | (go_at_call 30; refine (KP.out _ (HL.out.below HY.out) (HZ.out.below HY.out)).mono ?_; rintro e z ⟨rfl, hbz⟩; have HBZ := hide (HBY.out.below hbz); have HZ2 := hide (bseq HY.out hbz); have hszZ : W1.heap.size ≤ z.heap.size := Nat.le_trans hszY hbz.size; clear hbz) | (go_at_call 22; refine (bwriteString _ _ (acc ++ [32]) _ _ HBZ.out hw2 hszZ).mono ?_; rintro e u ⟨⟨ev, rfl⟩, hBu, hbu⟩; rw [show (⟨P.toArray⟩ : ByteArray).data.toList = P from by simp] at hBu; have HBU := hide hBu; have HU := hide (HZ2.out.trans (hbu.mono hWw)); have hszU : W1.heap.size ≤ u.heap.size := Nat.le_trans hszZ hbu.size; have klu := blen _ _ _ _ hBu; rw [hNL] at klu; have KLU := hide klu; clear hBu hbu HBZ klu) | (go_at_call 31; refine (KLU.out).mono ?_; rintro e u2 ⟨rfl, hu2⟩; subst hu2))
              go_ret2
              exact ⟨by rw [HV2.out]; rfl, HU.out⟩
            · have hbigI : (NL : Int) ≤ (16384 : Int) := by omega
              have HNX := hide hnx
              have HNL := hide hNL
              clear hnx hacc
              go_wp2_with (first | (go_at_call 19; refine (bwriteByteK _ _ acc 32 _ HBDA.out hw1 hszA).mono ?_; rintro e y ⟨rfl, hBy, hby, hoy⟩; have hyc := hoy _ _ HCP.out hnb (by intro c fz h; cases h); obtain ⟨⟨q0, q1⟩, q2, q3⟩ := four_at hyc; have HBY := hide hBy; have HY := hide ((HBA.out).trans (hby.mono hWw)); have hszY : W1.heap.size ≤ y.heap.size := Nat.le_trans hszA hby.size; clear hBy hby hoy hyc HBDA) | (go_at_call 30; refine (KP.out _ (HL.out.below HY.out) (HZ.out.below HY.out)).mono ?_; rintro e z ⟨rfl, hbz⟩; have HBZ := hide (HBY.out.below hbz); have HZ2 := hide (bseq HY.out hbz); have hszZ : W1.heap.size ≤ z.heap.size := Nat.le_trans hszY hbz.size; clear hbz) | (go_at_call 22; refine (bwriteString _ _ (acc ++ [32]) _ _ HBZ.out hw2 hszZ).mono ?_; rintro e u ⟨⟨ev, rfl⟩, hBu, hbu⟩; rw [show (⟨P.toArray⟩ : ByteArray).data.toList = P from by simp] at hBu; have HBU := hide hBu; have HU := hide (HZ2.out.trans (hbu.mono hWw)); have hszU : W1.heap.size ≤ u.heap.size := Nat.le_trans hszZ hbu.size; have klu := blen _ _ _ _ hBu; rw [hNL] at klu; have KLU := hide klu; clear hBu hbu HBZ klu) | (go_at_call 31; refine (KLU.out).mono ?_; rintro e u2 ⟨rfl, hu2⟩; subst hu2))
              go_roundw
              case rel => exact ⟨j + 1, by go_num, by omega, by rw [HNX.out, HNL.out]; omega, by rw [HNX.out]; exact HBU.out, HU.out, hszU⟩
              case measure => simp [intOf]; omega
        · have hge2 : (xs.length : Int) ≤ (j : Int) := by omega
          have htk : xs.take j = xs := List.take_of_length_le (by omega)
          rw [htk] at HBD2 hlen
          have hv2 := HV.out
          rw [if_neg (by omega)] at hv2
          have HV2 := hide hv2
          clear hv2 htk
          go_wp2_with (go_at_call 24; refine (bstring _ _ _ _ HBD2.out hsz).mono ?_; rintro e z ⟨rfl, hBz, hbz⟩)
          go_ret2
          exact ⟨by rw [HV2.out]; rfl, HB2.out.trans (hbz.mono HB.out.size)⟩
end Go.Proofs.YtmhbhpjpnmggkaaDoor
namespace Go.Proofs.YtmhbhpjpnmggkaaDoor
open Go.RowKit Go.Shelf
set_option linter.unusedVariables false

/-- A token: kind, place, text, number. -/
abbrev Tk := Int × Nat × List UInt8 × Int
def tkC (t : Tk) : List Value := [.int .i64 t.1, .int .i64 (t.2.1 : Int), .string ⟨t.2.2.1.toArray⟩, .int .i64 t.2.2.2]
theorem tkC_len (xs : List Tk) : (xs.flatMap tkC).length = xs.length * 4 := by
  induction xs with
  | nil => rfl
  | cons x xs ih => simp [List.flatMap_cons, ih, tkC]; omega
/-- The token of a run. -/
def saidT (l : List UInt8) (a : Nat) : Tk := match numK l with
  | some n => (2, a, [], n)
  | none => (1, a, l, 0)
theorem saidV_T (s : ByteArray) (a : Nat) : saidV s (a : Int) = .agg (tkC (saidT (bl s) a)).toArray := by
  unfold saidV saidT tok tkC
  cases numK (bl s) <;> rfl
theorem qtd_le (n : Nat) : ∀ l : List UInt8, (qtd n l).2.1 ≤ l.length := by
  induction n with
  | zero => intro l; exact Nat.zero_le _
  | succ n ih =>
    intro l
    unfold qtd
    split
    · rename_i h; exact h.1
    · split
      · split
        · exact Nat.zero_le _
        · have h1 := escL_small l
          have h2 := ih (l.drop (escL l).2)
          rw [List.length_drop] at h2
          simp only
          omega
      · split
        · rename_i h3
          have hne := first_ne h3.1
          have h1 := cw_len l hne
          have h2 := ih (l.drop (cw l))
          rw [List.length_drop] at h2
          simp only
          omega
        · exact Nat.zero_le _
theorem Qt_le (l : List UInt8) : (Qt l).2.1 ≤ l.length := qtd_le _ l
/-- What comes of a line from a place on, behind these tokens: all tokens, or a fault and its place. -/
def scF : Nat → List UInt8 → Nat → List Tk → List Tk ⊕ (Int × Nat)
  | 0, _, _, acc => .inl acc
  | n + 1, l, q, acc =>
    if q + skp blankC (l.drop q) = l.length then .inl acc
    else if by' l (q + skp blankC (l.drop q)) = 34 then
      if (Qt (l.drop (q + skp blankC (l.drop q) + 1))).2.2 = true then
        if q + skp blankC (l.drop q) + 1 + (Qt (l.drop (q + skp blankC (l.drop q) + 1))).2.1 = l.length ∨ blankC (by' l (q + skp blankC (l.drop q) + 1 + (Qt (l.drop (q + skp blankC (l.drop q) + 1))).2.1)) = true then
          scF n l (q + skp blankC (l.drop q) + 1 + (Qt (l.drop (q + skp blankC (l.drop q) + 1))).2.1) (acc ++ [(3, q + skp blankC (l.drop q), (Qt (l.drop (q + skp blankC (l.drop q) + 1))).1, 0)])
        else .inr (70, q + skp blankC (l.drop q) + 1 + (Qt (l.drop (q + skp blankC (l.drop q) + 1))).2.1)
      else .inr (71, q + skp blankC (l.drop q) + 1 + (Qt (l.drop (q + skp blankC (l.drop q) + 1))).2.1)
    else if 0 < skp runC (l.drop (q + skp blankC (l.drop q))) then
      if q + skp blankC (l.drop q) + skp runC (l.drop (q + skp blankC (l.drop q))) = l.length ∨ blankC (by' l (q + skp blankC (l.drop q) + skp runC (l.drop (q + skp blankC (l.drop q))))) = true then
        scF n l (q + skp blankC (l.drop q) + skp runC (l.drop (q + skp blankC (l.drop q)))) (acc ++ [saidT ((l.drop (q + skp blankC (l.drop q))).take (skp runC (l.drop (q + skp blankC (l.drop q))))) (q + skp blankC (l.drop q))])
      else .inr (70, q + skp blankC (l.drop q) + skp runC (l.drop (q + skp blankC (l.drop q))))
    else .inr (70, q + skp blankC (l.drop q))
theorem scF_fuel (n : Nat) : ∀ (m : Nat) (l : List UInt8) (q : Nat) (acc : List Tk), l.length - q < n → l.length - q < m → q ≤ l.length → scF n l q acc = scF m l q acc := by
  induction n with
  | zero => intro m l q acc h; omega
  | succ n ih =>
    intro m l q acc h1 h2 hq
    cases m with
    | zero => omega
    | succ m =>
      have hp := skp_le blankC (l.drop q)
      rw [List.length_drop] at hp
      unfold scF
      generalize hP : q + skp blankC (l.drop q) = p
      have hpl : p ≤ l.length := by omega
      have hqp : q ≤ p := by omega
      have hE := Qt_le (l.drop (p + 1))
      have hR := skp_le runC (l.drop p)
      rw [List.length_drop] at hE hR
      split
      · rfl
      · split
        · split
          · split
            · exact ih m l _ _ (by omega) (by omega) (by omega)
            · rfl
          · rfl
        · split
          · split
            · exact ih m l _ _ (by omega) (by omega) (by omega)
            · rfl
          · rfl
def Sc (l : List UInt8) (q : Nat) (acc : List Tk) : List Tk ⊕ (Int × Nat) := scF (l.length - q + 1) l q acc
theorem Sc_eq {l : List UInt8} {q p : Nat} (acc : List Tk) (hq : q ≤ l.length) (hP : q + skp blankC (l.drop q) = p) : Sc l q acc =
    if p = l.length then .inl acc
    else if by' l p = 34 then
      if (Qt (l.drop (p + 1))).2.2 = true then
        if p + 1 + (Qt (l.drop (p + 1))).2.1 = l.length ∨ blankC (by' l (p + 1 + (Qt (l.drop (p + 1))).2.1)) = true then Sc l (p + 1 + (Qt (l.drop (p + 1))).2.1) (acc ++ [(3, p, (Qt (l.drop (p + 1))).1, 0)])
        else .inr (70, p + 1 + (Qt (l.drop (p + 1))).2.1)
      else .inr (71, p + 1 + (Qt (l.drop (p + 1))).2.1)
    else if 0 < skp runC (l.drop p) then
      if p + skp runC (l.drop p) = l.length ∨ blankC (by' l (p + skp runC (l.drop p))) = true then Sc l (p + skp runC (l.drop p)) (acc ++ [saidT ((l.drop p).take (skp runC (l.drop p))) p])
      else .inr (70, p + skp runC (l.drop p))
    else .inr (70, p) := by
  have hp := skp_le blankC (l.drop q)
  rw [List.length_drop] at hp
  have hpl : p ≤ l.length := by omega
  have hqp : q ≤ p := by omega
  have hE := Qt_le (l.drop (p + 1))
  have hR := skp_le runC (l.drop p)
  rw [List.length_drop] at hE hR
  conv => lhs; unfold Sc scF
  rw [hP]
  split
  · rfl
  · split
    · split
      · split
        · exact scF_fuel _ _ l _ _ (by omega) (by omega) (by omega)
        · rfl
      · rfl
    · split
      · split
        · exact scF_fuel _ _ l _ _ (by omega) (by omega) (by omega)
        · rfl
      · rfl
end Go.Proofs.YtmhbhpjpnmggkaaDoor
namespace Go.Proofs.YtmhbhpjpnmggkaaDoor
open Go.RowKit Go.Shelf
set_option linter.unusedVariables false

theorem Tryd.infoTk : (Tryd.prog.info? 46).map (fun i => (i.zero, i.size, i.bytes)) = some (some (.agg #[.int .i64 0, .int .i64 0, .string ⟨#[]⟩, .int .i64 0]), 4, 40) := by kernel_rfl
/-- A row of tokens that the call owns. -/
def RowT (W : World) (base : Nat) (v : Value) (ts : List Tk) : Prop := W.ownsRow base 46 4 v ts.length (ts.flatMap tkC)
theorem RowT.keep {W W' : World} {base : Nat} {v : Value} {ts : List Tk} (h : RowT W base v ts) (hk : ∀ j, base ≤ j → j < W.heap.size → W'.heap[j]? = W.heap[j]?) : RowT W' base v ts := by
  refine ⟨h.1, ?_⟩
  rcases h.2 with h2 | ⟨g, cap, cur, hv, hg, hh, r⟩
  · exact .inl h2
  · exact .inr ⟨g, cap, cur, hv, hg, (hk g hg (Array.getElem?_eq_some_iff.1 hh).1).trans hh, r⟩
theorem RowT.grown {W W' : World} {base b : Nat} {v : Value} {ts : List Tk} (h : RowT W base v ts) (hb : b < base) (g : W.grownBy W' (some b)) : RowT W' base v ts :=
  h.keep (fun j hj hl => g.block j hl (fun e => by cases e; omega))
theorem RowT.below {W W' : World} {base : Nat} {v : Value} {ts : List Tk} (h : RowT W base v ts) (g : Below W.heap.size W W') : RowT W' base v ts :=
  h.keep (fun j hj hl => g.block j hl)
theorem cell4_new (W : World) (t : TypeId) (a b c d : Value) : ∀ j u, [a, b, c, d][j]? = some u → (W.alloc (.cells #[a, b, c, d] t)).cell? ((⟨W.heap.size, 0, none⟩ : Addr).add j) = some u := by
  intro j u hj
  match j, hj with
  | 0, hj => simp at hj; subst hj; simp [Addr.add]
  | 1, hj => simp at hj; subst hj; simp [Addr.add]
  | 2, hj => simp at hj; subst hj; simp [Addr.add]
  | 3, hj => simp at hj; subst hj; simp [Addr.add]
  | n + 4, hj => simp at hj
theorem flatT_snoc (xs : List Tk) (x : Tk) : (xs ++ [x]).flatMap tkC = xs.flatMap tkC ++ [.int .i64 x.1, .int .i64 (x.2.1 : Int), .string ⟨x.2.2.1.toArray⟩, .int .i64 x.2.2.2] := by
  rw [List.flatMap_append]; simp [tkC]
theorem mix_block {c rest : Code} {P : Program} {Q : Exit → Act → World → Prop} {J : Act → World → Prop} {K : Act → World → Prop} {n l id : Nat} {a : Act} {w : World} (hf : findLabel c (l + 1) = some rest) (h : rest.wp P (jumpA (mixJ c P Q J n) Q) a w) : Exit.inBlock id (Exit.then K (jumpA (mixJ c P Q J (n + 1)) Q)) (.goto (l + 1)) a w := ⟨rest, hf, h⟩
/-- What Scan answers. -/
def ScPost (R : List Tk ⊕ (Int × Nat)) (w : World) (e : Ending) (w' : World) : Prop := match R with
  | .inl ts => ∃ v, e = .returned (.tuple #[v, .nilIface]) ∧ RowT w' (w.heap.size + 1) v ts ∧ Below w.heap.size w w'
  | .inr (c, a) => ∃ k, e = .returned (.tuple #[.slice none 0 0, .iface 76 (.pointer (some ⟨k, 0, none⟩))]) ∧ w.heap.size ≤ k ∧ w'.heap[k]? = some (.cells #[.int .i64 c, .int .i64 (a : Int)] 78 (0, 0)) ∧ Below w.heap.size w w'
theorem below_grownB {w x y : World} (h : Below w.heap.size w x) (g : x.grownBy y (some w.heap.size)) : Below w.heap.size w y := h.grown g h.size (fun k e => by cases e; exact Nat.le_refl _)
/-- What holds ahead of each token. -/
def ScJ (w : World) (s : ByteArray) (R : List Tk ⊕ (Int × Nat)) (a : Act) (wr : World) : Prop :=
  ∃ t1 t2 t3 t5 t6 t7 t9 t10 t11 t12 t13 t14 t15 t16 t17 t18 t19 t20 t21 t22 t23 t24 t25 t26 t27 t28 t29 t30 t31 t32 t33 t34 t35 t36 t37 t38 t39 t40 t41 t42 t43 t44 t45 t46 t47 t48 t49 t50 t51 t52 t53 t54 t55 t56 t57 t58 t59 t60 t61 t62 t63 t64 t65 t66 v : Value, a = { tmps := #[.string s, t1, t2, t3, v, t5, t6, t7, .pointer (some ⟨w.heap.size, 0, none⟩), t9, t10, t11, t12, t13, t14, t15, t16, t17, t18, t19, t20, t21, t22, t23, t24, t25, t26, t27, t28, t29, t30, t31, t32, t33, t34, t35, t36, t37, t38, t39, t40, t41, t42, t43, t44, t45, t46, t47, t48, t49, t50, t51, t52, t53, t54, t55, t56, t57, t58, t59, t60, t61, t62, t63, t64, t65, t66], defers := [] } ∧
    ∃ (q : Nat) (acc : List Tk), q ≤ s.size ∧ acc.length ≤ q ∧ R = Sc (bl s) q acc ∧ Rd wr w.heap.size s q ∧ RowT wr (w.heap.size + 1) v acc ∧ Below w.heap.size w wr
set_option maxRecDepth 100000 in
set_option maxHeartbeats 16000000 in
theorem scan_any (s : ByteArray) (w : World) (hs : s.size ≤ 16384) (hL : LaidW w) :
    Calls Tryd.prog 17 #[.string s] w fun e w' => ScPost (Sc (bl s) 0 []) w e w' := by
  have HL := hide hL
  have hs' : s.size ≤ 140737488355328 := by omega
  obtain ⟨i0, hi, hz0, hz1, hz2⟩ := info_parts Tryd.infoTk
  clear hL
  have hR0 : Rd (w.alloc (.cells #[.string s, .int .i64 0] 80)) w.heap.size s 0 := heap_alloc_new w _
  have hB0 : Below w.heap.size w (w.alloc (.cells #[.string s, .int .i64 0] 80)) := (Below.refl _ _).alloc (Nat.le_refl _) _
  generalize hRR : Sc (bl s) 0 [] = R
  have HR0 := hide hR0
  have HB0 := hide hB0
  have HRR := hide hRR
  clear hR0 hB0 hRR
  go_enter Tryd.func17, Tryd.ntmps17
  go_wp2_with (fail)
  refine wp_scope_mixR 4 (ScJ w s R) (fun _ wr => s.size - (intOf ((wr.cell? ⟨w.heap.size, 1, none⟩).getD undef)).toNat) rfl ?_ ?_
  · intro a wr hJ
    obtain ⟨t1, t2, t3, t5, t6, t7, t9, t10, t11, t12, t13, t14, t15, t16, t17, t18, t19, t20, t21, t22, t23, t24, t25, t26, t27, t28, t29, t30, t31, t32, t33, t34, t35, t36, t37, t38, t39, t40, t41, t42, t43, t44, t45, t46, t47, t48, t49, t50, t51, t52, t53, t54, t55, t56, t57, t58, t59, t60, t61, t62, t63, t64, t65, t66, v, rfl, q, acc, hqs, hal, hR, hRd, hrow, hB⟩ := hJ
    have hmu : s.size - (intOf ((wr.cell? ⟨w.heap.size, 1, none⟩).getD undef)).toNat = s.size - q := by rw [hRd.at]; simp [intOf]
    rw [hmu]
    obtain ⟨p, hp⟩ : ∃ p, q + skp blankC ((bl s).drop q) = p := ⟨_, rfl⟩
    have hple := skp_le blankC ((bl s).drop q)
    rw [List.length_drop, bl_len] at hple
    have hps : p ≤ s.size := by omega
    have hqp : q ≤ p := by omega
    have hSc := Sc_eq acc (by rw [bl_len]; exact hqs) hp
    rw [← hR, bl_len] at hSc
    have ks := skipBlank w.heap.size s q wr hRd hqs hs'
    rw [hp] at ks
    generalize decide (0 < skp blankC ((bl s).drop q)) = sb at ks
    have kd := fun x h => done_any w.heap.size s p x h hps
    have KS := hide ks
    have HROW := hide hrow
    have HB := hide hB
    clear hRd hrow hB hmu ks hR hp hple
    have SKIP := True.intro
    by_cases hpe : p = s.size
    · rw [decide_eq_true hpe] at kd
      have KD := hide kd
      rw [if_pos hpe] at hSc
      subst hSc
      clear kd hpe SKIP
      go_wp2_with (first | (go_at_call 41; refine (KS.out).mono ?_; rintro e x ⟨rfl, hRx, hgx⟩; have HRX := hide hRx; have HROWX := hide (HROW.out.grown (Nat.lt_succ_self _) hgx); have HBX := hide (below_grownB HB.out hgx); have x1 := hRx.at; clear hRx hgx KS) | (go_at_call 40; refine (KD.out _ HRX.out).mono ?_; rintro e z ⟨rfl, nz, hz9⟩; subst hz9))
      rw [jumpA_ret]
      go_ret2
      exact ⟨_, rfl, HROWX.out, below_drewN HBX.out nz⟩
    rw [decide_eq_false hpe] at kd
    have KD := hide kd
    rw [if_neg hpe] at hSc
    have hpl : p < s.size := by omega
    have hplI : (p : Int) < (s.size : Int) := by omega
    clear kd hpe SKIP
    by_cases c34 : by' (bl s) p = 34
    · have e34 : isAt s p 34 = true := by unfold isAt; rw [decide_eq_true hpl, decide_eq_true c34]; rfl
      rw [if_pos c34] at hSc
      have kt := fun x h => takes_yes w.heap.size s p 34 x h hps hs' e34
      have kq := fun x h => quoted_any w.heap.size s (p + 1) x h (by omega) hs'
      have hEl := Qt_le ((bl s).drop (p + 1))
      rw [List.length_drop, bl_len] at hEl
      obtain ⟨T, E, ok, hQ⟩ : ∃ T E ok, Qt ((bl s).drop (p + 1)) = (T, E, ok) := ⟨_, _, _, rfl⟩
      rw [hQ] at hSc kq hEl
      simp only at hSc kq hEl
      have KT := hide kt
      clear kt e34 c34 hQ
      obtain ⟨e, he⟩ : ∃ e, p + 1 + E = e := ⟨_, rfl⟩
      rw [he] at hSc kq
      have heS : e ≤ s.size := by omega
      have hqe : q < e := by omega
      clear he hEl
      cases ok with
      | false =>
        simp only [Bool.false_eq_true, if_false] at hSc kq
        subst hSc
        have KQ := hide kq
        clear kq
        go_wp2_with (first | (go_at_call 41; refine (KS.out).mono ?_; rintro e x ⟨rfl, hRx, hgx⟩; have HRX := hide hRx; have HROWX := hide (HROW.out.grown (Nat.lt_succ_self _) hgx); have HBX := hide (below_grownB HB.out hgx); have x1 := hRx.at; clear hRx hgx KS) | (go_at_call 40; refine (KD.out _ HRX.out).mono ?_; rintro e z ⟨rfl, nz, hz9⟩; have HRZ := hide (HRX.out.drewN nz); have HBZ := hide (below_drewN HBX.out nz); rw [← hz9] at HRZ HBZ; clear hz9 HRX) | (go_at_call 38; refine (KT.out _ HRZ.out).mono ?_; rintro e y ⟨rfl, hRy, hgy⟩; have HRY := hide hRy; have HBY := hide (below_grownB HBZ.out hgy); clear hRy hgy HRZ))
        go_step3
        first | refine mix_then rfl ?_ | refine mix_zero ?_ | refine mix_block rfl ?_
        go_wp2_with (first | (go_at_call 39; refine (KQ.out _ HRY.out).mono ?_; rintro e u ⟨rfl, hRu, hgu⟩; have HRU := hide hRu; have HBU := hide (below_grownB HBY.out hgu); clear hRu hgu HRY))
        have x1 : u.cell? ⟨w.heap.size, 1, none⟩ = some (.int .i64 (e : Int)) := HRU.out.at
        refine Go.wp_mono (Q := noPanS _) ?_ noPanS_le
        refine wp_region_held_drew (S := fun W => W.cell? ⟨w.heap.size, 1, none⟩ = some (.int .i64 (e : Int))) (by kernel_rfl) x1 (fun hS => ?_)
        refine wpAnyH_take (i := 0) (v := .pointer (some ⟨w.heap.size, 1, none⟩)) rfl (by kernel_rfl) (by kernel_rfl) (by kernel_rfl) (fun _ _ _ h => h) (Or.inl ⟨by kernel_rfl, fun w' hw => by go_simp⟩) hS ?_
        refine wpAnyH_take (i := 1) (v := .int .i64 (e : Int)) rfl (by kernel_rfl) (by kernel_rfl) (by kernel_rfl) (fun _ _ _ h => h) (Or.inl ⟨by kernel_rfl, fun w' hw => by go_simp⟩) hS ?_
        refine wpAnyH_take (i := 2) (v := .agg #[.int .i64 71, .int .i64 (e : Int)]) rfl (by kernel_rfl) (by kernel_rfl) (by kernel_rfl) (fun _ _ _ h => h) (Or.inl ⟨by kernel_rfl, fun w' hw => by go_simp⟩) hS ?_
        refine wpAnyH_take (i := 5) (v := .slice none 0 0) rfl (by kernel_rfl) (by kernel_rfl) (by kernel_rfl) (fun _ _ _ h => h) (Or.inl ⟨by kernel_rfl, fun w' hw => by go_simp⟩) hS ?_
        refine wpAnyH_ready (rs := [3]) (by kernel_rfl) (by simp) ?_
        refine AllReadyH.cons rfl (fun K hK => ?_) AllReadyH.nil
        rw [if_pos (by kernel_rfl)]
        go_simp
        have hBA : Below u.heap.size u (u.alloc (.cells #[.int .i64 71, .int .i64 (e : Int)] 78)).drew := ((Below.refl _ u).alloc (Nat.le_refl _) _).drew
        have hS2 : (u.alloc (.cells #[.int .i64 71, .int .i64 (e : Int)] 78)).drew.cell? ⟨w.heap.size, 1, none⟩ = some (.int .i64 (e : Int)) := (hBA.cell (World.block_lt_of_cell? _ _ x1)).trans x1
        have hN : (u.alloc (.cells #[.int .i64 71, .int .i64 (e : Int)] 78)).drew.heap[u.heap.size]? = some (.cells #[.int .i64 71, .int .i64 (e : Int)] 78 (0, 0)) := heap_alloc_new u _
        refine hK.out _ _ hS2 (fun _ => ?_)
        clear hK K
        generalize (u.alloc (.cells #[.int .i64 71, .int .i64 (e : Int)] 78)).drew = Y at *
        refine wpAnyH_take (i := 4) (v := .iface 76 (.pointer (some ⟨u.heap.size, 0, none⟩))) rfl (by kernel_rfl) (by kernel_rfl) (by kernel_rfl) (fun _ _ _ h => h) (Or.inl ⟨by kernel_rfl, fun w' hw => by go_simp⟩) hS2 ?_
        refine wpAnyH_take (i := 6) (v := .iface 76 (.pointer (some ⟨u.heap.size, 0, none⟩))) rfl (by kernel_rfl) (by kernel_rfl) (by kernel_rfl) (fun _ _ _ h => h) (Or.inl ⟨by kernel_rfl, fun w' hw => by go_simp⟩) hS2 ?_
        refine wpAnyH_done (by kernel_rfl) (noPanS_normal ?_) _
        try simp only [Act.put, List.getElem_toArray, List.getElem_cons_zero, List.getElem_cons_succ, List.setIfInBounds_toArray, List.set_cons_zero, List.set_cons_succ]
        go_wp2_with (fail)
        rw [jumpA_ret]
        go_ret2
        exact ⟨u.heap.size, rfl, HBU.out.size, hN, bseq HBU.out hBA⟩
      | true =>
        simp only [if_true] at hSc kq
        have KQ := hide kq
        have HSC := hide hSc
        clear kq hSc
        go_wp2_with (first | (go_at_call 41; refine (KS.out).mono ?_; rintro e x ⟨rfl, hRx, hgx⟩; have HRX := hide hRx; have HROWX := hide (HROW.out.grown (Nat.lt_succ_self _) hgx); have HBX := hide (below_grownB HB.out hgx); have x1 := hRx.at; clear hRx hgx KS) | (go_at_call 40; refine (KD.out _ HRX.out).mono ?_; rintro e z ⟨rfl, nz, hz9⟩; have HRZ := hide (HRX.out.drewN nz); have HBZ := hide (below_drewN HBX.out nz); have HROWZ := hide (show RowT (_) (w.heap.size + 1) v acc from HROWX.out.keep (W' := z) (fun j _ _ => by rw [hz9]; rfl)); rw [← hz9] at HRZ HBZ; clear hz9 HRX) | (go_at_call 38; refine (KT.out _ HRZ.out).mono ?_; rintro e y ⟨rfl, hRy, hgy⟩; have HRY := hide hRy; have HBY := hide (below_grownB HBZ.out hgy); have HROWY := hide (HROWZ.out.grown (Nat.lt_succ_self _) hgy); clear hRy hgy HRZ))
        go_step3
        first | refine mix_then rfl ?_ | refine mix_zero ?_ | refine mix_block rfl ?_
        go_wp2_with (first | (go_at_call 39; refine (KQ.out _ HRY.out).mono ?_; rintro e u ⟨rfl, hRu, hgu⟩; have HRU := hide hRu; have HBU := hide (below_grownB HBY.out hgu); have HROWU := hide (HROWY.out.grown (Nat.lt_succ_self _) hgu); have hzu : w.heap.size < u.heap.size := hRu.lt; clear hRu hgu HRY) | (at_builtin; refine wpList_append_own_at _ rfl _ _ 25 rfl (w.heap.size + 1) 46 i0 (.agg #[.int .i64 0, .int .i64 0, .string ⟨#[]⟩, .int .i64 0]) 4 40 Tryd.underlying25 hi hz0 hz1 hz2 rfl (by decide) _ _ _ rfl (HROWU.out.alloc _) ⟨u.heap.size, 0, none⟩ 1 1 [.int .i64 3, .int .i64 (p : Int), .string ⟨T.toArray⟩, .int .i64 0] rfl rfl (cell4_new _ _ _ _ _ _) (by simp [Value.oneCell']) (by unfold maxLen; omega) (by omega) (by have := hzu; simp; omega) ?_; intro v' w3 hown' hgrow _ _))
        have hb3 : Below w.heap.size w w3 := (HBU.out.alloc HBU.out.size _).grown hgrow (by have := hzu; simp; omega) (fun k e9 => by have := (HROWU.out.lt k e9).1; omega)
        have hR3 : Rd w3 w.heap.size s e := (hgrow.block w.heap.size (by have := hzu; simp; omega) (fun e9 => by have := (HROWU.out.lt w.heap.size e9.symm).1; omega)).trans ((HRU.out).below (by have := hzu; omega) ((Below.refl _ u).alloc (Nat.le_refl _) _))
        have hrow3 : RowT w3 (w.heap.size + 1) v' (acc ++ [(3, p, T, 0)]) := by
          unfold RowT
          rw [flatT_snoc, List.length_append, List.length_singleton]
          exact hown'
        have HR3 := hide hR3
        have HROW3 := hide hrow3
        have HB3 := hide hb3
        have d1 := hR3.at
        clear hR3 hrow3 hb3 hgrow hown'
        go_step3
        have kd3 := fun x h => done_any w.heap.size s e x h heS
        by_cases hend : e = s.size
        · rw [decide_eq_true hend] at kd3
          have KD3 := hide kd3
          have hSc2 := HSC.out
          rw [if_pos (Or.inl hend)] at hSc2
          have HSC2 := hide hSc2
          clear kd3 hSc2 hend
          go_wp2_with (first | (go_at_call 40; refine (KD3.out _ HR3.out).mono ?_; rintro e9 z ⟨rfl, nz, hz9⟩; subst hz9))
          go_step3
          first | refine mix_then rfl ?_ | refine mix_zero ?_ | refine mix_block rfl ?_
          refine ⟨⟨_, _, _, _, _, _, _, _, _, _, _, _, _, _, _, _, _, _, _, _, _, _, _, _, _, _, _, _, _, _, _, _, _, _, _, _, _, _, _, _, _, _, _, _, _, _, _, _, _, _, _, _, _, _, _, _, _, _, _, _, _, _, _, _, _, rfl, e, acc ++ [(3, p, T, 0)], heS, by rw [List.length_append, List.length_singleton]; omega, HSC2.out, HR3.out.drewN nz, HROW3.out, below_drewN HB3.out nz⟩, ?_⟩
          rw [(HR3.out.drewN nz).at]
          simp only [Option.getD_some, intOf, Int.toNat_natCast]
          omega
        · rw [decide_eq_false hend] at kd3
          have KD3 := hide kd3
          have heLt : e < s.size := by omega
          have heI : ((e : Nat) : Int) < (s.size : Int) := by omega
          have hbe : by' (bl s) e = (s[e]'heLt).toNat := by'_get s e heLt
          have kb := fun W => isBlank_any (s[e]'heLt).toNat W (UInt8.toNat_lt _)
          rw [← hbe] at kb
          cases hbl : blankC (by' (bl s) e) with
          | true =>
            have hSc2 := HSC.out
            rw [if_pos (Or.inr hbl)] at hSc2
            rw [hbl, hbe] at kb
            have HSC2 := hide hSc2
            have KB := hide kb
            clear kd3 hSc2 kb hbl hbe
            go_wp2_with (first | (go_at_call 40; refine (KD3.out _ HR3.out).mono ?_; rintro e9 z ⟨rfl, nz, hz9⟩; subst hz9) | (go_at_call 42; refine (KB.out _).mono ?_; rintro e9 z9 ⟨rfl, hz8⟩; subst hz8))
            go_step3
            first | refine mix_then rfl ?_ | refine mix_zero ?_ | refine mix_block rfl ?_
            refine ⟨⟨_, _, _, _, _, _, _, _, _, _, _, _, _, _, _, _, _, _, _, _, _, _, _, _, _, _, _, _, _, _, _, _, _, _, _, _, _, _, _, _, _, _, _, _, _, _, _, _, _, _, _, _, _, _, _, _, _, _, _, _, _, _, _, _, _, rfl, e, acc ++ [(3, p, T, 0)], heS, by rw [List.length_append, List.length_singleton]; omega, HSC2.out, HR3.out.drewN nz, HROW3.out, below_drewN HB3.out nz⟩, ?_⟩
            rw [(HR3.out.drewN nz).at]
            simp only [Option.getD_some, intOf, Int.toNat_natCast]
            omega
          | false =>
            have hSc2 := HSC.out
            rw [if_neg (fun h => h.elim hend (fun h2 => by rw [hbl] at h2; exact absurd h2 (by decide)))] at hSc2
            rw [hbl, hbe] at kb
            subst hSc2
            have KB := hide kb
            clear kd3 kb hbl hbe
            go_wp2_with (first | (go_at_call 40; refine (KD3.out _ HR3.out).mono ?_; rintro e9 z ⟨rfl, nz, hz9⟩; have HRZ := hide (HR3.out.drewN nz); have HBZ := hide (below_drewN HB3.out nz); rw [← hz9] at HRZ HBZ; have d2 := HRZ.out.at; clear hz9) | (go_at_call 42; refine (KB.out _).mono ?_; rintro e9 z9 ⟨rfl, hz8⟩; subst hz8))
            go_step3
            go_wp2_with (fail)
            have x1 : z9.cell? ⟨w.heap.size, 1, none⟩ = some (.int .i64 ((e : Nat) : Int)) := HRZ.out.at
            refine Go.wp_mono (Q := noPanS _) ?_ noPanS_le
            refine wp_region_held_drew (S := fun W => W.cell? ⟨w.heap.size, 1, none⟩ = some (.int .i64 ((e : Nat) : Int))) (by kernel_rfl) x1 (fun hS => ?_)
            refine wpAnyH_take (i := 0) (v := .pointer (some ⟨w.heap.size, 1, none⟩)) rfl (by kernel_rfl) (by kernel_rfl) (by kernel_rfl) (fun _ _ _ h => h) (Or.inl ⟨by kernel_rfl, fun w' hw => by go_simp⟩) hS ?_
            refine wpAnyH_take (i := 1) (v := .int .i64 ((e : Nat) : Int)) rfl (by kernel_rfl) (by kernel_rfl) (by kernel_rfl) (fun _ _ _ h => h) (Or.inl ⟨by kernel_rfl, fun w' hw => by go_simp⟩) hS ?_
            refine wpAnyH_take (i := 2) (v := .agg #[.int .i64 70, .int .i64 ((e : Nat) : Int)]) rfl (by kernel_rfl) (by kernel_rfl) (by kernel_rfl) (fun _ _ _ h => h) (Or.inl ⟨by kernel_rfl, fun w' hw => by go_simp⟩) hS ?_
            refine wpAnyH_take (i := 5) (v := .slice none 0 0) rfl (by kernel_rfl) (by kernel_rfl) (by kernel_rfl) (fun _ _ _ h => h) (Or.inl ⟨by kernel_rfl, fun w' hw => by go_simp⟩) hS ?_
            refine wpAnyH_ready (rs := [3]) (by kernel_rfl) (by simp) ?_
            refine AllReadyH.cons rfl (fun K hK => ?_) AllReadyH.nil
            rw [if_pos (by kernel_rfl)]
            go_simp
            have hBA : Below z9.heap.size z9 (z9.alloc (.cells #[.int .i64 70, .int .i64 ((e : Nat) : Int)] 78)).drew := ((Below.refl _ z9).alloc (Nat.le_refl _) _).drew
            have hS2 : (z9.alloc (.cells #[.int .i64 70, .int .i64 ((e : Nat) : Int)] 78)).drew.cell? ⟨w.heap.size, 1, none⟩ = some (.int .i64 ((e : Nat) : Int)) := (hBA.cell (World.block_lt_of_cell? _ _ x1)).trans x1
            have hN : (z9.alloc (.cells #[.int .i64 70, .int .i64 ((e : Nat) : Int)] 78)).drew.heap[z9.heap.size]? = some (.cells #[.int .i64 70, .int .i64 ((e : Nat) : Int)] 78 (0, 0)) := heap_alloc_new z9 _
            refine hK.out _ _ hS2 (fun _ => ?_)
            clear hK K
            generalize (z9.alloc (.cells #[.int .i64 70, .int .i64 ((e : Nat) : Int)] 78)).drew = Y at *
            refine wpAnyH_take (i := 4) (v := .iface 76 (.pointer (some ⟨z9.heap.size, 0, none⟩))) rfl (by kernel_rfl) (by kernel_rfl) (by kernel_rfl) (fun _ _ _ h => h) (Or.inl ⟨by kernel_rfl, fun w' hw => by go_simp⟩) hS2 ?_
            refine wpAnyH_take (i := 6) (v := .iface 76 (.pointer (some ⟨z9.heap.size, 0, none⟩))) rfl (by kernel_rfl) (by kernel_rfl) (by kernel_rfl) (fun _ _ _ h => h) (Or.inl ⟨by kernel_rfl, fun w' hw => by go_simp⟩) hS2 ?_
            refine wpAnyH_done (by kernel_rfl) (noPanS_normal ?_) _
            try simp only [Act.put, List.getElem_toArray, List.getElem_cons_zero, List.getElem_cons_succ, List.setIfInBounds_toArray, List.set_cons_zero, List.set_cons_succ]
            go_wp2_with (fail)
            rw [jumpA_ret]
            go_ret2
            exact ⟨z9.heap.size, rfl, HBZ.out.size, hN, bseq HBZ.out hBA⟩
    have e34 : isAt s p 34 = false := by unfold isAt; rw [decide_eq_false c34, Bool.and_false]
    rw [if_neg c34] at hSc
    have kt := fun x h => takes_no w.heap.size s p 34 x h hps hs' e34
    have kr := fun x h => skipRun w.heap.size s p x h hps hs'
    have hnl := skp_le runC ((bl s).drop p)
    rw [List.length_drop, bl_len] at hnl
    have hex : bl (s.extract p (p + skp runC ((bl s).drop p))) = ((bl s).drop p).take (skp runC ((bl s).drop p)) := by rw [bl_extract, Nat.add_sub_cancel_left]
    rw [← hex] at hSc
    clear hex
    generalize skp runC ((bl s).drop p) = n at *
    have KT := hide kt
    clear kt e34 c34
    by_cases hn : 0 < n
    · rw [decide_eq_true hn] at kr
      rw [if_pos hn] at hSc
      obtain ⟨e, he⟩ : ∃ e, p + n = e := ⟨_, rfl⟩
      rw [he] at hSc kr
      have heS : e ≤ s.size := by omega
      have hqe : q < e := by omega
      have hpeI : (p : Int) ≤ (e : Int) := by omega
      have heSI : (e : Int) ≤ (s.size : Int) := by omega
      have hxz : (s.extract p e).size ≤ 140737488355328 := by rw [ByteArray.size_extract]; omega
      have ksd := fun W h => said_any (s.extract p e) (p : Int) W hxz h
      rw [saidV_T] at ksd
      obtain ⟨k', a', tx, nu, hT⟩ : ∃ k' a' tx nu, saidT (bl (s.extract p e)) p = (k', a', tx, nu) := ⟨_, _, _, _, rfl⟩
      rw [hT] at ksd hSc
      have ksd' : ∀ (W : World) (h : LaidW W), Calls Tryd.prog 44 #[.string (s.extract p e), .int .i64 (p : Int)] W fun e w' => e = .returned (.agg #[.int .i64 k', .int .i64 (a' : Int), .string ⟨tx.toArray⟩, .int .i64 nu]) ∧ Below W.heap.size W w' := ksd
      have KSD := hide ksd'
      have KR := hide kr
      have HSC := hide hSc
      clear kr hn hSc he ksd ksd' hT hnl
      go_wp2_with (first | (go_at_call 41; refine (KS.out).mono ?_; rintro e x ⟨rfl, hRx, hgx⟩; have HRX := hide hRx; have HROWX := hide (HROW.out.grown (Nat.lt_succ_self _) hgx); have HBX := hide (below_grownB HB.out hgx); have x1 := hRx.at; clear hRx hgx KS) | (go_at_call 40; refine (KD.out _ HRX.out).mono ?_; rintro e z ⟨rfl, nz, hz9⟩; have HRZ := hide (HRX.out.drewN nz); have HBZ := hide (below_drewN HBX.out nz); have HROWZ := hide (show RowT (_) (w.heap.size + 1) v acc from HROWX.out.keep (W' := z) (fun j _ _ => by rw [hz9]; rfl)); rw [← hz9] at HRZ HBZ; clear hz9 HRX) | (go_at_call 38; refine (KT.out _ HRZ.out).mono ?_; rintro e y ⟨rfl, hRy, hgy⟩; have HRY := hide hRy; have HBY := hide (below_grownB HBZ.out hgy); have HROWY := hide (HROWZ.out.grown (Nat.lt_succ_self _) hgy); clear hRy hgy HRZ) | (go_at_call 41; refine (KR.out _ HRY.out).mono ?_; rintro e u ⟨rfl, hRu, hgu⟩; have HRU := hide hRu; have HBU := hide (below_grownB HBY.out hgu); have HROWU := hide (HROWY.out.grown (Nat.lt_succ_self _) hgu); have u1 := hRu.at; clear hRu hgu HRY) | (go_at_call 44; refine (KSD.out _ (HL.out.below HBU.out)).mono ?_; rintro e g ⟨rfl, hbg⟩; have HRG := hide (HRU.out.below HRU.out.lt hbg); have HBG := hide (bseq HBU.out hbg); have HROWG := hide (HROWU.out.below hbg); have hzg : w.heap.size < g.heap.size := HRG.out.lt; clear hbg) | (at_builtin; refine wpList_append_own_at _ rfl _ _ 25 rfl (w.heap.size + 1) 46 i0 (.agg #[.int .i64 0, .int .i64 0, .string ⟨#[]⟩, .int .i64 0]) 4 40 Tryd.underlying25 hi hz0 hz1 hz2 rfl (by decide) _ _ _ rfl (HROWG.out.alloc _) ⟨g.heap.size, 0, none⟩ 1 1 [.int .i64 k', .int .i64 (a' : Int), .string ⟨tx.toArray⟩, .int .i64 nu] rfl rfl (cell4_new _ _ _ _ _ _) (by simp [Value.oneCell']) (by unfold maxLen; omega) (by omega) (by have := hzg; simp; omega) ?_; intro v' w3 hown' hgrow _ _))
      have hb3 : Below w.heap.size w w3 := (HBG.out.alloc HBG.out.size _).grown hgrow (by have := hzg; simp; omega) (fun k e9 => by have := (HROWG.out.lt k e9).1; omega)
      have hR3 : Rd w3 w.heap.size s e := (hgrow.block w.heap.size (by have := hzg; simp; omega) (fun e9 => by have := (HROWG.out.lt w.heap.size e9.symm).1; omega)).trans ((HRG.out).below (by have := hzg; omega) ((Below.refl _ g).alloc (Nat.le_refl _) _))
      have hrow3 : RowT w3 (w.heap.size + 1) v' (acc ++ [(k', a', tx, nu)]) := by
        unfold RowT
        rw [flatT_snoc, List.length_append, List.length_singleton]
        exact hown'
      have HR3 := hide hR3
      have HROW3 := hide hrow3
      have HB3 := hide hb3
      have d1 := hR3.at
      clear hR3 hrow3 hb3 hgrow hown'
      go_step3
      first | refine mix_then rfl ?_ | refine mix_zero ?_ | refine mix_block rfl ?_
      have kd3 := fun x h => done_any w.heap.size s e x h heS
      by_cases hend : e = s.size
      · rw [decide_eq_true hend] at kd3
        have KD3 := hide kd3
        have hSc2 := HSC.out
        rw [if_pos (Or.inl hend)] at hSc2
        have HSC2 := hide hSc2
        clear kd3 hSc2 hend
        go_wp2_with (first | (go_at_call 40; refine (KD3.out _ HR3.out).mono ?_; rintro e9 z ⟨rfl, nz, hz9⟩; subst hz9))
        go_step3
        first | refine mix_then rfl ?_ | refine mix_zero ?_ | refine mix_block rfl ?_
        refine ⟨⟨_, _, _, _, _, _, _, _, _, _, _, _, _, _, _, _, _, _, _, _, _, _, _, _, _, _, _, _, _, _, _, _, _, _, _, _, _, _, _, _, _, _, _, _, _, _, _, _, _, _, _, _, _, _, _, _, _, _, _, _, _, _, _, _, _, rfl, e, acc ++ [(k', a', tx, nu)], heS, by rw [List.length_append, List.length_singleton]; omega, HSC2.out, HR3.out.drewN nz, HROW3.out, below_drewN HB3.out nz⟩, ?_⟩
        rw [(HR3.out.drewN nz).at]
        simp only [Option.getD_some, intOf, Int.toNat_natCast]
        omega
      · rw [decide_eq_false hend] at kd3
        have KD3 := hide kd3
        have heLt : e < s.size := by omega
        have heI : ((e : Nat) : Int) < (s.size : Int) := by omega
        have hbe : by' (bl s) e = (s[e]'heLt).toNat := by'_get s e heLt
        have kb := fun W => isBlank_any (s[e]'heLt).toNat W (UInt8.toNat_lt _)
        rw [← hbe] at kb
        cases hbl : blankC (by' (bl s) e) with
        | true =>
          have hSc2 := HSC.out
          rw [if_pos (Or.inr hbl)] at hSc2
          rw [hbl, hbe] at kb
          have HSC2 := hide hSc2
          have KB := hide kb
          clear kd3 hSc2 kb hbl hbe
          go_wp2_with (first | (go_at_call 40; refine (KD3.out _ HR3.out).mono ?_; rintro e9 z ⟨rfl, nz, hz9⟩; subst hz9) | (go_at_call 42; refine (KB.out _).mono ?_; rintro e9 z9 ⟨rfl, hz8⟩; subst hz8))
          go_step3
          first | refine mix_then rfl ?_ | refine mix_zero ?_ | refine mix_block rfl ?_
          refine ⟨⟨_, _, _, _, _, _, _, _, _, _, _, _, _, _, _, _, _, _, _, _, _, _, _, _, _, _, _, _, _, _, _, _, _, _, _, _, _, _, _, _, _, _, _, _, _, _, _, _, _, _, _, _, _, _, _, _, _, _, _, _, _, _, _, _, _, rfl, e, acc ++ [(k', a', tx, nu)], heS, by rw [List.length_append, List.length_singleton]; omega, HSC2.out, HR3.out.drewN nz, HROW3.out, below_drewN HB3.out nz⟩, ?_⟩
          rw [(HR3.out.drewN nz).at]
          simp only [Option.getD_some, intOf, Int.toNat_natCast]
          omega
        | false =>
          have hSc2 := HSC.out
          rw [if_neg (fun h => h.elim hend (fun h2 => by rw [hbl] at h2; exact absurd h2 (by decide)))] at hSc2
          rw [hbl, hbe] at kb
          subst hSc2
          have KB := hide kb
          clear kd3 kb hbl hbe
          go_wp2_with (first | (go_at_call 40; refine (KD3.out _ HR3.out).mono ?_; rintro e9 z ⟨rfl, nz, hz9⟩; have HRZ := hide (HR3.out.drewN nz); have HBZ := hide (below_drewN HB3.out nz); rw [← hz9] at HRZ HBZ; have d2 := HRZ.out.at; clear hz9) | (go_at_call 42; refine (KB.out _).mono ?_; rintro e9 z9 ⟨rfl, hz8⟩; subst hz8))
          go_step3
          go_wp2_with (fail)
          have x1 : z9.cell? ⟨w.heap.size, 1, none⟩ = some (.int .i64 ((e : Nat) : Int)) := HRZ.out.at
          refine Go.wp_mono (Q := noPanS _) ?_ noPanS_le
          refine wp_region_held_drew (S := fun W => W.cell? ⟨w.heap.size, 1, none⟩ = some (.int .i64 ((e : Nat) : Int))) (by kernel_rfl) x1 (fun hS => ?_)
          refine wpAnyH_take (i := 0) (v := .pointer (some ⟨w.heap.size, 1, none⟩)) rfl (by kernel_rfl) (by kernel_rfl) (by kernel_rfl) (fun _ _ _ h => h) (Or.inl ⟨by kernel_rfl, fun w' hw => by go_simp⟩) hS ?_
          refine wpAnyH_take (i := 1) (v := .int .i64 ((e : Nat) : Int)) rfl (by kernel_rfl) (by kernel_rfl) (by kernel_rfl) (fun _ _ _ h => h) (Or.inl ⟨by kernel_rfl, fun w' hw => by go_simp⟩) hS ?_
          refine wpAnyH_take (i := 2) (v := .agg #[.int .i64 70, .int .i64 ((e : Nat) : Int)]) rfl (by kernel_rfl) (by kernel_rfl) (by kernel_rfl) (fun _ _ _ h => h) (Or.inl ⟨by kernel_rfl, fun w' hw => by go_simp⟩) hS ?_
          refine wpAnyH_take (i := 5) (v := .slice none 0 0) rfl (by kernel_rfl) (by kernel_rfl) (by kernel_rfl) (fun _ _ _ h => h) (Or.inl ⟨by kernel_rfl, fun w' hw => by go_simp⟩) hS ?_
          refine wpAnyH_ready (rs := [3]) (by kernel_rfl) (by simp) ?_
          refine AllReadyH.cons rfl (fun K hK => ?_) AllReadyH.nil
          rw [if_pos (by kernel_rfl)]
          go_simp
          have hBA : Below z9.heap.size z9 (z9.alloc (.cells #[.int .i64 70, .int .i64 ((e : Nat) : Int)] 78)).drew := ((Below.refl _ z9).alloc (Nat.le_refl _) _).drew
          have hS2 : (z9.alloc (.cells #[.int .i64 70, .int .i64 ((e : Nat) : Int)] 78)).drew.cell? ⟨w.heap.size, 1, none⟩ = some (.int .i64 ((e : Nat) : Int)) := (hBA.cell (World.block_lt_of_cell? _ _ x1)).trans x1
          have hN : (z9.alloc (.cells #[.int .i64 70, .int .i64 ((e : Nat) : Int)] 78)).drew.heap[z9.heap.size]? = some (.cells #[.int .i64 70, .int .i64 ((e : Nat) : Int)] 78 (0, 0)) := heap_alloc_new z9 _
          refine hK.out _ _ hS2 (fun _ => ?_)
          clear hK K
          generalize (z9.alloc (.cells #[.int .i64 70, .int .i64 ((e : Nat) : Int)] 78)).drew = Y at *
          refine wpAnyH_take (i := 4) (v := .iface 76 (.pointer (some ⟨z9.heap.size, 0, none⟩))) rfl (by kernel_rfl) (by kernel_rfl) (by kernel_rfl) (fun _ _ _ h => h) (Or.inl ⟨by kernel_rfl, fun w' hw => by go_simp⟩) hS2 ?_
          refine wpAnyH_take (i := 6) (v := .iface 76 (.pointer (some ⟨z9.heap.size, 0, none⟩))) rfl (by kernel_rfl) (by kernel_rfl) (by kernel_rfl) (fun _ _ _ h => h) (Or.inl ⟨by kernel_rfl, fun w' hw => by go_simp⟩) hS2 ?_
          refine wpAnyH_done (by kernel_rfl) (noPanS_normal ?_) _
          try simp only [Act.put, List.getElem_toArray, List.getElem_cons_zero, List.getElem_cons_succ, List.setIfInBounds_toArray, List.set_cons_zero, List.set_cons_succ]
          go_wp2_with (fail)
          rw [jumpA_ret]
          go_ret2
          exact ⟨z9.heap.size, rfl, HBZ.out.size, hN, bseq HBZ.out hBA⟩
    · have hn0 : n = 0 := by omega
      subst hn0
      rw [decide_eq_false hn, Nat.add_zero] at kr
      rw [if_neg hn] at hSc
      subst hSc
      have KR := hide kr
      clear kr hn hnl
      go_wp2_with (first | (go_at_call 41; refine (KS.out).mono ?_; rintro e x ⟨rfl, hRx, hgx⟩; have HRX := hide hRx; have HROWX := hide (HROW.out.grown (Nat.lt_succ_self _) hgx); have HBX := hide (below_grownB HB.out hgx); have x1 := hRx.at; clear hRx hgx KS) | (go_at_call 40; refine (KD.out _ HRX.out).mono ?_; rintro e z ⟨rfl, nz, hz9⟩; have HRZ := hide (HRX.out.drewN nz); have HBZ := hide (below_drewN HBX.out nz); rw [← hz9] at HRZ HBZ; clear hz9 HRX) | (go_at_call 38; refine (KT.out _ HRZ.out).mono ?_; rintro e y ⟨rfl, hRy, hgy⟩; have HRY := hide hRy; have HBY := hide (below_grownB HBZ.out hgy); clear hRy hgy HRZ) | (go_at_call 41; refine (KR.out _ HRY.out).mono ?_; rintro e u ⟨rfl, hRu, hgu⟩; have HRU := hide hRu; have HBU := hide (below_grownB HBY.out hgu); have u1 := hRu.at; clear hRu hgu HRY))
      go_step3
      first | refine mix_then rfl ?_ | refine mix_zero ?_ | refine mix_block rfl ?_
      go_wp2_with (fail)
      have x1 : u.cell? ⟨w.heap.size, 1, none⟩ = some (.int .i64 (p : Int)) := HRU.out.at
      refine Go.wp_mono (Q := noPanS _) ?_ noPanS_le
      refine wp_region_held_drew (S := fun W => W.cell? ⟨w.heap.size, 1, none⟩ = some (.int .i64 (p : Int))) (by kernel_rfl) x1 (fun hS => ?_)
      refine wpAnyH_take (i := 0) (v := .pointer (some ⟨w.heap.size, 1, none⟩)) rfl (by kernel_rfl) (by kernel_rfl) (by kernel_rfl) (fun _ _ _ h => h) (Or.inl ⟨by kernel_rfl, fun w' hw => by go_simp⟩) hS ?_
      refine wpAnyH_take (i := 1) (v := .int .i64 (p : Int)) rfl (by kernel_rfl) (by kernel_rfl) (by kernel_rfl) (fun _ _ _ h => h) (Or.inl ⟨by kernel_rfl, fun w' hw => by go_simp⟩) hS ?_
      refine wpAnyH_take (i := 2) (v := .agg #[.int .i64 70, .int .i64 (p : Int)]) rfl (by kernel_rfl) (by kernel_rfl) (by kernel_rfl) (fun _ _ _ h => h) (Or.inl ⟨by kernel_rfl, fun w' hw => by go_simp⟩) hS ?_
      refine wpAnyH_take (i := 5) (v := .slice none 0 0) rfl (by kernel_rfl) (by kernel_rfl) (by kernel_rfl) (fun _ _ _ h => h) (Or.inl ⟨by kernel_rfl, fun w' hw => by go_simp⟩) hS ?_
      refine wpAnyH_ready (rs := [3]) (by kernel_rfl) (by simp) ?_
      refine AllReadyH.cons rfl (fun K hK => ?_) AllReadyH.nil
      rw [if_pos (by kernel_rfl)]
      go_simp
      have hBA : Below u.heap.size u (u.alloc (.cells #[.int .i64 70, .int .i64 (p : Int)] 78)).drew := ((Below.refl _ u).alloc (Nat.le_refl _) _).drew
      have hS2 : (u.alloc (.cells #[.int .i64 70, .int .i64 (p : Int)] 78)).drew.cell? ⟨w.heap.size, 1, none⟩ = some (.int .i64 (p : Int)) := (hBA.cell (World.block_lt_of_cell? _ _ x1)).trans x1
      have hN : (u.alloc (.cells #[.int .i64 70, .int .i64 (p : Int)] 78)).drew.heap[u.heap.size]? = some (.cells #[.int .i64 70, .int .i64 (p : Int)] 78 (0, 0)) := heap_alloc_new u _
      refine hK.out _ _ hS2 (fun _ => ?_)
      clear hK K
      generalize (u.alloc (.cells #[.int .i64 70, .int .i64 (p : Int)] 78)).drew = Y at *
      refine wpAnyH_take (i := 4) (v := .iface 76 (.pointer (some ⟨u.heap.size, 0, none⟩))) rfl (by kernel_rfl) (by kernel_rfl) (by kernel_rfl) (fun _ _ _ h => h) (Or.inl ⟨by kernel_rfl, fun w' hw => by go_simp⟩) hS2 ?_
      refine wpAnyH_take (i := 6) (v := .iface 76 (.pointer (some ⟨u.heap.size, 0, none⟩))) rfl (by kernel_rfl) (by kernel_rfl) (by kernel_rfl) (fun _ _ _ h => h) (Or.inl ⟨by kernel_rfl, fun w' hw => by go_simp⟩) hS2 ?_
      refine wpAnyH_done (by kernel_rfl) (noPanS_normal ?_) _
      try simp only [Act.put, List.getElem_toArray, List.getElem_cons_zero, List.getElem_cons_succ, List.setIfInBounds_toArray, List.set_cons_zero, List.set_cons_succ]
      go_wp2_with (fail)
      rw [jumpA_ret]
      go_ret2
      exact ⟨u.heap.size, rfl, HBU.out.size, hN, bseq HBU.out hBA⟩
  · intro hst
    have HST := hide hst
    clear hst
    go_wp2_with (fail)
    refine wp_label ?_
    rename_i K9 hK9
    refine hK9 _ _ (HST.out _ _ ⟨_, _, _, _, _, _, _, _, _, _, _, _, _, _, _, _, _, _, _, _, _, _, _, _, _, _, _, _, _, _, _, _, _, _, _, _, _, _, _, _, _, _, _, _, _, _, _, _, _, _, _, _, _, _, _, _, _, _, _, _, _, _, _, _, _, rfl, 0, [], Nat.zero_le _, Nat.zero_le _, HRR.out.symm, HR0.out, World.ownsRow_nil _ _ _ _, HB0.out⟩)
set_option maxRecDepth 100000 in
set_option maxHeartbeats 4000000 in
theorem scan_long (s : ByteArray) (w : World) (hs : 16384 < s.size) (h2 : s.size ≤ 140737488355328) :
    Calls Tryd.prog 17 #[.string s] w fun e w' => ScPost (.inr (4, 0)) w e w' := by
  go_enter Tryd.func17, Tryd.ntmps17
  go_wp2_with (fail)
  refine wp_scope_mixR 0 (fun _ _ => False) (fun _ _ => 0) rfl (fun _ _ h => h.elim) (fun _ => ?_)
  go_wp2_with (fail)
  rw [jumpA_ret]
  go_ret2
  exact ⟨w.heap.size, rfl, Nat.le_refl _, heap_alloc_new w _, (Below.refl _ w).alloc (Nat.le_refl _) _⟩
end Go.Proofs.YtmhbhpjpnmggkaaDoor
namespace Go.Proofs.YtmhbhpjpnmggkaaDoor
open Go.RowKit Go.Shelf
set_option linter.unusedVariables false

def toI (t : Tk) : TkI := (t.1, (t.2.1 : Int), ⟨t.2.2.1.toArray⟩, t.2.2.2)
theorem flat_get (ts : List Tk) (i j : Nat) (x : Tk) (hx : ts[i]? = some x) (hj : j < 4) : (ts.flatMap tkC)[i * 4 + j]? = (tkC x)[j]? := by
  induction ts generalizing i with
  | nil => simp at hx
  | cons y ys ih =>
    rw [List.flatMap_cons]
    cases i with
    | zero =>
      simp only [List.getElem?_cons_zero, Option.some.injEq] at hx
      subst hx
      rw [List.getElem?_append_left (by simp [tkC]; omega)]
      congr 1
      omega
    | succ i =>
      simp only [List.getElem?_cons_succ] at hx
      rw [List.getElem?_append_right (by simp [tkC]; omega), ← ih i hx]
      congr 1
      simp [tkC]
      omega
theorem RowT.slk {W : World} {base : Nat} {v : Value} {ts : List Tk} (h : RowT W base v ts) : ∃ a cap, v = .slice a ts.length cap ∧ SlK W a (ts.map toI) := by
  rcases h.2 with ⟨h1, h2⟩ | ⟨g, cap, cur, hv, hg, hh, hnc, hcap, hs, hc⟩
  · have : ts = [] := List.eq_nil_of_length_eq_zero h2
    subst this
    exact ⟨none, 0, h1, .inl rfl⟩
  · refine ⟨_, cap, hv, .inr ⟨g, 0, rfl, (Array.getElem?_eq_some_iff.1 hh).1, fun i x hx => ?_⟩⟩
    rw [List.getElem?_map] at hx
    obtain ⟨y, hy, rfl⟩ := Option.map_eq_some_iff.1 hx
    have hi : i < ts.length := (List.getElem?_eq_some_iff.1 hy).1
    have key : ∀ j (u : Value), j < 4 → (tkC y)[j]? = some u → W.cell? ⟨g, 0 + i * 4 + j, none⟩ = some u := by
      intro j u hj hu
      have h1 := flat_get ts i j y hy hj
      rw [hu, ← hc, List.getElem?_take, if_pos (by omega)] at h1
      refine celS hh _ _ ?_
      rw [Nat.zero_add]
      simpa using h1
    exact ⟨key 0 _ (by omega) rfl, key 1 _ (by omega) rfl, key 2 _ (by omega) rfl, key 3 _ (by omega) rfl⟩
set_option maxRecDepth 100000 in
theorem sc_works : Sc [97, 32, 49, 50, 32, 34, 98, 92, 110, 34] 0 [] = .inl [(1, 0, [97], 0), (2, 2, [], 12), (3, 5, [98, 10], 0)] := by decide +kernel
set_option maxRecDepth 100000 in
theorem pr_works : prV [(1, 0, ⟨#[97]⟩, 0), (2, 2, ⟨#[]⟩, 12), (3, 5, ⟨#[98, 10]⟩, 0)] = ([97, 32, 49, 50, 32, 34, 98, 92, 110, 34], 0) := by decide +kernel
theorem Tryd.noGuardTk : Tryd.prog.eqGuardType Tryd.prog.depth 46 = false := by kernel_rfl
theorem Tryd.noHeldTk : Tryd.prog.stoodInHeld 46 = false := by kernel_rfl
theorem Tryd.fieldsTk : Tryd.prog.underlying 46 = some (.struct (Tryd.prog.fieldsOf 46)) := by kernel_rfl
theorem eql_tk (k a : Int) (t : ByteArray) (n : Int) (w : World) : (Op.equalIn 10000 46 (.agg #[.int .i64 k, .int .i64 a, .string t, .int .i64 n]) (.agg #[.int .i64 k, .int .i64 a, .string t, .int .i64 n])).run Tryd.prog w = .ok true w := by
  rw [run_equalIn_agg w 9999 46 _ _ Tryd.fieldsTk Tryd.noHeldTk]
  have u3 := Tryd.underlying3
  have u9 := Tryd.underlying9
  have a3 := Tryd.isAgg3
  have a9 := Tryd.isAgg9
  unfold Program.fieldsOf
  rw [Tryd.underlying46]
  simp [Op.eqFields, part, u3, u9, a3, a9, go_sem]
theorem three_cells {W : World} {a : Option Addr} {x0 x1 x2 : TkI} (h : SlK W a [x0, x1, x2]) : ∃ b off, a = some ⟨b, off, none⟩ ∧
    (W.cell? ⟨b, off, none⟩ = some (.int .i64 x0.1) ∧ W.cell? ⟨b, off + 1, none⟩ = some (.int .i64 x0.2.1) ∧ W.cell? ⟨b, off + 2, none⟩ = some (.string x0.2.2.1) ∧ W.cell? ⟨b, off + 3, none⟩ = some (.int .i64 x0.2.2.2)) ∧
    (W.cell? ⟨b, off + 4, none⟩ = some (.int .i64 x1.1) ∧ W.cell? ⟨b, off + 5, none⟩ = some (.int .i64 x1.2.1) ∧ W.cell? ⟨b, off + 6, none⟩ = some (.string x1.2.2.1) ∧ W.cell? ⟨b, off + 7, none⟩ = some (.int .i64 x1.2.2.2)) ∧
    (W.cell? ⟨b, off + 8, none⟩ = some (.int .i64 x2.1) ∧ W.cell? ⟨b, off + 9, none⟩ = some (.int .i64 x2.2.1) ∧ W.cell? ⟨b, off + 10, none⟩ = some (.string x2.2.2.1) ∧ W.cell? ⟨b, off + 11, none⟩ = some (.int .i64 x2.2.2.2)) := by
  rcases h with h | ⟨b, off, ha, hb, hc⟩
  · cases h
  · exact ⟨b, off, ha, hc 0 x0 rfl, hc 1 x1 rfl, hc 2 x2 rfl⟩
set_option maxRecDepth 100000 in
set_option maxHeartbeats 8000000 in
theorem works_any (w : World) (hL : LaidW w) (hZ : LaidZ w) : Calls Tryd.prog 9 #[] w fun e w' => e = .returned (.bool true) ∧ Below w.heap.size w w' := by
  have ks := scan_any ⟨#[97, 32, 49, 50, 32, 34, 98, 92, 110, 34]⟩ w (by decide) hL
  rw [show bl ⟨#[97, 32, 49, 50, 32, 34, 98, 92, 110, 34]⟩ = [97, 32, 49, 50, 32, 34, 98, 92, 110, 34] from rfl, sc_works] at ks
  have KS := hide ks
  have HL := hide hL
  have HZ := hide hZ
  have g0 := Tryd.noGuardTk
  have g1 := fun W => eql_tk 1 0 ⟨#[97]⟩ 0 W
  have g2 := fun W => eql_tk 2 2 ⟨#[]⟩ 12 W
  have g3 := fun W => eql_tk 3 5 ⟨#[98, 10]⟩ 0 W
  clear ks hL hZ
  go_enter Tryd.func9, Tryd.ntmps9
  go_wp2_with (fail)
  refine (KS.out).mono ?_
  rintro e x ⟨v, rfl, hrow, hbx⟩
  obtain ⟨a, cap, rfl, hsl0⟩ := hrow.slk
  have hsl : SlK x a [(1, 0, ⟨#[97]⟩, 0), (2, 2, ⟨#[]⟩, 12), (3, 5, ⟨#[98, 10]⟩, 0)] := hsl0
  have kp := print_any a cap [(1, 0, ⟨#[97]⟩, 0), (2, 2, ⟨#[]⟩, 12), (3, 5, ⟨#[98, 10]⟩, 0)] x hsl (HL.out.below hbx) (HZ.out.below hbx) (by decide) (by decide)
  rw [pr_works] at kp
  have KP := hide kp
  have HSL := hide hsl
  have HBX := hide hbx
  clear kp hsl hsl0 hbx hrow
  go_wp2_with (go_at_call 11; refine (KP.out).mono ?_; rintro e y ⟨rfl, hby⟩; obtain ⟨b0, off, ha, ⟨c00, c01, c02, c03⟩, ⟨c10, c11, c12, c13⟩, ⟨c20, c21, c22, c23⟩⟩ := three_cells (HSL.out.below hby); have HBY := hide (bseq HBX.out hby); clear hby; subst ha)
  go_ret
  exact ⟨rfl, HBY.out⟩
end Go.Proofs.YtmhbhpjpnmggkaaDoor
namespace Go.Proofs.YtmhbhpjpnmggkaaDoor
open Go.RowKit Go.Shelf
set_option linter.unusedVariables false

theorem flatW_get (ts : List (Nat × ByteArray)) (i j : Nat) (x : Nat × ByteArray) (hx : ts[i]? = some x) (hj : j < 2) : (ts.flatMap rwC)[i * 2 + j]? = (rwC x)[j]? := by
  induction ts generalizing i with
  | nil => simp at hx
  | cons y ys ih =>
    rw [List.flatMap_cons]
    cases i with
    | zero =>
      simp only [List.getElem?_cons_zero, Option.some.injEq] at hx
      subst hx
      rw [List.getElem?_append_left (by simp [rwC]; omega)]
      congr 1
      omega
    | succ i =>
      simp only [List.getElem?_cons_succ] at hx
      rw [List.getElem?_append_right (by simp [rwC]; omega), ← ih i hx]
      congr 1
      simp [rwC]
      omega
/-- What a row of told lines holds. -/
def RwK (W : World) (a : Option Addr) (xs : List (Nat × ByteArray)) : Prop := xs = [] ∨ ∃ g, a = some ⟨g, 0, none⟩ ∧ g < W.heap.size ∧ ∀ (i : Nat) x, xs[i]? = some x → W.cell? ⟨g, i * 2, none⟩ = some (.int .i64 (x.1 : Int)) ∧ W.cell? ⟨g, i * 2 + 1, none⟩ = some (.string x.2)
theorem RwK.below {W W' : World} {a : Option Addr} {xs : List (Nat × ByteArray)} (h : RwK W a xs) (hb : Below W.heap.size W W') : RwK W' a xs := by
  rcases h with h | ⟨g, ha, hg, hc⟩
  · exact .inl h
  · refine .inr ⟨g, ha, Nat.lt_of_lt_of_le hg hb.size, fun i x hx => ?_⟩
    obtain ⟨h1, h2⟩ := hc i x hx
    exact ⟨(hb.cell (p := ⟨g, i * 2, none⟩) hg).trans h1, (hb.cell (p := ⟨g, i * 2 + 1, none⟩) hg).trans h2⟩
theorem RowW.rwk {W : World} {base : Nat} {v : Value} {xs : List (Nat × ByteArray)} (h : RowW W base v xs) : ∃ a cap, v = .slice a xs.length cap ∧ RwK W a xs := by
  rcases h.2 with ⟨h1, h2⟩ | ⟨g, cap, cur, hv, hg, hh, hnc, hcap, hs, hc⟩
  · have : xs = [] := List.eq_nil_of_length_eq_zero h2
    subst this
    exact ⟨none, 0, h1, .inl rfl⟩
  · refine ⟨_, cap, hv, .inr ⟨g, rfl, (Array.getElem?_eq_some_iff.1 hh).1, fun i x hx => ?_⟩⟩
    have hi : i < xs.length := (List.getElem?_eq_some_iff.1 hx).1
    have key : ∀ j (u : Value), j < 2 → (rwC x)[j]? = some u → W.cell? ⟨g, i * 2 + j, none⟩ = some u := by
      intro j u hj hu
      have h1 := flatW_get xs i j x hx hj
      rw [hu, ← hc, List.getElem?_take, if_pos (by omega)] at h1
      simp only [World.cell?, hh]
      simpa using h1
    exact ⟨key 0 _ (by omega) rfl, key 1 _ (by omega) rfl⟩
theorem rw_cells {W : World} {a : Option Addr} {xs : List (Nat × ByteArray)} {k : Nat} {x : Nat × ByteArray} (h : RwK W a xs) (hx : xs[k]? = some x) : ∃ g, a = some ⟨g, 0, none⟩ ∧ W.cell? ⟨g, k * 2, none⟩ = some (.int .i64 (x.1 : Int)) ∧ W.cell? ⟨g, k * 2 + 1, none⟩ = some (.string x.2) := by
  rcases h with h | ⟨g, ha, hg, hc⟩
  · subst h; simp at hx
  · exact ⟨g, ha, hc k x hx⟩
theorem Tryd.noGuardRw : Tryd.prog.eqGuardType Tryd.prog.depth 37 = false := by kernel_rfl
theorem Tryd.noHeldRw : Tryd.prog.stoodInHeld 37 = false := by kernel_rfl
theorem Tryd.fieldsRw : Tryd.prog.underlying 37 = some (.struct (Tryd.prog.fieldsOf 37)) := by kernel_rfl
theorem eql_rw (k : Int) (t : ByteArray) (w : World) : (Op.equalIn 10000 37 (.agg #[.int .i64 k, .string t]) (.agg #[.int .i64 k, .string t])).run Tryd.prog w = .ok true w := by
  rw [run_equalIn_agg w 9999 37 _ _ Tryd.fieldsRw Tryd.noHeldRw]
  have u3 := Tryd.underlying3
  have u9 := Tryd.underlying9
  have a3 := Tryd.isAgg3
  have a9 := Tryd.isAgg9
  unfold Program.fieldsOf
  rw [Tryd.underlying37]
  simp [Op.eqFields, part, u3, u9, a3, a9, go_sem]
set_option maxRecDepth 100000 in
set_option maxHeartbeats 2000000 in
theorem lines_road (s : ByteArray) (f : Nat) (w : World) (hs : s.size ≤ 1048576) (hf : f < 256) (hL : LaidW w) (hZ : LaidZ w) :
    Calls Tryd.prog 5 #[.string s, .int .u8 (f : Int)] w fun e w' => e = .returned (.bool true) ∧ Below w.heap.size w w' := by
  have hn := sls_len s
  have kw := fun W => rlines_any s W (by omega)
  have ka := fun W => rows_any s ((SLs s).length + 9) W (by omega) (by omega) (by omega)
  have kb := fun W => rows_any s (1 + f) W (by omega) (by omega) (by omega)
  rw [List.take_of_length_le (by omega)] at ka
  generalize SLs s = L at *
  obtain ⟨M, hM⟩ : ∃ M, (L.take (1 + f)).length = M := ⟨_, rfl⟩
  have hMm : M = min (1 + f) L.length := by rw [← hM, List.length_take]
  have hMI : min (L.length : Int) (1 + (f : Int)) = (M : Int) := by omega
  have hMb : (M : Int) ≤ (L.length : Int) := by omega
  have hxM : ∀ k x, L[k]? = some x → k < M → (L.take (1 + f))[k]? = some x := fun k x hx hk => by rw [List.getElem?_take, if_pos (by omega)]; exact hx
  have HXM := hide hxM
  have KW := hide kw
  have KA := hide ka
  have KB := hide kb
  have HL := hide hL
  have HZ := hide hZ
  have HM := hide hM
  have g0 := Tryd.noGuardRw
  have hnI : (L.length : Int) ≤ 1048577 := by omega
  have hfI : (f : Int) < 256 := by omega
  clear kw ka kb hL hZ hM hMm hxM
  go_enter Tryd.func5, Tryd.ntmps5
  go_wp2_with (fail)
  refine (KW.out _).mono ?_
  rintro e x1 ⟨v1, rfl, hrow1, hb1⟩
  obtain ⟨a1, cap1, rfl, hk1⟩ := hrow1.rwk
  have HK1 := hide hk1
  have HB1 := hide hb1
  clear hrow1 hb1 hk1
  have hadd : ((L.length + 9 : Nat) : Int) = (L.length : Int) + 9 := by omega
  have hadf : ((1 + f : Nat) : Int) = 1 + (f : Int) := by omega
  rw [hadd] at KA
  rw [hadf] at KB
  go_wp2_with (fail)
  refine (KA.out _).mono ?_
  rintro e x2 ⟨v2, rfl, hrow2, hb2⟩
  obtain ⟨a2, cap2, rfl, hk2⟩ := hrow2.rwk
  have HK2 := hide hk2
  have HK1' := hide (HK1.out.below hb2)
  have HB2 := hide (bseq HB1.out hb2)
  clear hrow2 hb2 hk2
  go_wp2_with (fail)
  refine (KB.out _).mono ?_
  rintro e x3 ⟨v3, rfl, hrow3, hb3⟩
  obtain ⟨a3, cap3, rfl, hk3⟩ := hrow3.rwk
  have HK3 := hide hk3
  have HKa := hide (HK2.out.below hb3)
  have HKw := hide (HK1'.out.below hb3)
  have HB3 := hide (bseq HB2.out hb3)
  rw [HM.out]
  clear hrow3 hb3 hk3 HK1 HK1' HK2 KW KA KB
  go_upto_region 5 with (fail)
  go_wp2_with (fail)
  go_loopw [8] (fun i wr => ∃ k n : Nat, i = .int .i64 (k : Int) ∧ k ≤ L.length ∧ wr = x3.drewN n) (fun i _ => L.length - (intOf i).toNat)
  case atStart => exact ⟨0, 0, rfl, Nat.zero_le _, rfl⟩
  case round =>
    obtain ⟨k, n, rfl, hk, hwr⟩ := hrel
    have hbw := below_drewN (Below.refl x3.heap.size x3) n
    rw [← hwr] at hbw
    by_cases hlt : k < L.length
    · have hltI : (k : Int) < (L.length : Int) := by omega
      obtain ⟨x, hx⟩ : ∃ x, L[k]? = some x := ⟨_, List.getElem?_eq_getElem hlt⟩
      obtain ⟨b1, rfl, c0, c1⟩ := rw_cells (HKw.out.below hbw) hx
      obtain ⟨b2, rfl, d0, d1⟩ := rw_cells (HKa.out.below hbw) hx
      by_cases hlm : k < M
      · have hlmI : (k : Int) < (M : Int) := by omega
        obtain ⟨b3, rfl, e0, e1⟩ := rw_cells (HK3.out.below hbw) (HXM.out k x hx hlm)
        obtain ⟨y, t⟩ := x
        simp only at c0 c1 d0 d1 e0 e1
        have g1 := fun W => eql_rw (y : Int) t W
        have HWR := hide hwr
        clear hx hwr hbw
        go_wp2_with (fail)
        go_quiet (fail)
        go_wp2_with (fail)
        go_roundw
        case rel => exact ⟨k + 1, n + nq, by go_num, by omega, by rw [HWR.out, World.drewN_drewN]⟩
        case measure => simp [intOf]; omega
      · have hlmI : (M : Int) ≤ (k : Int) := by omega
        have hd : decide ((k : Int) < (M : Int)) = false := decide_eq_false (by omega)
        have hd' : decide (k < M) = false := decide_eq_false (by omega)
        obtain ⟨y, t⟩ := x
        simp only at c0 c1 d0 d1
        have g1 := fun W => eql_rw (y : Int) t W
        have HWR := hide hwr
        clear hx hwr hbw
        go_wp2_with (fail)
        go_quiet (fail)
        go_wp2_with (fail)
        go_roundw
        case rel => exact ⟨k + 1, n + nq, by go_num, by omega, by rw [HWR.out, World.drewN_drewN]⟩
        case measure => simp [intOf]; omega
    · have hge : (L.length : Int) ≤ (k : Int) := by omega
      have HBW := hide (bseq HB3.out hbw)
      clear hwr hbw
      go_wp2_with (go_at_call 9; refine (works_any _ (HL.out.below HBW.out) (HZ.out.below HBW.out)).mono ?_; rintro e q ⟨rfl, hq⟩)
      go_ret
      exact ⟨rfl, bseq HBW.out hq⟩
end Go.Proofs.YtmhbhpjpnmggkaaDoor
namespace Go.Proofs.YtmhbhpjpnmggkaaDoor
open Go.ChangeShapes Go.WideShapes Go.ChangeAt Go.RowKit
set_option linter.unusedVariables false

theorem own : ownKnob Tryd.prog.godebug = none := by kernel_rfl
theorem laidOut : laidOutB Tryd.prog = true := by kernel_rfl
theorem size_of_sized {s : ByteArray} (h : s.data.toList.length ≤ reachBytes) : s.size ≤ 140737488351232 := by
  have : s.data.toList.length = s.size := by simp
  have e : reachBytes = 140737488351232 := by decide
  omega
theorem bulk_pos {H : Type} (d : DataW H) : 1 ≤ Rows.uptoBulk d := by
  cases d with
  | lit l => cases l <;> simp [Rows.uptoBulk]
  | _ => simp [Rows.uptoBulk]
theorem bulk_len {H : Type} (l : List (DataW H)) : l.length ≤ Rows.uptoBulkAll l := by
  induction l with
  | nil => simp [Rows.uptoBulkAll]
  | cons d r ih =>
    have := bulk_pos d
    simp only [Rows.uptoBulkAll, List.length_cons]
    omega
theorem bulk_string {H : Type} (s : ByteArray) : s.size ≤ Rows.uptoBulk (H := H) (.lit (.string s.data.toList)) := by
  simp [Rows.uptoBulk]
theorem bulk_nums {H : Type} {d : DataW H} {zs : List Int} (h : d = .nil ∧ zs = [] ∨ ∃ el sp, d = .slice el sp ∧ el.length = zs.length) : zs.length ≤ Rows.uptoBulk d := by
  rcases h with ⟨_, rfl⟩ | ⟨el, sp, rfl, h⟩
  · simp
  · have := bulk_len el
    simp only [Rows.uptoBulk]
    omega
theorem bulk_of {H : Type} {l : List (DataW H)} (h : Rows.uptoSmall H l = true) : Rows.uptoBulkAll l ≤ 1048576 := of_decide_eq_true h

end Go.Proofs.YtmhbhpjpnmggkaaDoor
namespace Go.Proofs.YtmhbhpjpnmggkaaDoor
open Go.ChangeShapes Go.WideShapes Go.ChangeAt Go.RowKit
set_option linter.unusedVariables false

/-- The five variables, as the rows list them. -/
def laidL : List (String × DataW Unit) := [("math/bits.deBruijn32tab", Rows.laid_math_bits_deBruijn32tab), ("math/bits.deBruijn64tab", Rows.laid_math_bits_deBruijn64tab), ("internal/strconv.uint64pow10", Rows.laid_internal_strconv_uint64pow10), ("strconv.ErrRange", Rows.laid_strconv_ErrRange), ("strconv.ErrSyntax", Rows.laid_strconv_ErrSyntax)]
theorem gTab64 : Tryd.prog.globalNamed "math/bits.deBruijn64tab" = some 3 := by kernel_rfl
theorem gPow : Tryd.prog.globalNamed "internal/strconv.uint64pow10" = some 1 := by kernel_rfl
theorem gRange : Tryd.prog.globalNamed "strconv.ErrRange" = some 5 := by kernel_rfl
theorem gSyntax : Tryd.prog.globalNamed "strconv.ErrSyntax" = some 4 := by kernel_rfl
theorem tTab64 : (Tryd.prog.globals[3]?).map (·.type) = some 133 := by kernel_rfl
theorem tPow : (Tryd.prog.globals[1]?).map (·.type) = some 115 := by kernel_rfl
theorem tRange : (Tryd.prog.globals[5]?).map (·.type) = some 40 := by kernel_rfl
theorem tSyntax : (Tryd.prog.globals[4]?).map (·.type) = some 40 := by kernel_rfl
theorem laid_of {W : World} (h : laidMetH Tryd.prog laidL W) : LaidW W ∧ LaidZ W := by
  rw [MakeChecks.laidMetH_plain _ _ _ (by kernel_rfl)] at h
  obtain ⟨ps, ⟨g0, t0, cs0, f0, p0, q0, hg0, ht0, hv0, hd0, ⟨g1, t1, cs1, f1, p1, q1, hg1, ht1, hv1, hd1, ⟨g2, t2, cs2, f2, p2, q2, hg2, ht2, hv2, hd2, ⟨g3, t3, cs3, f3, p3, q3, hg3, ht3, hv3, hd3, ⟨g4, t4, cs4, f4, p4, q4, hg4, ht4, hv4, hd4, _, _⟩, _⟩, _⟩, _⟩, _⟩, _, _⟩ := h
  obtain rfl := Option.some.inj (gTab64.symm.trans hg1)
  obtain rfl := Option.some.inj (tTab64.symm.trans ht1)
  obtain rfl := Option.some.inj (gPow.symm.trans hg2)
  obtain rfl := Option.some.inj (tPow.symm.trans ht2)
  obtain rfl := Option.some.inj (gRange.symm.trans hg3)
  obtain rfl := Option.some.inj (tRange.symm.trans ht3)
  obtain rfl := Option.some.inj (gSyntax.symm.trans hg4)
  obtain rfl := Option.some.inj (tSyntax.symm.trans ht4)
  have k1 := Lib.cells_of_tab (k := .u8) (zs := [0, 1, 56, 2, 57, 49, 28, 3, 61, 58, 42, 50, 38, 29, 17, 4, 62, 47, 59, 36, 45, 43, 51, 22, 53, 39, 33, 30, 24, 18, 12, 5, 63, 55, 48, 27, 60, 41, 37, 16, 46, 35, 44, 21, 52, 32, 23, 11, 54, 26, 40, 15, 34, 20, 31, 10, 25, 14, 19, 9, 13, 8, 7, 6]) Tryd.underlying133 Tryd.underlying5 (by kernel_rfl) (by kernel_rfl) hd1
  have k2 := Lib.cells_of_tab (k := .u64) (zs := Lib.pow10Tab) Tryd.underlying115 Tryd.underlying101 (by kernel_rfl) (by kernel_rfl) hd2
  obtain ⟨_, u3, v3, e3, _, _⟩ := iface_of_trod Tryd.underlying40 hd3
  obtain ⟨_, u4, v4, e4, _, _⟩ := iface_of_trod Tryd.underlying40 hd4
  have c3 := World.var?_cell gRange hv3 0
  have c4 := World.var?_cell gSyntax hv4 0
  have c1 := World.var?_cell gTab64 hv1 15
  refine ⟨⟨⟨u4, v4, ?_⟩, ⟨u3, v3, ?_⟩, ?_⟩, ?_⟩
  · rw [c4, ← Array.getElem?_toList, e4]; rfl
  · rw [c3, ← Array.getElem?_toList, e3]; rfl
  · show W.var? _ _ = _
    rw [hv2, ← k2]
  · show W.cell? _ = _
    rw [c1, ← Array.getElem?_toList, k1]
    rfl
theorem door_met (os : Os) (args : Array Value) : laidMetH Tryd.prog laidL ((World.doorLaid Tryd.prog 100 os).forCall (fun _ _ => 0) ⟨#[], args, []⟩).memory :=
  laidMetH_of_parts3 (fuel := 8) (laidMet_of_run' 8 (by kernel_rfl) (by kernel_rfl)) (by kernel_rfl) (by kernel_rfl)
end Go.Proofs.YtmhbhpjpnmggkaaDoor
namespace Go.Proofs.YtmhbhpjpnmggkaaDoor.scanLines
open Go.ChangeShapes Go.WideShapes Go.ChangeAt Go.RowKit Go.Proofs.YtmhbhpjpnmggkaaDoor
set_option linter.unusedVariables false

set_option maxRecDepth 100000 in
theorem contract (H : Type) (enc : TypeId × Value → H) (W : World) (base : Nat) (args : Array Value) (ds gs : List (DataW H)) (before : List MemPlace)
    (hval : ∀ (j : Nat) t v, Tryd.f5.params[j]? = some t → args[j]? = some v → Value.okWide Tryd.prog W .any base t v)
    (hW : DataW.Whole enc Tryd.prog Tryd.f5.params.toList Rows.scanLinesSpec.vars false W args.toList ds gs before) (hk : Rows.uptoSmall H (ds ++ gs) = true) (hlaid : laidMetH Tryd.prog laidL W) :
    Calls Tryd.prog 5 args W fun e W' => ∃ v, e = .returned v ∧ Rows.scanLinesSpec.post enc Tryd.prog Tryd.f5 false true false false W args v W' := by
  have hW' := hW
  obtain ⟨hL, hZ⟩ := laid_of hlaid
  obtain ⟨p, q, hA0, hV, rfl, hfz, hnd⟩ := hW
  have hA : DataW.TrodAll enc Tryd.prog W 0 (fun _ => true) true Tryd.f5.params.toList args.toList ds p := hA0
  rw [Tryd.params5] at hA hval
  obtain ⟨v0, vs0, d0, ds0, p0, q0, hargs, rfl, rfl, h0, r0⟩ := trodAll_cons hA
  obtain ⟨v1, vs1, d1, ds1, p1, q1, rfl, rfl, rfl, h1, r1⟩ := trodAll_cons r0
  obtain ⟨rfl, rfl, rfl⟩ := trodAll_nil r1
  obtain rfl : args = #[v0, v1] := by cases args; simp_all
  obtain ⟨rfl, rfl⟩ := trodVars_none hV
  have hb := bulk_of hk
  simp only [List.append_nil, Rows.uptoBulkAll] at hb
  obtain ⟨a0, rfl, rfl, rfl, l0⟩ := Go.ChangeMaps.open_string Tryd.underlying9 (hval 0 9 v0 rfl rfl) h0
  have m0 := bulk_string (H := H) a0
  have n0 : a0.size ≤ 9223372036854775807 := l0
  obtain ⟨a1, rfl, rfl, rfl, w1⟩ := open_int Tryd.underlying5 (hval 1 5 v1 rfl rfl) h1
  have b1 := bounds_u8 w1
  obtain ⟨f1, rfl⟩ : ∃ f : Nat, a1 = (f : Int) := ⟨a1.toNat, by omega⟩
  clear hA0
  refine (lines_road a0 f1 W (by omega) (by omega) hL hZ).mono fun e W' ⟨he, bel⟩ => ?_
  subst he
  exact ⟨_, rfl, _, _, _, [], _, [], hW', trodAll_mk1 (shut_bool Tryd.underlying4 _), (trodAll_cons_mk (Go.ChangeMaps.shut_string Tryd.underlying9 l0) (trodAll_cons_mk (shut_int Tryd.underlying5 w1) trodAll_mk0)), rfl, bel.frame _, fun h => by cases h⟩

theorem reads (os : Os) {H : Type} (enc : TypeId × Value → H) : ∃ places, DataW.whole enc Tryd.prog ((World.doorLaid Tryd.prog 100 os).forCall (fun _ _ => 0) ⟨#[], #[.string ⟨#[]⟩, .int .u8 0], []⟩).memory Tryd.f5.params.toList Rows.scanLinesSpec.vars false (#[.string ⟨#[]⟩, .int .u8 0] : Array Value).toList 8 = some ([.lit (.string []), .lit (.int .u8 0)], [], places) :=
  ⟨[], by kernel_rfl⟩

set_option maxRecDepth 100000 in
theorem liftedUpto (os : Os) (started : os.Started) (H : Type) (enc : TypeId × Value → H) (F : Stop.Interp) :
    ReturnsInHanded {} Tryd.checked os 5 .any ((Rows.OpenSpec.upto Rows.scanLinesSpec).preRow enc Tryd.prog Tryd.f5 Rows.scanLinesUptoRow.domain false Rows.scanLinesUptoRow.laid) (((Rows.OpenSpec.upto Rows.scanLinesSpec).at F).post enc Tryd.prog Tryd.f5 false true false false) := by
  obtain ⟨places, hx⟩ := reads os enc
  refine returnsInHanded_of_row (C := Tryd.checked) (s := Rows.OpenSpec.upto Rows.scanLinesSpec) own started (by kernel_rfl) Tryd.func5
    (witness_row_atRef (enc := enc) (C := Tryd.checked) false (World.doorLaid Tryd.prog 100 os) #[.string ⟨#[]⟩, .int .u8 0] rfl (by kernel_rfl) (by kernel_rfl) (by kernel_rfl)
      (OpenSpec.preRow_of_cond 8 hx (by kernel_rfl) (fun k hk => by cases hk; kernel_rfl) (by kernel_rfl) (door_met os _))) ?_
  intro W base args ds gs before hval hW _ hcond hsz hL _ _
  exact contract H enc W base args ds gs before hval hW (hcond _ rfl) hL

theorem saidUpto : Rows.ScanLinesUptoSaid :=
  OpenClaim.holds_of_cond 5 Tryd.f5 rfl rfl rfl rfl rfl rfl rfl ⟨rfl, rfl, rfl, rfl, rfl⟩ rfl rfl rfl rfl rfl (by kernel_rfl) Tryd.func5 (by kernel_rfl)
    (of_decide_eq_true (by kernel_rfl)) (by unfold Func.isWrapper; first | (rw [if_pos (by decide +kernel)]; kernel_rfl) | (rw [if_neg (by decide +kernel)]; exact ⟨rfl, rfl⟩))
    (fun os started H enc _ F => by rw [OpenClaim.pre_eq_preRow]; exact liftedUpto os started H enc F)

theorem plain (f : FuncId) (fn : Func) (hf : Tryd.pinned.checked.prog.funcNamed "vellum/vellumlaw07.ScanLines" = some f) (hfn : Tryd.pinned.checked.prog.funcs[f]? = some fn) :
    true = Tryd.pinned.checked.prog.looks [] ∧ ∀ (j : Nat) t, fn.params[j]? = some t → Tryd.pinned.checked.prog.wantsStandIn t = false := by
  obtain rfl : f = 5 := Option.some.inj ((show Tryd.prog.funcNamed "vellum/vellumlaw07.ScanLines" = some 5 by kernel_rfl).symm.trans hf) |>.symm
  obtain rfl : fn = Tryd.f5 := (Option.some.inj (Tryd.func5.symm.trans hfn)).symm
  refine ⟨by kernel_rfl, fun j t ht => ?_⟩
  rw [Tryd.params5] at ht
  have hm := Array.mem_of_getElem? ht
  simp at hm
  rcases hm with rfl | rfl
  all_goals first | exact (show Tryd.prog.wantsStandIn _ = false by kernel_rfl)

theorem cardUpto : Rows.ScanLinesUptoCardSaid :=
  Claim7.holds_tied_plain_at .later [] _ _ _ _ saidUpto (fun _ h => by cases h) (by kernel_rfl) (fun _ h => by cases h) scanLinesUpto_row_tie rfl ⟨rfl, rfl⟩ (by kernel_rfl) rfl plain (by kernel_rfl)
end Go.Proofs.YtmhbhpjpnmggkaaDoor.scanLines

namespace Go.Proofs.YtmhbhpjpnmggkaaDoor
/-- ScanLines, as its card states it for what is of bounded bulk. -/
theorem scanLines_card : Rows.ScanLinesUptoCardSaid := scanLines.cardUpto
#print axioms scanLines_card
end Go.Proofs.YtmhbhpjpnmggkaaDoor
