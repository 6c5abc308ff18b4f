/- Runes as bytes, there and back: what is encoded is decoded as it was, a right sequence is the one that its number is encoded as. -/
import Derived.Test.YtaljllbfedfpoaaGreatDoorUChars
import Derived.Test.YtaljllbfedfpoaaGreatDoorURefM
import Derived.Lib.RuneBytes
namespace Go.Proofs.YtaljllbfedfpoaaGreatDoor
open Go.RowKit
set_option linter.unusedVariables false

/-- A rune, or what stands for one that may not be. -/
def fixZ (z : Int) : Int := if mayB z = true then z else 65533
theorem fixZ_may {z : Int} (h : mayB z = true) : fixZ z = z := by unfold fixZ; rw [if_pos h]
theorem fixZ_not {z : Int} (h : ¬ mayB z = true) : fixZ z = 65533 := by unfold fixZ; rw [if_neg h]
theorem u8_nat (n : Nat) (h : n < 256) : (n.toUInt8).toNat = n := by
  simp [Nat.toUInt8, UInt8.toNat_ofNat']; omega
theorem enc_nat (n : Nat) : Lib.encodeRune (n : Int) = (if n ≤ 127 then [n.toUInt8] else if n ≤ 2047 then [(192 + n / 64).toUInt8, (128 + n % 64).toUInt8] else if n < 55296 ∨ (57343 < n ∧ n ≤ 65535) then [(224 + n / 4096).toUInt8, (128 + n / 64 % 64).toUInt8, (128 + n % 64).toUInt8] else if 65536 ≤ n ∧ n ≤ 1114111 then [(240 + n / 262144).toUInt8, (128 + n / 4096 % 64).toUInt8, (128 + n / 64 % 64).toUInt8, (128 + n % 64).toUInt8] else [239, 191, 189]) := by
  unfold Lib.encodeRune
  by_cases h1 : n ≤ 127
  · rw [if_pos h1, Lib.encodeRuneZ_one (by omega) (by omega)]; simp
  · rw [if_neg h1]
    by_cases h2 : n ≤ 2047
    · rw [if_pos h2, Lib.encodeRuneZ_two (by omega) (by omega)]
      have e1 : (192 + (n : Int) / 64).toNat = 192 + n / 64 := by omega
      have e2 : (128 + (n : Int) % 64).toNat = 128 + n % 64 := by omega
      simp only [List.map_cons, List.map_nil, e1, e2]
    · rw [if_neg h2]
      by_cases h3 : n < 55296 ∨ (57343 < n ∧ n ≤ 65535)
      · rw [if_pos h3, Lib.encodeRuneZ_three (by omega)]
        have e1 : (224 + (n : Int) / 4096).toNat = 224 + n / 4096 := by omega
        have e2 : (128 + (n : Int) / 64 % 64).toNat = 128 + n / 64 % 64 := by omega
        have e3 : (128 + (n : Int) % 64).toNat = 128 + n % 64 := by omega
        simp only [List.map_cons, List.map_nil, e1, e2, e3]
      · rw [if_neg h3]
        by_cases h4 : 65536 ≤ n ∧ n ≤ 1114111
        · rw [if_pos h4, Lib.encodeRuneZ_four (by omega) (by omega)]
          have e1 : (240 + (n : Int) / 262144).toNat = 240 + n / 262144 := by omega
          have e2 : (128 + (n : Int) / 4096 % 64).toNat = 128 + n / 4096 % 64 := by omega
          have e3 : (128 + (n : Int) / 64 % 64).toNat = 128 + n / 64 % 64 := by omega
          have e4 : (128 + (n : Int) % 64).toNat = 128 + n % 64 := by omega
          simp only [List.map_cons, List.map_nil, e1, e2, e3, e4]
        · rw [if_neg h4, Lib.encodeRuneZ_bad (by omega)]; rfl
theorem enc_bad {z : Int} (h : ¬ mayB z = true) : Lib.encodeRune z = [239, 191, 189] := by
  rw [mayB_iff] at h
  unfold Lib.encodeRune
  rw [Lib.encodeRuneZ_bad (by omega)]; rfl
theorem enc_fix (z : Int) : Lib.encodeRune (fixZ z) = Lib.encodeRune z := by
  by_cases h : mayB z = true
  · rw [fixZ_may h]
  · rw [fixZ_not h, enc_bad h, show (65533 : Int) = ((65533 : Nat) : Int) from rfl, enc_nat]; rfl
theorem by0 (a : UInt8) (l : List UInt8) : by' (a :: l) 0 = a.toNat := rfl
theorem byS (a : UInt8) (l : List UInt8) (k : Nat) : by' (a :: l) (k + 1) = by' l k := rfl
/-- What is encoded is decoded, whatever stands behind. -/
theorem dec_enc_nat (n : Nat) (h : n ≤ 1114111 ∧ (n < 55296 ∨ 57343 < n)) (rest : List UInt8) : W (Lib.encodeRune (n : Int) ++ rest) = (Lib.encodeRune (n : Int)).length ∧ rune (Lib.encodeRune (n : Int) ++ rest) = n := by
  rw [enc_nat]
  by_cases h1 : n ≤ 127
  · rw [if_pos h1]
    have b0 : by' ([n.toUInt8] ++ rest) 0 = n := u8_nat n (by omega)
    have hw : W ([n.toUInt8] ++ rest) = 1 := by unfold W; rw [wd_1, b0]; omega
    refine ⟨hw, ?_⟩
    unfold rune
    rw [hw, b0]; rfl
  · rw [if_neg h1]
    by_cases h2 : n ≤ 2047
    · rw [if_pos h2]
      generalize hl : [(192 + n / 64).toUInt8, (128 + n % 64).toUInt8] ++ rest = l
      have b0 : by' l 0 = 192 + n / 64 := by rw [← hl]; exact u8_nat _ (by omega)
      have b1 : by' l 1 = 128 + n % 64 := by rw [← hl]; exact u8_nat _ (by omega)
      have hw : W l = 2 := by unfold W; rw [wd_2, need2, b0, b1]; omega
      refine ⟨hw, ?_⟩
      unfold rune
      rw [hw, b0, b1]
      simp only [num]
      simp
      omega
    · rw [if_neg h2]
      by_cases h3 : n < 55296 ∨ (57343 < n ∧ n ≤ 65535)
      · rw [if_pos h3]
        generalize hl : [(224 + n / 4096).toUInt8, (128 + n / 64 % 64).toUInt8, (128 + n % 64).toUInt8] ++ rest = l
        have b0 : by' l 0 = 224 + n / 4096 := by rw [← hl]; exact u8_nat _ (by omega)
        have b1 : by' l 1 = 128 + n / 64 % 64 := by rw [← hl]; exact u8_nat _ (by omega)
        have b2 : by' l 2 = 128 + n % 64 := by rw [← hl]; exact u8_nat _ (by omega)
        have hw : W l = 3 := by unfold W; rw [wd_3, need3, b0, b1, b2]; omega
        refine ⟨hw, ?_⟩
        unfold rune
        rw [hw, b0, b1, b2]
        simp only [num]
        simp
        omega
      · rw [if_neg h3]
        have h4 : 65536 ≤ n ∧ n ≤ 1114111 := by omega
        rw [if_pos h4]
        generalize hl : [(240 + n / 262144).toUInt8, (128 + n / 4096 % 64).toUInt8, (128 + n / 64 % 64).toUInt8, (128 + n % 64).toUInt8] ++ rest = l
        have b0 : by' l 0 = 240 + n / 262144 := by rw [← hl]; exact u8_nat _ (by omega)
        have b1 : by' l 1 = 128 + n / 4096 % 64 := by rw [← hl]; exact u8_nat _ (by omega)
        have b2 : by' l 2 = 128 + n / 64 % 64 := by rw [← hl]; exact u8_nat _ (by omega)
        have b3 : by' l 3 = 128 + n % 64 := by rw [← hl]; exact u8_nat _ (by omega)
        have hw : W l = 4 := by unfold W; rw [wd_4, need4, b0, b1, b2, b3]; omega
        refine ⟨hw, ?_⟩
        unfold rune
        rw [hw, b0, b1, b2, b3]
        simp only [num]
        simp
        omega
theorem dec_enc (z : Int) (rest : List UInt8) : W (Lib.encodeRune z ++ rest) = (Lib.encodeRune z).length ∧ (rune (Lib.encodeRune z ++ rest) : Int) = fixZ z := by
  rw [← enc_fix z]
  have hm : 0 ≤ fixZ z ∧ fixZ z ≤ 1114111 ∧ (fixZ z < 55296 ∨ 57343 < fixZ z) := by
    by_cases h : mayB z = true
    · rw [fixZ_may h]; exact mayB_iff.1 h
    · rw [fixZ_not h]; omega
  generalize fixZ z = y at *
  obtain ⟨n, rfl⟩ : ∃ n : Nat, y = (n : Int) := ⟨y.toNat, by omega⟩
  obtain ⟨h1, h2⟩ := dec_enc_nat n (by omega) rest
  exact ⟨h1, by rw [h2]⟩
theorem enc_dec (l : List UInt8) (hl : l ≠ []) (h : W l ≠ 0) : Lib.encodeRune (rune l : Int) = l.take (W l) := by
  have hlen := W_len l hl
  have hu : ∀ (a : UInt8) (n : Nat), n = a.toNat → n.toUInt8 = a := fun a n e => by subst e; exact UInt8.ofNat_toNat
  have hwc := wd_cases (by' l 0) (by' l 1) (by' l 2) (by' l 3)
  have h256 : ∀ k, by' l k < 256 := by'_lt l
  rw [enc_nat]
  match l, hl, hlen, h with
  | [], hl, _, _ => exact absurd rfl hl
  | a :: l1, hl, hlen, h =>
  by_cases w1 : W (a :: l1) = 1
  · have hr := rune_1 w1
    have e0 : rune (a :: l1) = a.toNat := by unfold rune; rw [w1]; rfl
    rw [if_pos (by omega), w1, hu a _ e0]; rfl
  · match l1, hlen, h, w1 with
    | [], hlen, h, w1 => exact absurd hlen (by simp; omega)
    | b :: l2, hlen, h, w1 =>
    by_cases w2 : W (a :: b :: l2) = 2
    · have hn : need a.toNat b.toNat = 2 := wd_2.1 w2
      rw [need2] at hn
      have e0 : rune (a :: b :: l2) = a.toNat % 32 * 64 + b.toNat % 64 := by unfold rune; rw [w2]; rfl
      rw [if_neg (by omega), if_pos (by omega), w2, hu a _ (by omega), hu b _ (by omega)]; rfl
    · match l2, hlen, h, w1, w2 with
      | [], hlen, h, w1, w2 => exact absurd hlen (by simp; omega)
      | c :: l3, hlen, h, w1, w2 =>
      by_cases w3 : W (a :: b :: c :: l3) = 3
      · have hn : need a.toNat b.toNat = 3 ∧ 128 ≤ c.toNat ∧ c.toNat ≤ 191 := wd_3.1 w3
        rw [need3] at hn
        have e0 : rune (a :: b :: c :: l3) = a.toNat % 16 * 4096 + b.toNat % 64 * 64 + c.toNat % 64 := by unfold rune; rw [w3]; rfl
        rw [if_neg (by omega), if_neg (by omega), if_pos (by omega), w3, hu a _ (by omega), hu b _ (by omega), hu c _ (by omega)]; rfl
      · match l3, hlen, h, w1, w2, w3 with
        | [], hlen, h, w1, w2, w3 => exact absurd hlen (by simp; omega)
        | d :: l4, hlen, h, w1, w2, w3 =>
        have h4 := W_le4 (a :: b :: c :: d :: l4)
        have w4 : W (a :: b :: c :: d :: l4) = 4 := by omega
        have hn : need a.toNat b.toNat = 4 ∧ 128 ≤ c.toNat ∧ c.toNat ≤ 191 ∧ 128 ≤ d.toNat ∧ d.toNat ≤ 191 := wd_4.1 w4
        rw [need4] at hn
        have e0 : rune (a :: b :: c :: d :: l4) = a.toNat % 8 * 262144 + b.toNat % 64 * 4096 + c.toNat % 64 * 64 + d.toNat % 64 := by unfold rune; rw [w4]; rfl
        rw [if_neg (by omega), if_neg (by omega), if_neg (by omega), if_pos (by omega), w4, hu a _ (by omega), hu b _ (by omega), hu c _ (by omega), hu d _ (by omega)]; rfl
end Go.Proofs.YtaljllbfedfpoaaGreatDoor
