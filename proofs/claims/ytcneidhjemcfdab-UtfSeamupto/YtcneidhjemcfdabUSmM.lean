/- Plain Lean: a right sequence's rune, encoded, is the sequence. -/
import Derived.Test.YtcneidhjemcfdabURefM
import Derived.Laws.Cover4
namespace Go.Proofs.Ytcneidhjemcfdab
set_option linter.unusedVariables false

theorem u8_of (a : UInt8) (n : Nat) (h : n = a.toNat) : UInt8.ofNat n = a := by rw [h, UInt8.ofNat_toNat]

set_option maxHeartbeats 1000000 in
theorem enc_right (l : List UInt8) (h : W l = l.length) (h1 : 1 ≤ l.length) : Utf8.encode (rune l : Int) = ⟨l.toArray⟩ := by
  have h4 := W_le4 l
  match l, h, h1, h4 with
  | [a], h, _, _ =>
    have hw : wd a.toNat 0 0 0 = 1 := h
    have hb := wd_1.1 hw
    have hr : rune [a] = a.toNat := by unfold rune; rw [h]; rfl
    rw [hr]
    unfold Utf8.encode
    rw [valid_nat, decide_eq_true (by omega)]
    simp only [if_true, Int.toNat_natCast]
    rw [if_pos hb, UInt8.ofNat_toNat]
  | [a, b], h, _, _ =>
    have hw : wd a.toNat b.toNat 0 0 = 2 := h
    have hb := need2.1 (wd_2.1 hw)
    have hr : rune [a, b] = a.toNat % 32 * 64 + b.toNat % 64 := by unfold rune; rw [h]; rfl
    rw [hr]
    generalize hc : a.toNat % 32 * 64 + b.toNat % 64 = c
    unfold Utf8.encode
    rw [valid_nat, decide_eq_true (by omega)]
    simp only [if_true, Int.toNat_natCast]
    rw [if_neg (by omega), if_pos (by omega), u8_of a _ (by omega), u8_of b _ (by omega)]
  | [a, b, d], h, _, _ =>
    have hw : wd a.toNat b.toNat d.toNat 0 = 3 := h
    have hb := wd_3.1 hw
    rw [need3] at hb
    have hr : rune [a, b, d] = a.toNat % 16 * 4096 + b.toNat % 64 * 64 + d.toNat % 64 := by unfold rune; rw [h]; rfl
    rw [hr]
    generalize hc : a.toNat % 16 * 4096 + b.toNat % 64 * 64 + d.toNat % 64 = c
    unfold Utf8.encode
    rw [valid_nat, decide_eq_true (by omega)]
    simp only [if_true, Int.toNat_natCast]
    rw [if_neg (by omega), if_neg (by omega), if_pos (by omega), u8_of a _ (by omega), u8_of b _ (by omega), u8_of d _ (by omega)]
  | [a, b, d, f], h, _, _ =>
    have hw : wd a.toNat b.toNat d.toNat f.toNat = 4 := h
    have hb := wd_4.1 hw
    rw [need4] at hb
    have hr : rune [a, b, d, f] = a.toNat % 8 * 262144 + b.toNat % 64 * 4096 + d.toNat % 64 * 64 + f.toNat % 64 := by unfold rune; rw [h]; rfl
    rw [hr]
    generalize hc : a.toNat % 8 * 262144 + b.toNat % 64 * 4096 + d.toNat % 64 * 64 + f.toNat % 64 = c
    unfold Utf8.encode
    rw [valid_nat, decide_eq_true (by omega)]
    simp only [if_true, Int.toNat_natCast]
    rw [if_neg (by omega), if_neg (by omega), if_neg (by omega), u8_of a _ (by omega), u8_of b _ (by omega), u8_of d _ (by omega), u8_of f _ (by omega)]
  | a :: b :: c :: d :: e :: m, h, _, h4 => rw [h] at h4; simp at h4

theorem runesBytes_right (s : ByteArray) (h : W s.data.toList = s.size) (h1 : 1 ≤ s.size) : runesBytes [(rune s.data.toList : Int)] = s := by
  unfold runesBytes
  rw [List.foldl_cons, List.foldl_nil, enc_right _ (by simpa using h) (by simpa using h1)]
  simp
end Go.Proofs.Ytcneidhjemcfdab
