/- Which runs are numbers: the library's reading against the document's (no program in it). -/
import Derived.Test.YtnodeapjgicclaaGreatDoorSNum
import Derived.Lib.AtoiAllCases
import Derived.Lib.ItoaNum
import Derived.Lib.ItoaMem
import Derived.Lib.Atoi
namespace Go.Proofs.YtnodeapjgicclaaGreatDoor
open Go.RowKit Go.Shelf
set_option linter.unusedVariables false

theorem decFrom_snoc (l : List UInt8) (b : UInt8) : ∀ acc, Lib.decFrom acc (l ++ [b]) = (Lib.decFrom acc l).bind fun n => (Lib.digitVal b).map fun d => n * 10 + d := by
  induction l with
  | nil =>
    intro acc
    show (match Lib.digitVal b with | some d => Lib.decFrom (acc * 10 + d) [] | none => none) = _
    cases Lib.digitVal b <;> rfl
  | cons a t ih =>
    intro acc
    show (match Lib.digitVal a with | some d => Lib.decFrom (acc * 10 + d) (t ++ [b]) | none => none) = (match Lib.digitVal a with | some d => Lib.decFrom (acc * 10 + d) t | none => none).bind _
    cases Lib.digitVal a with
    | none => rfl
    | some d => exact ih _
theorem ofNat_dig (d : Nat) (h : d < 10) : (UInt8.ofNat (48 + d)).toNat = 48 + d := by
  rw [UInt8.toNat_ofNat']; omega
theorem digit_dig (d : Nat) (h : d < 10) : Lib.digitVal (UInt8.ofNat (48 + d)) = some d := by
  unfold Lib.digitVal
  rw [ofNat_dig d h, if_pos (by omega)]
  congr 1
  omega
theorem decDigits_rec (u : Nat) (h : ¬ u < 10) : Lib.decDigits u = Lib.decDigits (u / 10) ++ [UInt8.ofNat (48 + u % 10)] := by
  rw [Lib.decDigits, dif_neg h]
theorem dec_digits (u : Nat) : Lib.decFrom 0 (Lib.decDigits u) = some u := by
  induction u using Nat.strongRecOn with
  | _ u ih =>
    by_cases h : u < 10
    · rw [Lib.decDigits_one h]
      show (match Lib.digitVal _ with | some d => Lib.decFrom (0 * 10 + d) [] | none => none) = _
      rw [digit_dig u h]
      show some (0 * 10 + u) = some u
      congr 1
      omega
    · rw [decDigits_rec u h, decFrom_snoc, ih (u / 10) (by omega), digit_dig (u % 10) (by omega)]
      show some (u / 10 * 10 + u % 10) = some u
      congr 1
      omega
theorem digits_ne (u : Nat) : Lib.decDigits u ≠ [] := by
  by_cases h : u < 10
  · rw [Lib.decDigits_one h]; simp
  · rw [decDigits_rec u h]; simp
theorem digits_head (u : Nat) (hu : 1 ≤ u) : by' (Lib.decDigits u) 0 ≠ 48 := by
  induction u using Nat.strongRecOn with
  | _ u ih =>
    by_cases h : u < 10
    · rw [Lib.decDigits_one h]
      show (UInt8.ofNat (48 + u)).toNat ≠ 48
      rw [ofNat_dig u h]
      omega
    · rw [decDigits_rec u h]
      have h1 := ih (u / 10) (by omega) (by omega)
      have hne := digits_ne (u / 10)
      cases hd : Lib.decDigits (u / 10) with
      | nil => exact absurd hd hne
      | cons a t => rw [hd] at h1; exact h1
/-- Written in one way only. -/
def can (l : List UInt8) : Prop := l.length = 1 ∨ (1 < l.length ∧ by' l 0 ≠ 48)
theorem digits_can (u : Nat) : can (Lib.decDigits u) := by
  by_cases h : u < 10
  · rw [Lib.decDigits_one h]; exact .inl rfl
  · have h1 := digits_head u (by omega)
    have h2 : 1 < (Lib.decDigits u).length := by
      rw [decDigits_rec u h, List.length_append]
      have := List.length_pos_iff.2 (digits_ne (u / 10))
      simp; omega
    exact .inr ⟨h2, h1⟩
theorem dec_ge (l : List UInt8) : ∀ acc n, Lib.decFrom acc l = some n → acc ≤ n := by
  induction l with
  | nil => intro acc n h; cases h; exact Nat.le_refl _
  | cons a t ih =>
    intro acc n h
    have h' : (match Lib.digitVal a with | some d => Lib.decFrom (acc * 10 + d) t | none => none) = some n := h
    cases hd : Lib.digitVal a with
    | none => rw [hd] at h'; cases h'
    | some d =>
      rw [hd] at h'
      have := ih _ _ h'
      omega
theorem digits_dec (l : List UInt8) : ∀ n, l ≠ [] → (by' l 0 ≠ 48 ∨ l.length = 1) → Lib.decFrom 0 l = some n → Lib.decDigits n = l ∧ (by' l 0 ≠ 48 → 1 ≤ n) := by
  induction hk : l.length generalizing l with
  | zero => intro n hne; exact absurd (List.eq_nil_of_length_eq_zero hk) hne
  | succ k ih =>
    intro n hne hc h
    obtain ⟨t, b, rfl⟩ : ∃ t b, l = t ++ [b] := ⟨_, _, (List.dropLast_concat_getLast hne).symm⟩
    rw [decFrom_snoc] at h
    obtain ⟨m, hm, h2⟩ := Option.bind_eq_some_iff.1 h
    obtain ⟨d, hd, rfl⟩ := Option.map_eq_some_iff.1 h2
    obtain ⟨d1, d2, d3⟩ := Lib.digitVal_eq hd
    have hb : UInt8.ofNat (48 + d) = b := by
      refine UInt8.toNat_inj.1 ?_
      rw [ofNat_dig d (by omega)]
      omega
    by_cases ht : t = []
    · subst ht
      have hm0 : m = 0 := by
        have : Lib.decFrom 0 [] = some m := hm
        cases this; rfl
      subst hm0
      rw [Nat.zero_mul, Nat.zero_add]
      refine ⟨by rw [Lib.decDigits_one (by omega), hb]; rfl, fun h0 => ?_⟩
      have : by' ([] ++ [b]) 0 = b.toNat := rfl
      rw [this] at h0
      omega
    · have hlen : t.length = k := by rw [List.length_append] at hk; simp at hk; omega
      have hb0 : by' (t ++ [b]) 0 = by' t 0 := by
        cases t with
        | nil => exact absurd rfl ht
        | cons a s => rfl
      have hl1 : 0 < t.length := List.length_pos_iff.2 ht
      have h48 : by' t 0 ≠ 48 := by
        rcases hc with h3 | h3
        · rw [← hb0]; exact h3
        · exfalso; omega
      obtain ⟨i1, i2⟩ := ih t hlen m ht (.inl h48) hm
      have hm1 := i2 h48
      refine ⟨?_, fun _ => by omega⟩
      rw [decDigits_rec _ (by omega), show (m * 10 + d) / 10 = m by omega, show (m * 10 + d) % 10 = d by omega, i1, hb]
theorem parse_dec (l : List UInt8) : ∀ acc n, Lib.decFrom acc l = some n → n < 18446744073709551616 → Lib.parseUint10 acc l = .ok n := by
  induction l with
  | nil => intro acc n h hn; cases h; rfl
  | cons a t ih =>
    intro acc n h hn
    have h' : (match Lib.digitVal a with | some d => Lib.decFrom (acc * 10 + d) t | none => none) = some n := h
    cases hd : Lib.digitVal a with
    | none => rw [hd] at h'; cases h'
    | some d =>
      rw [hd] at h'
      obtain ⟨d1, d2, d3⟩ := Lib.digitVal_eq hd
      have hge := dec_ge t _ _ h'
      simp only [Lib.parseUint10]
      rw [if_pos ⟨d1, d2⟩, if_neg (by omega), if_neg (by omega), ← d3]
      exact ih _ _ h' hn
/-- The number that the document reads. -/
def rn (acc : Nat) : List UInt8 → Option Nat
  | [] => some acc
  | b :: t => if 48 ≤ b.toNat ∧ b.toNat ≤ 57 then (if acc ≤ (9223372036854775807 - (b.toNat - 48)) / 10 then rn (10 * acc + (b.toNat - 48)) t else none) else none
theorem rn_iff (l : List UInt8) : ∀ acc n, acc ≤ 9223372036854775807 → (rn acc l = some n ↔ Lib.decFrom acc l = some n ∧ n ≤ 9223372036854775807) := by
  induction l with
  | nil => intro acc n ha; exact ⟨fun h => ⟨h, by cases h; exact ha⟩, fun h => h.1⟩
  | cons b t ih =>
    intro acc n ha
    have e : Lib.decFrom acc (b :: t) = (match Lib.digitVal b with | some d => Lib.decFrom (acc * 10 + d) t | none => none) := rfl
    rw [e]
    simp only [rn]
    by_cases hb : 48 ≤ b.toNat ∧ b.toNat ≤ 57
    · have hd : Lib.digitVal b = some (b.toNat - 48) := by unfold Lib.digitVal; rw [if_pos hb]
      rw [if_pos hb, hd]
      by_cases hc : acc ≤ (9223372036854775807 - (b.toNat - 48)) / 10
      · rw [if_pos hc, ih _ _ (by omega), show 10 * acc + (b.toNat - 48) = acc * 10 + (b.toNat - 48) by omega]
      · rw [if_neg hc]
        constructor
        · intro h; cases h
        · rintro ⟨h1, h2⟩
          have := dec_ge t _ _ h1
          omega
    · have hd : Lib.digitVal b = none := by unfold Lib.digitVal; rw [if_neg hb]
      rw [if_neg hb, hd]
      constructor
      · intro h; cases h
      · rintro ⟨h1, h2⟩; cases h1
/-- What is a number for the program is one for the document. -/
theorem numK_iff (l : List UInt8) (n : Nat) : numK l = some (n : Int) ↔ can l ∧ rn 0 l = some n := by
  rw [rn_iff l 0 n (by omega)]
  constructor
  · intro h
    unfold numK at h
    cases ha : Lib.atoiAll l with
    | ok v =>
      rw [ha] at h
      simp only at h
      by_cases hv : 0 ≤ v ∧ Lib.itoa v = l
      · rw [if_pos hv] at h
        have hvn : v = (n : Int) := Option.some.inj h
        subst hvn
        have hl := hv.2
        rw [Lib.itoa_nonneg] at hl
        have hb := Lib.atoiAll_bounds ha
        rw [← hl]
        exact ⟨digits_can n, dec_digits n, by omega⟩
      · rw [if_neg hv] at h; cases h
    | «syntax» => rw [ha] at h; cases h
    | range => rw [ha] at h; cases h
  · rintro ⟨hc, hd, hn⟩
    have hne : l ≠ [] := by
      rintro rfl
      rcases hc with h | h
      · simp at h
      · simp at h
    have hdg := (digits_dec l n hne (hc.elim .inr (fun h => .inl h.2)) hd).1
    have hat : Lib.atoiAll l = .ok (n : Int) := by
      cases l with
      | nil => exact absurd rfl hne
      | cons c r =>
        obtain ⟨d, hdv⟩ := Lib.digit_of_decFrom (c :: r) 0 n hd 0 c rfl
        obtain ⟨e1, e2, _⟩ := Lib.digitVal_eq hdv
        rw [Lib.atoiAll_plain c r (by omega) (by omega)]
        unfold Lib.parseMag
        rw [if_neg hne, parse_dec _ 0 n hd (by omega)]
        show (if 9223372036854775808 ≤ n then Lib.NumEnd.range else .ok (n : Int)) = _
        rw [if_neg (by omega)]
    unfold numK
    rw [hat]
    simp only
    rw [if_pos ⟨by omega, by rw [Lib.itoa_nonneg]; exact hdg⟩]
theorem numK_nonneg {l : List UInt8} {v : Int} (h : numK l = some v) : ∃ n : Nat, v = (n : Int) := by
  unfold numK at h
  split at h
  · split at h
    · rename_i hv
      have : _ = v := Option.some.inj h
      subst this
      exact ⟨_, (Int.toNat_of_nonneg hv.1).symm⟩
    · cases h
  · cases h
end Go.Proofs.YtnodeapjgicclaaGreatDoor
