/- ScanTokens, walked to its end. -/
import Derived.Test.YtaljllbfedfpoaaGreatDoorSNum
import Derived.Lib.AtoiAllCases
import Derived.Lib.ItoaNum
import Derived.Lib.ItoaMem
import Derived.Lib.Atoi
import Derived.Test.YtaljllbfedfpoaaGreatDoorSWrk
import Derived.Test.YtaljllbfedfpoaaGreatDoorSREsc
import Derived.Test.YtaljllbfedfpoaaGreatDoorSRow8
import Derived.Test.YtaljllbfedfpoaaGreatDoorSTok
import Derived.Maps.AppendAt
import Derived.Test.YtaljllbfedfpoaaGreatDoorProg
import Derived.WalkKit
import Derived.LaidEql
import Derived.Stop.Asserts
import Derived.RowKitTokens
import Derived.LaidLaws
import Derived.LaidHandle
import Derived.Below
import Derived.Deep.DeepCutAuto
namespace Go.Proofs.YtaljllbfedfpoaaGreatDoor
open Go.RowKit Go.Shelf
set_option linter.unusedVariables false

theorem decFrom_snoc (l : List UInt8) (b : UInt8) : ∀ acc, Lib.decFrom acc (l ++ [b]) = (Lib.decFrom acc l).bind fun n => (Lib.digitVal b).map fun d => n * 10 + d := by
  induction l with
  | nil =>
    intro acc
    show (match Lib.digitVal b with | some d => Lib.decFrom (acc * 10 + d) [] | none => none) = _
    cases Lib.digitVal b <;> rfl
  | cons a t ih =>
    intro acc
    show (match Lib.digitVal a with | some d => Lib.decFrom (acc * 10 + d) (t ++ [b]) | none => none) = (match Lib.digitVal a with | some d => Lib.decFrom (acc * 10 + d) t | none => none).bind _
    cases Lib.digitVal a with
    | none => rfl
    | some d => exact ih _
theorem ofNat_dig (d : Nat) (h : d < 10) : (UInt8.ofNat (48 + d)).toNat = 48 + d := by
  rw [UInt8.toNat_ofNat']; omega
theorem digit_dig (d : Nat) (h : d < 10) : Lib.digitVal (UInt8.ofNat (48 + d)) = some d := by
  unfold Lib.digitVal
  rw [ofNat_dig d h, if_pos (by omega)]
  congr 1
  omega
theorem decDigits_rec (u : Nat) (h : ¬ u < 10) : Lib.decDigits u = Lib.decDigits (u / 10) ++ [UInt8.ofNat (48 + u % 10)] := by
  rw [Lib.decDigits, dif_neg h]
theorem dec_digits (u : Nat) : Lib.decFrom 0 (Lib.decDigits u) = some u := by
  induction u using Nat.strongRecOn with
  | _ u ih =>
    by_cases h : u < 10
    · rw [Lib.decDigits_one h]
      show (match Lib.digitVal _ with | some d => Lib.decFrom (0 * 10 + d) [] | none => none) = _
      rw [digit_dig u h]
      show some (0 * 10 + u) = some u
      congr 1
      omega
    · rw [decDigits_rec u h, decFrom_snoc, ih (u / 10) (by omega), digit_dig (u % 10) (by omega)]
      show some (u / 10 * 10 + u % 10) = some u
      congr 1
      omega
theorem digits_ne (u : Nat) : Lib.decDigits u ≠ [] := by
  by_cases h : u < 10
  · rw [Lib.decDigits_one h]; simp
  · rw [decDigits_rec u h]; simp
theorem digits_head (u : Nat) (hu : 1 ≤ u) : by' (Lib.decDigits u) 0 ≠ 48 := by
  induction u using Nat.strongRecOn with
  | _ u ih =>
    by_cases h : u < 10
    · rw [Lib.decDigits_one h]
      show (UInt8.ofNat (48 + u)).toNat ≠ 48
      rw [ofNat_dig u h]
      omega
    · rw [decDigits_rec u h]
      have h1 := ih (u / 10) (by omega) (by omega)
      have hne := digits_ne (u / 10)
      cases hd : Lib.decDigits (u / 10) with
      | nil => exact absurd hd hne
      | cons a t => rw [hd] at h1; exact h1
/-- Written in one way only. -/
def can (l : List UInt8) : Prop := l.length = 1 ∨ (1 < l.length ∧ by' l 0 ≠ 48)
theorem digits_can (u : Nat) : can (Lib.decDigits u) := by
  by_cases h : u < 10
  · rw [Lib.decDigits_one h]; exact .inl rfl
  · have h1 := digits_head u (by omega)
    have h2 : 1 < (Lib.decDigits u).length := by
      rw [decDigits_rec u h, List.length_append]
      have := List.length_pos_iff.2 (digits_ne (u / 10))
      simp; omega
    exact .inr ⟨h2, h1⟩
theorem dec_ge (l : List UInt8) : ∀ acc n, Lib.decFrom acc l = some n → acc ≤ n := by
  induction l with
  | nil => intro acc n h; cases h; exact Nat.le_refl _
  | cons a t ih =>
    intro acc n h
    have h' : (match Lib.digitVal a with | some d => Lib.decFrom (acc * 10 + d) t | none => none) = some n := h
    cases hd : Lib.digitVal a with
    | none => rw [hd] at h'; cases h'
    | some d =>
      rw [hd] at h'
      have := ih _ _ h'
      omega
theorem digits_dec (l : List UInt8) : ∀ n, l ≠ [] → (by' l 0 ≠ 48 ∨ l.length = 1) → Lib.decFrom 0 l = some n → Lib.decDigits n = l ∧ (by' l 0 ≠ 48 → 1 ≤ n) := by
  induction hk : l.length generalizing l with
  | zero => intro n hne; exact absurd (List.eq_nil_of_length_eq_zero hk) hne
  | succ k ih =>
    intro n hne hc h
    obtain ⟨t, b, rfl⟩ : ∃ t b, l = t ++ [b] := ⟨_, _, (List.dropLast_concat_getLast hne).symm⟩
    rw [decFrom_snoc] at h
    obtain ⟨m, hm, h2⟩ := Option.bind_eq_some_iff.1 h
    obtain ⟨d, hd, rfl⟩ := Option.map_eq_some_iff.1 h2
    obtain ⟨d1, d2, d3⟩ := Lib.digitVal_eq hd
    have hb : UInt8.ofNat (48 + d) = b := by
      refine UInt8.toNat_inj.1 ?_
      rw [ofNat_dig d (by omega)]
      omega
    by_cases ht : t = []
    · subst ht
      have hm0 : m = 0 := by
        have : Lib.decFrom 0 [] = some m := hm
        cases this; rfl
      subst hm0
      rw [Nat.zero_mul, Nat.zero_add]
      refine ⟨by rw [Lib.decDigits_one (by omega), hb]; rfl, fun h0 => ?_⟩
      have : by' ([] ++ [b]) 0 = b.toNat := rfl
      rw [this] at h0
      omega
    · have hlen : t.length = k := by rw [List.length_append] at hk; simp at hk; omega
      have hb0 : by' (t ++ [b]) 0 = by' t 0 := by
        cases t with
        | nil => exact absurd rfl ht
        | cons a s => rfl
      have hl1 : 0 < t.length := List.length_pos_iff.2 ht
      have h48 : by' t 0 ≠ 48 := by
        rcases hc with h3 | h3
        · rw [← hb0]; exact h3
        · exfalso; omega
      obtain ⟨i1, i2⟩ := ih t hlen m ht (.inl h48) hm
      have hm1 := i2 h48
      refine ⟨?_, fun _ => by omega⟩
      rw [decDigits_rec _ (by omega), show (m * 10 + d) / 10 = m by omega, show (m * 10 + d) % 10 = d by omega, i1, hb]
theorem parse_dec (l : List UInt8) : ∀ acc n, Lib.decFrom acc l = some n → n < 18446744073709551616 → Lib.parseUint10 acc l = .ok n := by
  induction l with
  | nil => intro acc n h hn; cases h; rfl
  | cons a t ih =>
    intro acc n h hn
    have h' : (match Lib.digitVal a with | some d => Lib.decFrom (acc * 10 + d) t | none => none) = some n := h
    cases hd : Lib.digitVal a with
    | none => rw [hd] at h'; cases h'
    | some d =>
      rw [hd] at h'
      obtain ⟨d1, d2, d3⟩ := Lib.digitVal_eq hd
      have hge := dec_ge t _ _ h'
      simp only [Lib.parseUint10]
      rw [if_pos ⟨d1, d2⟩, if_neg (by omega), if_neg (by omega), ← d3]
      exact ih _ _ h' hn
/-- The number that the document reads. -/
def rn (acc : Nat) : List UInt8 → Option Nat
  | [] => some acc
  | b :: t => if 48 ≤ b.toNat ∧ b.toNat ≤ 57 then (if acc ≤ (9223372036854775807 - (b.toNat - 48)) / 10 then rn (10 * acc + (b.toNat - 48)) t else none) else none
theorem rn_iff (l : List UInt8) : ∀ acc n, acc ≤ 9223372036854775807 → (rn acc l = some n ↔ Lib.decFrom acc l = some n ∧ n ≤ 9223372036854775807) := by
  induction l with
  | nil => intro acc n ha; exact ⟨fun h => ⟨h, by cases h; exact ha⟩, fun h => h.1⟩
  | cons b t ih =>
    intro acc n ha
    have e : Lib.decFrom acc (b :: t) = (match Lib.digitVal b with | some d => Lib.decFrom (acc * 10 + d) t | none => none) := rfl
    rw [e]
    simp only [rn]
    by_cases hb : 48 ≤ b.toNat ∧ b.toNat ≤ 57
    · have hd : Lib.digitVal b = some (b.toNat - 48) := by unfold Lib.digitVal; rw [if_pos hb]
      rw [if_pos hb, hd]
      by_cases hc : acc ≤ (9223372036854775807 - (b.toNat - 48)) / 10
      · rw [if_pos hc, ih _ _ (by omega), show 10 * acc + (b.toNat - 48) = acc * 10 + (b.toNat - 48) by omega]
      · rw [if_neg hc]
        constructor
        · intro h; cases h
        · rintro ⟨h1, h2⟩
          have := dec_ge t _ _ h1
          omega
    · have hd : Lib.digitVal b = none := by unfold Lib.digitVal; rw [if_neg hb]
      rw [if_neg hb, hd]
      constructor
      · intro h; cases h
      · rintro ⟨h1, h2⟩; cases h1
/-- What is a number for the program is one for the document. -/
theorem numK_iff (l : List UInt8) (n : Nat) : numK l = some (n : Int) ↔ can l ∧ rn 0 l = some n := by
  rw [rn_iff l 0 n (by omega)]
  constructor
  · intro h
    unfold numK at h
    cases ha : Lib.atoiAll l with
    | ok v =>
      rw [ha] at h
      simp only at h
      by_cases hv : 0 ≤ v ∧ Lib.itoa v = l
      · rw [if_pos hv] at h
        have hvn : v = (n : Int) := Option.some.inj h
        subst hvn
        have hl := hv.2
        rw [Lib.itoa_nonneg] at hl
        have hb := Lib.atoiAll_bounds ha
        rw [← hl]
        exact ⟨digits_can n, dec_digits n, by omega⟩
      · rw [if_neg hv] at h; cases h
    | «syntax» => rw [ha] at h; cases h
    | range => rw [ha] at h; cases h
  · rintro ⟨hc, hd, hn⟩
    have hne : l ≠ [] := by
      rintro rfl
      rcases hc with h | h
      · simp at h
      · simp at h
    have hdg := (digits_dec l n hne (hc.elim .inr (fun h => .inl h.2)) hd).1
    have hat : Lib.atoiAll l = .ok (n : Int) := by
      cases l with
      | nil => exact absurd rfl hne
      | cons c r =>
        obtain ⟨d, hdv⟩ := Lib.digit_of_decFrom (c :: r) 0 n hd 0 c rfl
        obtain ⟨e1, e2, _⟩ := Lib.digitVal_eq hdv
        rw [Lib.atoiAll_plain c r (by omega) (by omega)]
        unfold Lib.parseMag
        rw [if_neg hne, parse_dec _ 0 n hd (by omega)]
        show (if 9223372036854775808 ≤ n then Lib.NumEnd.range else .ok (n : Int)) = _
        rw [if_neg (by omega)]
    unfold numK
    rw [hat]
    simp only
    rw [if_pos ⟨by omega, by rw [Lib.itoa_nonneg]; exact hdg⟩]
theorem numK_nonneg {l : List UInt8} {v : Int} (h : numK l = some v) : ∃ n : Nat, v = (n : Int) := by
  unfold numK at h
  split at h
  · split at h
    · rename_i hv
      have : _ = v := Option.some.inj h
      subst this
      exact ⟨_, (Int.toNat_of_nonneg hv.1).symm⟩
    · cases h
  · cases h
end Go.Proofs.YtaljllbfedfpoaaGreatDoor
namespace Go.Proofs.YtaljllbfedfpoaaGreatDoor
open Go.RowKit Go.Shelf
set_option linter.unusedVariables false

theorem Sc_blank {l : List UInt8} {q : Nat} (acc : List Tk) (hq : q < l.length) (hb : blankC (by' l q) = true) : Sc l q acc = Sc l (q + 1) acc := by
  have hs := skp_step hq hb
  rw [Sc_eq acc (by omega) rfl, Sc_eq acc (show q + 1 ≤ l.length by omega) rfl, hs]
  rw [show q + (skp blankC (l.drop (q + 1)) + 1) = q + 1 + skp blankC (l.drop (q + 1)) by omega]
theorem skp_all (is : Nat → Bool) (l : List UInt8) (h : ∀ b ∈ l, is b.toNat = true) : skp is l = l.length := by
  induction l with
  | nil => rfl
  | cons a t ih =>
    simp only [skp, List.length_cons]
    rw [if_pos (h a List.mem_cons_self), ih (fun b hb => h b (List.mem_cons_of_mem _ hb))]
theorem skp_mem (is : Nat → Bool) (l : List UInt8) (h : skp is l = l.length) : ∀ b ∈ l, is b.toNat = true := by
  induction l with
  | nil => intro b hb; simp at hb
  | cons a t ih =>
    simp only [skp, List.length_cons] at h
    split at h
    · rename_i ha
      intro b hb
      rcases List.mem_cons.1 hb with e | e
      · subst e; exact ha
      · exact ih (by omega) b e
    · omega
theorem skp_app (is : Nat → Bool) (X Y : List UInt8) (h : ∀ b ∈ X, is b.toNat = true) (hY : Y = [] ∨ is (by' Y 0) = false) : skp is (X ++ Y) = X.length := by
  induction X with
  | nil =>
    cases Y with
    | nil => rfl
    | cons y ys =>
      rcases hY with e | e
      · cases e
      · have e' : is y.toNat = false := e
        simp [skp, e']
  | cons a t ih =>
    simp only [List.cons_append, skp, List.length_cons]
    rw [if_pos (h a List.mem_cons_self), ih (fun b hb => h b (List.mem_cons_of_mem _ hb))]
theorem blank_run {c : Nat} (h : blankC c = true) : runC c = false := by
  unfold blankC at h
  simp only [Bool.or_eq_true, beq_iff_eq] at h
  rcases h with rfl | rfl <;> decide
theorem run_blank {c : Nat} (h : runC c = true) : blankC c = false := by
  cases hb : blankC c with
  | false => rfl
  | true => rw [blank_run hb] at h; cases h
theorem run_34 {c : Nat} (h : runC c = true) : c ≠ 34 := fun e => by subst e; exact absurd h (by decide)
theorem digits_run (u : Nat) : ∀ b ∈ Lib.decDigits u, runC b.toNat = true := by
  induction u using Nat.strongRecOn with
  | _ u ih =>
    intro b hb
    have hd : ∀ d, d < 10 → runC (UInt8.ofNat (48 + d)).toNat = true := by
      intro d h
      rw [ofNat_dig d h]
      unfold runC
      rw [decide_eq_true (show 48 ≤ 48 + d by omega), decide_eq_true (show 48 + d ≤ 57 by omega)]
      simp
    by_cases h : u < 10
    · rw [Lib.decDigits_one h] at hb
      simp only [List.mem_cons, List.not_mem_nil, or_false] at hb
      subst hb
      exact hd u h
    · rw [decDigits_rec u h] at hb
      rcases List.mem_append.1 hb with e | e
      · exact ih (u / 10) (by omega) b e
      · simp only [List.mem_cons, List.not_mem_nil, or_false] at e
        subst e
        exact hd (u % 10) (by omega)
/-- A token that some line has. -/
def okT (t : Tk) : Prop := (t.1 = 1 ∧ isRunL t.2.2.1 = true ∧ numK t.2.2.1 = none ∧ t.2.2.2 = 0) ∨ (t.1 = 2 ∧ t.2.2.1 = [] ∧ ∃ m : Nat, t.2.2.2 = (m : Int) ∧ m ≤ 9223372036854775807) ∨ (t.1 = 3 ∧ t.2.2.2 = 0)
/-- How it is printed. -/
def pcT (t : Tk) : List UInt8 := pT (toI t)
theorem isRun_iff {l : List UInt8} : isRunL l = true ↔ l ≠ [] ∧ ∀ b ∈ l, runC b.toNat = true := by
  unfold isRunL
  rw [Bool.and_eq_true, decide_eq_true_eq, decide_eq_true_eq]
  constructor
  · rintro ⟨h1, h2⟩
    exact ⟨fun e => by subst e; simp [skp] at h1, skp_mem _ _ h2⟩
  · rintro ⟨h1, h2⟩
    have := skp_all _ _ h2
    have h0 : 0 < l.length := List.length_pos_iff.2 h1
    exact ⟨by omega, this⟩
/-- A run at a place of a line. -/
theorem Sc_run {L : List UInt8} {q : Nat} (acc : List Tk) {X Y : List UInt8} (hL : L.drop q = X ++ Y) (hq : q ≤ L.length) (hne : X ≠ []) (hX : ∀ b ∈ X, runC b.toNat = true) (hY : Y = [] ∨ blankC (by' Y 0) = true) :
    Sc L q acc = Sc L (q + X.length) (acc ++ [saidT X q]) := by
  have h0 : 0 < X.length := List.length_pos_iff.2 hne
  have hlen : L.length = q + X.length + Y.length := by
    have := congrArg List.length hL
    rw [List.length_drop, List.length_append] at this
    omega
  have hb0 : by' L q = by' (X ++ Y) 0 := by rw [← hL, by'_drop, Nat.add_zero]
  have hr0 : runC (by' L q) = true := by
    rw [hb0]
    cases X with
    | nil => exact absurd rfl hne
    | cons a t => exact hX a List.mem_cons_self
  have hs : skp blankC (L.drop q) = 0 := skp_stop (by omega) (run_blank hr0)
  have hrn : skp runC (L.drop q) = X.length := by
    rw [hL]
    refine skp_app _ X Y hX ?_
    rcases hY with e | e
    · exact .inl e
    · exact .inr (blank_run e)
  rw [Sc_eq acc hq (show q + skp blankC (L.drop q) = q by rw [hs]; rfl), if_neg (by omega), if_neg (run_34 hr0), hrn, if_pos h0]
  rw [if_pos, hL, List.take_left]
  rcases hY with e | e
  · left; rw [hlen, e]; simp
  · right
    rw [show by' L (q + X.length) = by' Y 0 from ?_]
    · exact e
    · have : by' L (q + X.length) = by' (L.drop q) X.length := by rw [by'_drop]
      rw [this, hL]
      unfold by'
      rw [List.getElem?_append_right (Nat.le_refl _), Nat.sub_self]
theorem Sc_tok {L : List UInt8} {q : Nat} (acc : List Tk) {t : Tk} {Y : List UInt8} (ht : okT t) (hL : L.drop q = pcT t ++ Y) (hq : q ≤ L.length) (hY : Y = [] ∨ blankC (by' Y 0) = true) :
    Sc L q acc = Sc L (q + (pcT t).length) (acc ++ [(t.1, q, t.2.2.1, t.2.2.2)]) := by
  obtain ⟨k, a, tx, n⟩ := t
  rcases ht with ⟨h1, h2, h3, h4⟩ | ⟨h1, h2, m, h3, h4⟩ | ⟨h1, h2⟩
  · simp only at h1 h2 h3 h4
    subst h1 h4
    have hp : pcT (1, a, tx, 0) = tx := by unfold pcT pT toI; simp [bl]
    rw [hp] at hL ⊢
    obtain ⟨g1, g2⟩ := isRun_iff.1 h2
    rw [Sc_run acc hL hq g1 g2 hY]
    have : saidT tx q = (1, q, tx, 0) := by unfold saidT; rw [h3]
    rw [this]
  · simp only at h1 h2 h3
    subst h1 h2 h3
    have hp : pcT (2, a, [], (m : Int)) = Lib.decDigits m := by
      unfold pcT pT toI
      rw [if_pos rfl]
      exact Lib.itoa_nonneg m
    rw [hp] at hL ⊢
    rw [Sc_run acc hL hq (digits_ne m) (digits_run m) hY]
    have hk : numK (Lib.decDigits m) = some (m : Int) := (numK_iff _ m).2 ⟨digits_can m, (rn_iff _ 0 m (by omega)).2 ⟨dec_digits m, h4⟩⟩
    have : saidT (Lib.decDigits m) q = (2, q, [], (m : Int)) := by unfold saidT; rw [hk]
    rw [this]
  · simp only at h1 h2
    subst h1 h2
    have hp : pcT (3, a, tx, 0) = 34 :: (qo tx ++ [34]) := by unfold pcT pT toI; simp [bl]
    rw [hp] at hL ⊢
    have hl3 : (34 :: (qo tx ++ [34])).length = (qo tx).length + 2 := by simp
    have hlen : L.length = q + ((qo tx).length + 2) + Y.length := by
      have := congrArg List.length hL
      rw [List.length_drop, List.length_append, hl3] at this
      omega
    have hb0 : by' L q = 34 := by
      have : by' L q = by' (L.drop q) 0 := by rw [by'_drop, Nat.add_zero]
      rw [this, hL]; rfl
    have hs : skp blankC (L.drop q) = 0 := skp_stop (by omega) (by rw [hb0]; decide)
    have hd1 : L.drop (q + 1) = qo tx ++ 34 :: Y := by
      have : L.drop (q + 1) = (L.drop q).drop 1 := by rw [List.drop_drop]
      rw [this, hL]
      simp
    rw [Sc_eq acc hq (show q + skp blankC (L.drop q) = q by rw [hs]; rfl), if_neg (by omega), if_pos hb0, hd1, Qt_qo Y tx]
    simp only [if_true]
    rw [if_pos, hl3, show q + 1 + ((qo tx).length + 1) = q + ((qo tx).length + 2) by omega]
    rcases hY with e | e
    · left; rw [hlen, e]; simp; omega
    · right
      rw [show by' L (q + 1 + ((qo tx).length + 1)) = by' Y 0 from ?_]
      · exact e
      · have : by' L (q + 1 + ((qo tx).length + 1)) = by' (L.drop q) ((qo tx).length + 2) := by rw [by'_drop]; congr 1; omega
        rw [this, hL]
        unfold by'
        rw [List.getElem?_append_right (by rw [hl3]; exact Nat.le_refl _), hl3, Nat.sub_self]
/-- Tokens, but for their places. -/
def strip (t : Tk) : Int × List UInt8 × Int := (t.1, t.2.2.1, t.2.2.2)
theorem Sc_flat (L : List UInt8) (ts : List Tk) (hok : ∀ t ∈ ts, okT t) : ∀ (q : Nat) (acc : List Tk), q ≤ L.length → L.drop q = (ts.map toI).flatMap (fun y => 32 :: pT y) → ∃ us, Sc L q acc = .inl (acc ++ us) ∧ us.map strip = ts.map strip := by
  induction ts with
  | nil =>
    intro q acc hq hL
    have hl : q = L.length := by
      have := congrArg List.length hL
      rw [List.length_drop] at this
      simp at this
      omega
    refine ⟨[], ?_, rfl⟩
    have hL' : L.drop q = [] := hL
    rw [Sc_eq acc hq (show q + skp blankC (L.drop q) = q by rw [hL']; rfl), if_pos hl, List.append_nil]
  | cons t ts ih =>
    intro q acc hq hL
    have hL1 : L.drop q = 32 :: (pcT t ++ (ts.map toI).flatMap (fun y => 32 :: pT y)) := by rw [hL]; simp [pcT]
    have hlt : q < L.length := by
      have := congrArg List.length hL1
      rw [List.length_drop] at this
      simp at this
      omega
    have hb : by' L q = 32 := by
      have : by' L q = by' (L.drop q) 0 := by rw [by'_drop, Nat.add_zero]
      rw [this, hL1]; rfl
    have hd : L.drop (q + 1) = pcT t ++ (ts.map toI).flatMap (fun y => 32 :: pT y) := by
      have : L.drop (q + 1) = (L.drop q).drop 1 := by rw [List.drop_drop]
      rw [this, hL1]; rfl
    have hY : (ts.map toI).flatMap (fun y => (32 : UInt8) :: pT y) = [] ∨ blankC (by' ((ts.map toI).flatMap (fun y => (32 : UInt8) :: pT y)) 0) = true := by
      cases ts with
      | nil => exact .inl rfl
      | cons u us => right; rfl
    rw [Sc_blank acc hlt (by rw [hb]; decide), Sc_tok acc (hok t List.mem_cons_self) hd (by omega) hY]
    have hle : q + 1 + (pcT t).length ≤ L.length := by
      have := congrArg List.length hd
      rw [List.length_drop, List.length_append] at this
      omega
    obtain ⟨us, h1, h2⟩ := ih (fun u hu => hok u (List.mem_cons_of_mem _ hu)) (q + 1 + (pcT t).length) (acc ++ [(t.1, q + 1, t.2.2.1, t.2.2.2)]) hle (by
      have : L.drop (q + 1 + (pcT t).length) = (L.drop (q + 1)).drop (pcT t).length := by rw [List.drop_drop]
      rw [this, hd, List.drop_left])
    refine ⟨(t.1, q + 1, t.2.2.1, t.2.2.2) :: us, ?_, ?_⟩
    · rw [h1]; simp
    · rw [List.map_cons, List.map_cons, h2]; rfl
/-- What is printed is read as the same, but for the places. -/
theorem Sc_printed (ts : List Tk) (hok : ∀ t ∈ ts, okT t) : ∃ us, Sc (prJ (ts.map toI)) 0 [] = .inl us ∧ us.map strip = ts.map strip := by
  cases ts with
  | nil =>
    refine ⟨[], ?_, rfl⟩
    rw [Sc_eq [] (Nat.zero_le _) rfl]
    rfl
  | cons t ts =>
    have hd : (prJ ((t :: ts).map toI)).drop 0 = pcT t ++ (ts.map toI).flatMap (fun y => 32 :: pT y) := rfl
    have hY : (ts.map toI).flatMap (fun y => (32 : UInt8) :: pT y) = [] ∨ blankC (by' ((ts.map toI).flatMap (fun y => (32 : UInt8) :: pT y)) 0) = true := by
      cases ts with
      | nil => exact .inl rfl
      | cons u us => right; rfl
    rw [Sc_tok [] (hok t List.mem_cons_self) hd (Nat.zero_le _) hY]
    have hle : 0 + (pcT t).length ≤ (prJ ((t :: ts).map toI)).length := by
      have := congrArg List.length hd
      rw [List.length_drop, List.length_append] at this
      omega
    obtain ⟨us, h1, h2⟩ := Sc_flat (prJ ((t :: ts).map toI)) ts (fun u hu => hok u (List.mem_cons_of_mem _ hu)) (0 + (pcT t).length) ([] ++ [(t.1, 0, t.2.2.1, t.2.2.2)]) hle (by
      have : (prJ ((t :: ts).map toI)).drop (0 + (pcT t).length) = ((prJ ((t :: ts).map toI)).drop 0).drop (pcT t).length := by rw [List.drop_drop]
      rw [this, hd, List.drop_left])
    refine ⟨(t.1, 0, t.2.2.1, t.2.2.2) :: us, ?_, ?_⟩
    · rw [h1]; simp
    · rw [List.map_cons, List.map_cons, h2]; rfl
end Go.Proofs.YtaljllbfedfpoaaGreatDoor
namespace Go.Proofs.YtaljllbfedfpoaaGreatDoor
open Go.RowKit Go.Shelf
set_option linter.unusedVariables false

theorem dgF_loc (m : Nat) : ∀ (a : Nat) (l : List UInt8) (Z : List UInt8), ((dgF m a l).2 = m ∨ (∃ z zs, Z = z :: zs ∧ ¬ 0 ≤ hexV z)) → dgF m a (l.take (dgF m a l).2 ++ Z) = dgF m a l := by
  induction m with
  | zero => intro a l Z h; rfl
  | succ m ih =>
    intro a l Z h
    cases l with
    | nil =>
      have e : dgF (m + 1) a [] = (a, 0) := rfl
      rw [e] at h ⊢
      rcases h with h | ⟨z, zs, rfl, hz⟩
      · simp at h
      · simp only [List.take_nil, List.nil_append, dgF]
        rw [if_neg hz]
    | cons b t =>
      by_cases hb : 0 ≤ hexV b
      · have e : dgF (m + 1) a (b :: t) = ((dgF m (16 * a + (hexV b).toNat) t).1, (dgF m (16 * a + (hexV b).toNat) t).2 + 1) := by simp only [dgF]; rw [if_pos hb]
        rw [e] at h ⊢
        simp only [List.take_succ_cons, List.cons_append]
        have h' : (dgF m (16 * a + (hexV b).toNat) t).2 = m ∨ (∃ z zs, Z = z :: zs ∧ ¬ 0 ≤ hexV z) := by
          rcases h with h | h
          · left; simp at h; exact h
          · exact .inr h
        have := ih (16 * a + (hexV b).toNat) t Z h'
        simp only [dgF]
        rw [if_pos hb, this]
      · have e : dgF (m + 1) a (b :: t) = (a, 0) := by simp only [dgF]; rw [if_neg hb]
        rw [e] at h ⊢
        rcases h with h | ⟨z, zs, rfl, hz⟩
        · simp at h
        · simp only [List.take_zero, List.nil_append, dgF]
          rw [if_neg hz]
theorem dgF_le2 (m a : Nat) (l : List UInt8) : (dgF m a l).2 ≤ m := by
  induction m generalizing a l with
  | zero => exact Nat.le_refl _
  | succ m ih =>
    cases l with
    | nil => exact Nat.zero_le _
    | cons b t =>
      simp only [dgF]
      split
      · have := ih (16 * a + (hexV b).toNat) t
        simp only
        omega
      · exact Nat.zero_le _
theorem by'_take_app {X Z : List UInt8} {n k : Nat} (hk : k < n) (hn : n ≤ X.length) : by' (X.take n ++ Z) k = by' X k := by
  unfold by'
  rw [List.getElem?_append_left (by rw [List.length_take]; omega), List.getElem?_take, if_pos hk]
theorem drop_take_app {X Z : List UInt8} {n k : Nat} (hk : k ≤ n) (hn : n ≤ X.length) : (X.take n ++ Z).drop k = (X.drop k).take (n - k) ++ Z := by
  rw [List.drop_append_of_le_length (by rw [List.length_take]; omega), List.drop_take]
theorem escL_loc {X : List UInt8} (h : (escL X).2 ≠ 0) (Z : List UInt8) : escL (X.take (escL X).2 ++ Z) = escL X := by
  have hs := (escL_small X).2
  have hlen : ∀ n, n ≤ X.length → 1 < n → 1 < (X.take n ++ Z).length := fun n h1 h2 => by rw [List.length_append, List.length_take]; omega
  by_cases h1 : 1 < X.length
  · by_cases c1 : by' X 1 = 34
    · have e : escL X = ([34], 2) := by unfold escL; rw [if_pos h1, if_pos c1]
      rw [e]
      unfold escL
      rw [if_pos (hlen 2 (by omega) (by omega)), by'_take_app (by omega) (by omega), if_pos c1]
    by_cases c2 : by' X 1 = 92
    · have e : escL X = ([92], 2) := by unfold escL; rw [if_pos h1, if_neg c1, if_pos c2]
      rw [e]
      unfold escL
      rw [if_pos (hlen 2 (by omega) (by omega)), by'_take_app (by omega) (by omega), if_neg c1, if_pos c2]
    by_cases c3 : by' X 1 = 110
    · have e : escL X = ([10], 2) := by unfold escL; rw [if_pos h1, if_neg c1, if_neg c2, if_pos c3]
      rw [e]
      unfold escL
      rw [if_pos (hlen 2 (by omega) (by omega)), by'_take_app (by omega) (by omega), if_neg c1, if_neg c2, if_pos c3]
    by_cases c4 : by' X 1 = 114
    · have e : escL X = ([13], 2) := by unfold escL; rw [if_pos h1, if_neg c1, if_neg c2, if_neg c3, if_pos c4]
      rw [e]
      unfold escL
      rw [if_pos (hlen 2 (by omega) (by omega)), by'_take_app (by omega) (by omega), if_neg c1, if_neg c2, if_neg c3, if_pos c4]
    by_cases c5 : by' X 1 = 116
    · have e : escL X = ([9], 2) := by unfold escL; rw [if_pos h1, if_neg c1, if_neg c2, if_neg c3, if_neg c4, if_pos c5]
      rw [e]
      unfold escL
      rw [if_pos (hlen 2 (by omega) (by omega)), by'_take_app (by omega) (by omega), if_neg c1, if_neg c2, if_neg c3, if_neg c4, if_pos c5]
    by_cases c6 : by' X 1 = 120
    · by_cases hd : 2 ≤ (dgF 2 0 (X.drop 2)).2
      · have hd2 : (dgF 2 0 (X.drop 2)).2 = 2 := by have := dgF_le2 2 0 (X.drop 2); omega
        have e : escL X = ([((dgF 2 0 (X.drop 2)).1).toUInt8], 4) := by
          unfold escL; rw [if_pos h1, if_neg c1, if_neg c2, if_neg c3, if_neg c4, if_neg c5, if_pos c6, if_pos hd, hd2]
        rw [e] at hs ⊢
        simp only at hs
        show escL (X.take 4 ++ Z) = ([((dgF 2 0 (X.drop 2)).1).toUInt8], 4)
        have hl := dgF_loc 2 0 (X.drop 2) Z (.inl hd2)
        rw [hd2] at hl
        unfold escL
        rw [if_pos (hlen 4 (by omega) (by omega)), by'_take_app (by omega) (by omega), if_neg c1, if_neg c2, if_neg c3, if_neg c4, if_neg c5, if_pos c6, drop_take_app (by omega) (by omega), hl, if_pos hd, hd2]
      · exact absurd (by unfold escL; rw [if_pos h1, if_neg c1, if_neg c2, if_neg c3, if_neg c4, if_neg c5, if_pos c6, if_neg hd]) h
    by_cases c7 : by' X 1 = 117
    · by_cases c8 : 2 < X.length ∧ by' X 2 = 123
      · by_cases c9 : 1 ≤ (dgF 6 0 (X.drop 3)).2 ∧ (3 + (dgF 6 0 (X.drop 3)).2 < X.length ∧ by' X (3 + (dgF 6 0 (X.drop 3)).2) = 125) ∧ Lib.validRune ((dgF 6 0 (X.drop 3)).1 : Int) = true
        · have e : escL X = (Lib.encodeRune ((dgF 6 0 (X.drop 3)).1 : Int), 3 + (dgF 6 0 (X.drop 3)).2 + 1) := by
            unfold escL; rw [if_pos h1, if_neg c1, if_neg c2, if_neg c3, if_neg c4, if_neg c5, if_neg c6, if_pos c7, if_pos c8, if_pos c9]
          rw [e] at hs ⊢
          simp only at hs
          have ht : (X.drop 3).take ((dgF 6 0 (X.drop 3)).2 + 1) = (X.drop 3).take (dgF 6 0 (X.drop 3)).2 ++ [125] := by
            have hk : (dgF 6 0 (X.drop 3)).2 < (X.drop 3).length := by rw [List.length_drop]; omega
            rw [List.take_succ_eq_append_getElem hk]
            congr 2
            refine UInt8.toNat_inj.1 ?_
            have h9 := c9.2.1.2
            have : by' X (3 + (dgF 6 0 (X.drop 3)).2) = by' (X.drop 3) (dgF 6 0 (X.drop 3)).2 := by rw [by'_drop]
            rw [this] at h9
            unfold by' at h9
            rw [List.getElem?_eq_getElem hk] at h9
            exact h9
          have hl := dgF_loc 6 0 (X.drop 3) (125 :: Z) (.inr ⟨125, Z, rfl, by decide⟩)
          have hdr : (X.take (3 + (dgF 6 0 (X.drop 3)).2 + 1) ++ Z).drop 3 = (X.drop 3).take (dgF 6 0 (X.drop 3)).2 ++ 125 :: Z := by
            rw [drop_take_app (by omega) (by omega), show 3 + (dgF 6 0 (X.drop 3)).2 + 1 - 3 = (dgF 6 0 (X.drop 3)).2 + 1 by omega, ht]
            simp
          unfold escL
          rw [if_pos (hlen _ (by omega) (by omega)), by'_take_app (by omega) (by omega), if_neg c1, if_neg c2, if_neg c3, if_neg c4, if_neg c5, if_neg c6, if_pos c7, hdr, hl]
          rw [if_pos ⟨by rw [List.length_append, List.length_take]; omega, by rw [by'_take_app (by omega) (by omega)]; exact c8.2⟩]
          rw [if_pos ⟨c9.1, ⟨by rw [List.length_append, List.length_take]; omega, by rw [by'_take_app (by omega) (by omega)]; exact c9.2.1.2⟩, c9.2.2⟩]
        · exact absurd (by unfold escL; rw [if_pos h1, if_neg c1, if_neg c2, if_neg c3, if_neg c4, if_neg c5, if_neg c6, if_pos c7, if_pos c8, if_neg c9]) h
      · exact absurd (by unfold escL; rw [if_pos h1, if_neg c1, if_neg c2, if_neg c3, if_neg c4, if_neg c5, if_neg c6, if_pos c7, if_neg c8]) h
    · exact absurd (by unfold escL; rw [if_pos h1, if_neg c1, if_neg c2, if_neg c3, if_neg c4, if_neg c5, if_neg c6, if_neg c7]) h
  · exact absurd (by unfold escL; rw [if_neg h1]) h
theorem rune92 {l : List UInt8} (hl : l ≠ []) : (firstV l).1 = 92 ↔ by' l 0 = 92 := by
  rw [fst_rune hl]
  constructor
  · intro h
    have hr : rune l = 92 := by omega
    have hw := asc_W hl (rune_W (by omega)) (by omega)
    have := (asc (W_one l hw)).2
    omega
  · intro h
    have := (asc (l := l) (by omega)).2
    omega
/-- A quoted text hangs on its own bytes alone. -/
theorem Qt_loc (k : Nat) : ∀ (X : List UInt8), X.length ≤ k → ∀ (T : List UInt8) (E : Nat), Qt X = (T, E, true) → ∀ Z, Qt (X.take E ++ Z) = (T, E, true) := by
  induction k with
  | zero =>
    intro X hX T E h Z
    have : X = [] := List.eq_nil_of_length_eq_zero (by omega)
    subst this
    rw [Qt_fault (by simp) (by simp [firstV]) (by simp [firstV])] at h
    cases h
  | succ k ih =>
    intro X hX T E h Z
    by_cases c34 : 0 < X.length ∧ by' X 0 = 34
    · rw [Qt_close c34] at h
      cases h
      refine Qt_close ⟨by rw [List.length_append, List.length_take]; omega, ?_⟩
      rw [by'_take_app (by omega) (by omega)]
      exact c34.2
    · by_cases hne : X = []
      · subst hne
        rw [Qt_fault (by simp) (by simp [firstV]) (by simp [firstV])] at h
        cases h
      · have hpos : 0 < X.length := List.length_pos_iff.2 hne
        by_cases c92 : (firstV X).1 = 92
        · by_cases hn : (escL X).2 = 0
          · rw [Qt_none c34 c92 hn] at h; cases h
          · rw [Qt_esc c34 c92 hn] at h
            have hs := (escL_small X).2
            obtain ⟨T', E', o', hQ⟩ : ∃ T' E' o', Qt (X.drop (escL X).2) = (T', E', o') := ⟨_, _, _, rfl⟩
            rw [hQ] at h
            simp only [Prod.mk.injEq] at h
            obtain ⟨hT, hE, ho⟩ := h
            subst ho
            have hi := ih (X.drop (escL X).2) (by rw [List.length_drop]; omega) T' E' hQ Z
            have hle := Qt_le (X.drop (escL X).2)
            rw [hQ, List.length_drop] at hle
            simp only at hle
            have hsplit : X.take E ++ Z = X.take (escL X).2 ++ ((X.drop (escL X).2).take E' ++ Z) := by
              rw [← hE, List.take_add, List.append_assoc]
            have hloc := escL_loc hn ((X.drop (escL X).2).take E' ++ Z)
            have hb := (rune92 hne).1 c92
            have hne2 : X.take (escL X).2 ++ ((X.drop (escL X).2).take E' ++ Z) ≠ [] := fun e => by
              have h0 := congrArg List.length e
              rw [List.length_append, List.length_take, List.length_nil] at h0
              omega
            have hb2 : by' (X.take (escL X).2 ++ ((X.drop (escL X).2).take E' ++ Z)) 0 = 92 := by rw [by'_take_app (by omega) (by omega)]; exact hb
            rw [hsplit, Qt_esc (fun e => by rw [hb2] at e; exact absurd e.2 (by decide)) ((rune92 hne2).2 hb2) (by rw [hloc]; exact hn), hloc]
            have hd : (X.take (escL X).2 ++ ((X.drop (escL X).2).take E' ++ Z)).drop (escL X).2 = (X.drop (escL X).2).take E' ++ Z := by
              rw [drop_take_app (Nat.le_refl _) hs, Nat.sub_self, List.take_zero, List.nil_append]
            rw [hd, hi, hT, hE]
        · by_cases hp : (firstV X).2.2 = true ∧ plainK (firstV X).1 = true
          · rw [Qt_char c34 c92 hp] at h
            have hcl := cw_len X hne
            have hcp := cw_pos X
            obtain ⟨T', E', o', hQ⟩ : ∃ T' E' o', Qt (X.drop (cw X)) = (T', E', o') := ⟨_, _, _, rfl⟩
            rw [hQ] at h
            simp only [Prod.mk.injEq] at h
            obtain ⟨hT, hE, ho⟩ := h
            subst ho
            have hi := ih (X.drop (cw X)) (by rw [List.length_drop]; omega) T' E' hQ Z
            have hle := Qt_le (X.drop (cw X))
            rw [hQ, List.length_drop] at hle
            simp only at hle
            have hsplit : X.take E ++ Z = X.take (cw X) ++ ((X.drop (cw X)).take E' ++ Z) := by
              rw [← hE, List.take_add, List.append_assoc]
            have hw : W X ≠ 0 := by have := hp.1; rw [fst_right hne] at this; exact of_decide_eq_true this
            obtain ⟨k1, k2, k3⟩ := keepW hne hw ((X.drop (cw X)).take E' ++ Z)
            have hne2 : X.take (cw X) ++ ((X.drop (cw X)).take E' ++ Z) ≠ [] := fun e => by
              have := congrArg List.length e
              rw [List.length_append, k3] at this
              simp at this
              omega
            have hf1 : (firstV (X.take (cw X) ++ ((X.drop (cw X)).take E' ++ Z))).1 = (firstV X).1 := by rw [fst_rune hne2, fst_rune hne, k2]
            have hf2 : (firstV (X.take (cw X) ++ ((X.drop (cw X)).take E' ++ Z))).2.2 = (firstV X).2.2 := by rw [fst_right hne2, fst_right hne, k1]
            have hb0 : by' (X.take (cw X) ++ ((X.drop (cw X)).take E' ++ Z)) 0 = by' X 0 := by'_take_app (by omega) (by omega)
            have hcw : cw (X.take (cw X) ++ ((X.drop (cw X)).take E' ++ Z)) = (X.take (cw X)).length := by rw [k3, cw_W (by rw [k1]; exact hw), k1]
            rw [hsplit, Qt_char (fun e => c34 ⟨hpos, by rw [← hb0]; exact e.2⟩) (by rw [hf1]; exact c92) (by rw [hf1, hf2]; exact hp), hcw, List.take_left, List.drop_left, hi, hT]
            rw [k3, ← cw_W hw, hE]
          · rw [Qt_fault c34 c92 hp] at h; cases h
end Go.Proofs.YtaljllbfedfpoaaGreatDoor
namespace Go.Proofs.YtaljllbfedfpoaaGreatDoor
open Go.RowKit Go.Shelf
set_option linter.unusedVariables false

/-- A quoted text at the front: what it stands for, how many bytes it has or where it is wrong, whether it is one. -/
def qdV (l : List UInt8) : List UInt8 × Nat × Bool := (if (Qt (l.drop 1)).2.2 = true then (Qt (l.drop 1)).1 else [], 1 + (Qt (l.drop 1)).2.1, (Qt (l.drop 1)).2.2)
/-- How far a quoted text is read. -/
def qdI (l : List UInt8) (q : Nat) (acc : List UInt8) : Prop := 1 ≤ q ∧ q ≤ l.length ∧ acc.length ≤ q ∧ Qt (l.drop 1) = (acc ++ (Qt (l.drop q)).1, (q - 1) + (Qt (l.drop q)).2.1, (Qt (l.drop q)).2.2)
theorem qdI_start {l : List UInt8} (h : 0 < l.length) : qdI l 1 [] := ⟨Nat.le_refl _, h, Nat.zero_le _, by simp⟩
theorem qdI_fault {l acc : List UInt8} {q : Nat} (h : qdI l q acc) (hQ : Qt (l.drop q) = ([], 0, false)) : qdV l = ([], q, false) := by
  obtain ⟨h1, h2, h3, h4⟩ := h
  rw [hQ] at h4
  unfold qdV
  rw [h4]
  simp only [Bool.false_eq_true, if_false, Prod.mk.injEq, true_and, and_true]
  omega
theorem qdI_close {l acc : List UInt8} {q : Nat} (h : qdI l q acc) (hQ : Qt (l.drop q) = ([], 1, true)) : qdV l = (acc, q + 1, true) := by
  obtain ⟨h1, h2, h3, h4⟩ := h
  rw [hQ] at h4
  unfold qdV
  rw [h4]
  simp only [if_true, List.append_nil, Prod.mk.injEq, true_and, and_true]
  omega
theorem qdI_esc {l acc : List UInt8} {q : Nat} (h : qdI l q acc) (hQ : Qt (l.drop q) = ((escL (l.drop q)).1 ++ (Qt ((l.drop q).drop (escL (l.drop q)).2)).1, (escL (l.drop q)).2 + (Qt ((l.drop q).drop (escL (l.drop q)).2)).2.1, (Qt ((l.drop q).drop (escL (l.drop q)).2)).2.2)) :
    qdI l (q + (escL (l.drop q)).2) (acc ++ (escL (l.drop q)).1) := by
  obtain ⟨h1, h2, h3, h4⟩ := h
  have hs := escL_small (l.drop q)
  rw [List.length_drop] at hs
  rw [hQ, List.drop_drop] at h4
  refine ⟨by omega, by omega, by rw [List.length_append]; omega, ?_⟩
  rw [h4, List.append_assoc]
  simp only [Prod.mk.injEq, true_and, and_true]
  omega
theorem qdI_char {l acc : List UInt8} {q : Nat} (h : qdI l q acc) (hlt : q < l.length) (hQ : Qt (l.drop q) = ((l.drop q).take (cw (l.drop q)) ++ (Qt ((l.drop q).drop (cw (l.drop q)))).1, cw (l.drop q) + (Qt ((l.drop q).drop (cw (l.drop q)))).2.1, (Qt ((l.drop q).drop (cw (l.drop q)))).2.2)) :
    qdI l (q + cw (l.drop q)) (acc ++ (l.drop q).take (cw (l.drop q))) := by
  obtain ⟨h1, h2, h3, h4⟩ := h
  have hne : l.drop q ≠ [] := fun e => by have := congrArg List.length e; rw [List.length_drop] at this; simp at this; omega
  have hs := cw_len (l.drop q) hne
  rw [List.length_drop] at hs
  rw [hQ, List.drop_drop] at h4
  refine ⟨by omega, by omega, by rw [List.length_append, List.length_take]; omega, ?_⟩
  rw [h4, List.append_assoc]
  simp only [Prod.mk.injEq, true_and, and_true]
  omega
theorem not34 {l : List UInt8} (h : by' l 0 ≠ 34) : ¬ (0 < l.length ∧ by' l 0 = 34) := fun c => h c.2
theorem first_eq {l : List UInt8} (hl : l ≠ []) : firstV l = ((rune l : Int), (cw l : Int), decide (W l ≠ 0)) := by unfold firstV; rw [if_neg hl]

set_option maxRecDepth 100000 in
set_option maxHeartbeats 4000000 in
theorem rquoted_any (s : ByteArray) (w : World) (hs : s.size ≤ 17592186044416) (h0 : 0 < s.size) :
    Calls Tryz.prog 34 #[.string s] w fun e w' => e = .returned (.tuple #[.string ⟨(qdV (bl s)).1.toArray⟩, .int .i64 ((qdV (bl s)).2.1 : Int), .bool (qdV (bl s)).2.2]) ∧ Below w.heap.size w w' := by
  obtain ⟨i0, hi, hz0, hz1, hz2⟩ := info_parts Tryz.info8s
  have hI := qdI_start (l := bl s) (by rw [bl_len]; exact h0)
  obtain ⟨R, hR⟩ : ∃ R, qdV (bl s) = R := ⟨_, rfl⟩
  rw [hR]
  have HR := hide hR
  have HI := hide hI
  have hsI : (s.size : Int) ≤ 17592186044416 := by omega
  have h0I : (1 : Int) ≤ (s.size : Int) := by omega
  clear hR hI h0
  go_enter Tryz.func34, Tryz.ntmps34
  go_wp2_with (fail)
  go_loopw [5, 6] (fun v at_ wr => ∃ (q : Nat) (acc : List UInt8), at_ = .int .i64 (q : Int) ∧ qdI (bl s) q acc ∧ Row8 wr w.heap.size v acc ∧ Below w.heap.size w wr) (fun _ at_ _ => s.size - (intOf at_).toNat)
  case atStart => exact ⟨1, [], rfl, HI.out, World.ownsRow_nil _ _ _ _, Below.refl _ _⟩
  case round =>
    clear HI
    obtain ⟨q, acc, rfl, hq, hrow, hB⟩ := hrel
    have hq1 := hq.1
    have hqs := hq.2.1
    have hql := hq.2.2.1
    rw [bl_len] at hqs
    have HQ := hide hq
    have HROW := hide hrow
    have HB := hide hB
    have hBw := hB.size
    clear hrow hB hq
    by_cases hlt : q < s.size
    · have hltI : (q : Int) < (s.size : Int) := by omega
      have hne := bl_drop_ne hlt
      have hby : by' ((bl s).drop q) 0 = (s[q]'hlt).toNat := by rw [by'_drop, Nat.add_zero]; exact by'_get s q hlt
      have hb256 : (s[q]'hlt).toNat < 256 := UInt8.toNat_lt _
      by_cases h34 : (s[q]'hlt).toNat = 34
      · have hV := qdI_close HQ.out (Qt_close ⟨List.length_pos_iff.2 hne, by rw [hby]; exact h34⟩)
        rw [HR.out] at hV
        subst hV
        have h34I : (((s[q]'hlt).toNat : Int) != 34) = false := by rw [h34]; rfl
        have hcv := run_string_own8 wr w.heap.size u5 acc HROW.out
        clear h34 hby hne
        go_wp2_with (fail)
        go_ret3
        exact ⟨rfl, HB.out⟩
      · have h34I : (((s[q]'hlt).toNat : Int) != 34) = true := by rw [bne_iff_ne]; omega
        have c34 := not34 (l := (bl s).drop q) (by rw [hby]; exact h34)
        have hsz : (s.extract q s.size).size ≤ 17592186044416 := by rw [ByteArray.size_extract]; omega
        by_cases h92 : (s[q]'hlt).toNat = 92
        · have h92I : (((s[q]'hlt).toNat : Int) == 92) = true := by rw [h92]; rfl
          have c92 : (firstV ((bl s).drop q)).1 = 92 := (rune92 hne).2 (by rw [hby]; exact h92)
          have ke := fun W => rescape_any (s.extract q s.size) W hsz
          rw [bl_from] at ke
          by_cases hn : (escL ((bl s).drop q)).2 = 0
          · have hV := qdI_fault HQ.out (Qt_none c34 c92 hn)
            rw [HR.out] at hV
            subst hV
            rw [hn] at ke
            have KE := hide ke
            clear h34 h92 hby hne c34 c92 hn ke
            go_wp2_with (go_at_call 59; refine (KE.out _).mono ?_; rintro e x ⟨rfl, hbx⟩; have HBX := hide (bseq HB.out hbx); clear hbx)
            go_ret3
            exact ⟨rfl, HBX.out⟩
          · have hV := qdI_esc HQ.out (Qt_esc c34 c92 hn)
            have hsm := escL_small ((bl s).drop q)
            rw [List.length_drop, bl_len] at hsm
            obtain ⟨B, n, hE⟩ : ∃ B n, escL ((bl s).drop q) = (B, n) := ⟨_, _, rfl⟩
            rw [hE] at ke hV hsm hn
            simp only at ke hV hsm hn
            have hBs : (⟨B.toArray⟩ : ByteArray).size = B.length := by simp [ByteArray.size]
            have KE := hide ke
            have HV := hide hV
            have hnI : ((n : Int) == 0) = false := by simp [hn]
            have hqn : (q : Int) + (n : Int) ≤ (s.size : Int) := by omega
            clear h34 h92 hby hne c34 c92 ke hV hE
            generalize hT : (⟨B.toArray⟩ : ByteArray) = T at *
            have hTl : T.data.toList = B := by rw [← hT]
            clear hT
            go_wp2_with (first | (go_at_call 59; refine (KE.out _).mono ?_; rintro e x ⟨rfl, hbx⟩; have HRX := hide (HROW.out.below hbx); have HBX := hide (bseq HB.out hbx); have hwx := hbx.size; clear hbx) | (at_builtin; refine Lib.wpList_append_own_string _ rfl _ _ 25 9 rfl w.heap.size 5 i0 Tryz.underlying25 Tryz.underlying9 hi hz0 hz1 hz2 _ acc.length (Lib.byteCells acc) rfl HRX.out T rfl (by simp only [maxLen]; omega) (by omega) (by omega) ?_; intro v' w4 hown' hgrow' _))
            have hb4 : Below w.heap.size w w4 := HBX.out.grown hgrow' HBX.out.size (fun j e => (HRX.out.lt j e).1)
            have hrow4 : Row8 w4 w.heap.size v' (acc ++ B) := Row8.more hTl hown'
            go_roundw
            case rel => exact ⟨q + n, acc ++ B, by go_num, HV.out, hrow4, hb4⟩
            case measure => simp [intOf]; omega
        · have h92I : (((s[q]'hlt).toNat : Int) == 92) = false := beq_eq_false_iff_ne.2 (by omega)
          have c92 : (firstV ((bl s).drop q)).1 ≠ 92 := fun c => h92 (by rw [← hby]; exact (rune92 hne).1 c)
          have hxp : 0 < (s.extract q s.size).size := by rw [ByteArray.size_extract]; omega
          have kc := fun W => rchar_any (s.extract q s.size) W hxp (by omega)
          rw [bl_from] at kc
          have hfe := first_eq hne
          by_cases hp : (firstV ((bl s).drop q)).2.2 = true ∧ plainK (firstV ((bl s).drop q)).1 = true
          · have hV := qdI_char HQ.out (by rw [bl_len]; exact hlt) (Qt_char c34 c92 hp)
            have hcl := cw_len _ hne
            have hcp := cw_pos ((bl s).drop q)
            rw [List.length_drop, bl_len] at hcl
            have hx : (s.extract q (q + cw ((bl s).drop q))).data.toList = ((bl s).drop q).take (cw ((bl s).drop q)) := by
              have := bl_extract s q (q + cw ((bl s).drop q))
              rw [Nat.add_sub_cancel_left] at this
              exact this
            rw [hfe] at hp
            simp only at hp
            rw [hp.1] at kc
            have kp := fun W => rplain_any (rune ((bl s).drop q) : Int) W
            rw [hp.2] at kp
            have KC := hide kc
            have KP := hide kp
            have HX := hide hx
            have HV := hide hV
            generalize cw ((bl s).drop q) = m at *
            generalize rune ((bl s).drop q) = r at *
            generalize ((bl s).drop q).take m = B at *
            have hmI : (q : Int) + (m : Int) ≤ (s.size : Int) := by omega
            have hm1I : 1 ≤ (m : Int) := by omega
            have hEs : (s.extract q (q + m)).size = m := by rw [ByteArray.size_extract]; omega
            clear h34 h92 hby hne c34 c92 kc kp hx hV hfe hp hxp
            go_wp2_with (first | (go_at_call 45; refine (KC.out _).mono ?_; rintro e x ⟨rfl, hbx⟩; have HRX := hide (HROW.out.below hbx); have HBX := hide (bseq HB.out hbx); have hwx := hbx.size; clear hbx) | (go_at_call 47; refine (KP.out _).mono ?_; rintro e x2 ⟨rfl, rfl⟩) | (at_builtin; refine Lib.wpList_append_own_string _ rfl _ _ 25 9 rfl w.heap.size 5 i0 Tryz.underlying25 Tryz.underlying9 hi hz0 hz1 hz2 _ acc.length (Lib.byteCells acc) rfl HRX.out (s.extract q (q + m)) rfl (by simp only [maxLen]; omega) (by omega) (by omega) ?_; intro v' w4 hown' hgrow' _))
            have hb4 : Below w.heap.size w w4 := HBX.out.grown hgrow' HBX.out.size (fun j e => (HRX.out.lt j e).1)
            have hrow4 : Row8 w4 w.heap.size v' (acc ++ B) := Row8.more HX.out hown'
            go_roundw
            case rel => exact ⟨q + m, acc ++ B, by go_num, HV.out, hrow4, hb4⟩
            case measure => simp [intOf]; omega
          · have hV := qdI_fault HQ.out (Qt_fault c34 c92 hp)
            rw [HR.out] at hV
            subst hV
            rw [hfe] at hp
            simp only at hp
            have kp := fun W => rplain_any (rune ((bl s).drop q) : Int) W
            generalize hg1 : decide (W ((bl s).drop q) ≠ 0) = g1 at *
            generalize hg2 : plainK (rune ((bl s).drop q) : Int) = g2 at *
            generalize cw ((bl s).drop q) = m at *
            generalize rune ((bl s).drop q) = r at *
            have KC := hide kc
            have KP := hide kp
            clear h34 h92 hby hne c34 c92 kc kp hfe hxp hg1 hg2
            cases g1 with
            | false =>
              go_wp2_with (first | (go_at_call 45; refine (KC.out _).mono ?_; rintro e x ⟨rfl, hbx⟩; have HBX := hide (bseq HB.out hbx); clear hbx) | (go_at_call 47; refine (KP.out _).mono ?_; rintro e x2 ⟨rfl, rfl⟩))
              go_ret3
              exact ⟨rfl, HBX.out⟩
            | true =>
              cases g2 with
              | true => exact absurd ⟨rfl, rfl⟩ hp
              | false =>
                go_wp2_with (first | (go_at_call 45; refine (KC.out _).mono ?_; rintro e x ⟨rfl, hbx⟩; have HBX := hide (bseq HB.out hbx); clear hbx) | (go_at_call 47; refine (KP.out _).mono ?_; rintro e x2 ⟨rfl, rfl⟩))
                go_ret3
                exact ⟨rfl, HBX.out⟩
    · have hge : (s.size : Int) ≤ (q : Int) := by omega
      have hqe : q = s.size := by omega
      have hV := qdI_fault HQ.out (by rw [List.drop_eq_nil_of_le (by rw [bl_len]; omega)]; rfl)
      rw [HR.out] at hV
      subst hV
      have HQE := hide hqe
      clear hqe
      go_wp2_with (fail)
      go_ret3
      exact ⟨by rw [HQE.out]; rfl, HB.out⟩
end Go.Proofs.YtaljllbfedfpoaaGreatDoor
namespace Go.Proofs.YtaljllbfedfpoaaGreatDoor
open Go.RowKit Go.Shelf
set_option linter.unusedVariables false

set_option maxHeartbeats 1000000 in
theorem rrun_any (c : Nat) (w : World) (hc : c < 256) : Calls Tryz.prog 35 #[.int .u8 (c : Int)] w fun e w' => e = .returned (.bool (runC c)) ∧ w' = w := by
  obtain ⟨R, hR⟩ : ∃ R, runC c = R := ⟨_, rfl⟩
  rw [hR]
  have HR := hide hR
  clear hR
  go_enter Tryz.func35, Tryz.ntmps35
  go_wp2
  all_goals go_ret
  all_goals refine ⟨?_, rfl⟩
  all_goals rw [← HR.out]
  all_goals refine congrArg (fun b => Ending.returned (Value.bool b)) ?_
  all_goals (rw [Bool.eq_iff_iff]; simp only [runC, Bool.or_eq_true, Bool.and_eq_true, decide_eq_true_eq, beq_iff_eq, true_iff]; omega)
theorem rn_drop {l : List UInt8} {k acc : Nat} (hk : k < l.length) : rn acc (l.drop k) = if 48 ≤ by' l k ∧ by' l k ≤ 57 then (if acc ≤ (9223372036854775807 - (by' l k - 48)) / 10 then rn (10 * acc + (by' l k - 48)) (l.drop (k + 1)) else none) else none := by
  rw [List.drop_eq_getElem_cons hk]
  have e : by' l k = (l[k]).toNat := by unfold by'; rw [List.getElem?_eq_getElem hk]; rfl
  rw [e]
  rfl
theorem num_none {l : List UInt8} (h : rn 0 l = none) : numK l = none := by
  cases hn : numK l with
  | none => rfl
  | some v =>
    obtain ⟨n, rfl⟩ := numK_nonneg hn
    have := ((numK_iff l n).1 hn).2
    rw [h] at this
    cases this
theorem num_can {l : List UInt8} {n : Nat} (h : rn 0 l = some n) (hc : can l) : numK l = some (n : Int) := (numK_iff l n).2 ⟨hc, h⟩
theorem num_not {l : List UInt8} (hc : ¬ can l) : numK l = none := by
  cases hn : numK l with
  | none => rfl
  | some v =>
    obtain ⟨n, rfl⟩ := numK_nonneg hn
    exact absurd ((numK_iff l n).1 hn).1 hc
set_option maxRecDepth 100000 in
set_option maxHeartbeats 4000000 in
theorem rnumber_any (s : ByteArray) (w : World) (hs : s.size ≤ 140737488355328) :
    Calls Tryz.prog 36 #[.string s] w fun e w' => ∃ n', e = .returned (.tuple #[.int .i64 n', .bool (numK (bl s)).isSome]) ∧ (∀ v, numK (bl s) = some v → n' = v) ∧ Below w.heap.size w w' := by
  have hsI : (s.size : Int) ≤ 140737488355328 := by omega
  go_enter Tryz.func36, Tryz.ntmps36
  go_wp2
  go_loopw [4, 5] (fun n i wr => ∃ k acc : Nat, i = .int .i64 (k : Int) ∧ n = .int .i64 (acc : Int) ∧ k ≤ s.size ∧ acc ≤ 9223372036854775807 ∧ rn 0 (bl s) = rn acc ((bl s).drop k) ∧ wr = w) (fun _ i _ => s.size - (intOf i).toNat)
  case atStart => exact ⟨0, 0, rfl, rfl, Nat.zero_le _, Nat.zero_le _, rfl, rfl⟩
  case round =>
    obtain ⟨k, acc, rfl, rfl, hk, ha, hrn, hwr⟩ := hrel
    subst hwr
    by_cases hlt : k < s.size
    · have hltI : (k : Int) < (s.size : Int) := by omega
      rw [rn_drop (by rw [bl_len]; exact hlt)] at hrn
      have hby : by' (bl s) k = (s[k]'hlt).toNat := by'_get s k hlt
      have hb256 := by'_lt (bl s) k
      rw [hby] at hrn hb256
      have HRN := hide hrn
      clear hrn hby
      generalize hbb : (s[k]'hlt).toNat = b at *
      by_cases h48 : 48 ≤ b
      · have h48I : (48 : Int) ≤ (b : Int) := by omega
        by_cases h57 : b ≤ 57
        · have h57I : (b : Int) ≤ 57 := by omega
          have hr := HRN.out
          rw [if_pos ⟨h48, h57⟩] at hr
          obtain ⟨T, hT⟩ : ∃ T, (9223372036854775807 - (b - 48)) / 10 = T := ⟨_, rfl⟩
          rw [hT] at hr
          have hTI : ((9223372036854775807 : Int) - ((b : Int) - 48)) / 10 = (T : Int) := by omega
          by_cases hle : acc ≤ T
          · rw [if_pos hle] at hr
            have hleI : (acc : Int) ≤ (T : Int) := by omega
            have hbd : 10 * (acc : Int) + ((b : Int) - 48) ≤ 9223372036854775807 := by omega
            have haI : (acc : Int) ≤ 922337203685477580 := by omega
            have HR := hide hr
            clear hr HRN hT
            go_wp2
            go_roundw
            case rel => exact ⟨k + 1, 10 * acc + (b - 48), by go_num, int_congr (by omega), by omega, by omega, HR.out, by trivial⟩
            case measure => simp [intOf]; omega
          · rw [if_neg hle] at hr
            have hleI : (T : Int) < (acc : Int) := by omega
            have hK := num_none hr
            have HK := hide hK
            clear hr HRN hT hle hK
            go_wp2
            go_ret2
            exact ⟨0, by rw [HK.out]; rfl, fun v h => (by rw [HK.out] at h; cases h), Below.refl _ _⟩
        · have h57I : (57 : Int) < (b : Int) := by omega
          have hr := HRN.out
          rw [if_neg (fun h => h57 h.2)] at hr
          have hK := num_none hr
          have HK := hide hK
          clear hr HRN h57 hK
          go_wp2
          go_ret2
          exact ⟨0, by rw [HK.out]; rfl, fun v h => (by rw [HK.out] at h; cases h), Below.refl _ _⟩
      · have h48I : (b : Int) < 48 := by omega
        have hr := HRN.out
        rw [if_neg (fun h => h48 h.1)] at hr
        have hK := num_none hr
        have HK := hide hK
        clear hr HRN h48 hK
        go_wp2
        go_ret2
        exact ⟨0, by rw [HK.out]; rfl, fun v h => (by rw [HK.out] at h; cases h), Below.refl _ _⟩
    · have hge : (s.size : Int) ≤ (k : Int) := by omega
      rw [List.drop_eq_nil_of_le (by rw [bl_len]; omega)] at hrn
      have hr : rn 0 (bl s) = some acc := hrn
      by_cases h1 : s.size = 1
      · have h1I : ((s.size : Int) == 1) = true := by rw [h1]; rfl
        have hK := num_can hr (.inl (by rw [bl_len]; exact h1))
        have HK := hide hK
        clear hr hrn hK h1
        go_wp2_with (fail)
        go_quiet (fail)
        go_wp2_with (fail)
        go_ret2
        exact ⟨acc, by rw [HK.out]; rfl, fun v h => (by rw [HK.out] at h; exact Option.some.inj h), below_drewN (Below.refl _ _) _⟩
      · have h1I : ((s.size : Int) == 1) = false := beq_eq_false_iff_ne.2 (by omega)
        by_cases h2 : 1 < s.size
        · have h2I : (1 : Int) < (s.size : Int) := by omega
          have h0 : 0 < s.size := by omega
          have hb0 : by' (bl s) 0 = (s[0]'h0).toNat := by'_get s 0 h0
          by_cases h3 : (s[0]'h0).toNat = 48
          · have h3I : (((s[0]'h0).toNat : Int) != 48) = false := by rw [h3]; rfl
            have hK := num_not (l := bl s) (fun hc => hc.elim (fun h => h1 (by rw [← bl_len]; exact h)) (fun h => h.2 (by rw [hb0]; exact h3)))
            have HK := hide hK
            clear hr hrn hK h1 hb0 h3
            go_wp2_with (fail)
            go_quiet (fail)
            go_wp2_with (fail)
            go_ret2
            exact ⟨acc, by rw [HK.out]; rfl, fun v h => (by rw [HK.out] at h; cases h), below_drewN (Below.refl _ _) _⟩
          · have h3I : (((s[0]'h0).toNat : Int) != 48) = true := by rw [bne_iff_ne]; omega
            have hK := num_can hr (.inr ⟨by rw [bl_len]; exact h2, by rw [hb0]; exact h3⟩)
            have HK := hide hK
            clear hr hrn hK h1 hb0 h3
            go_wp2_with (fail)
            go_quiet (fail)
            go_wp2_with (fail)
            go_ret2
            exact ⟨acc, by rw [HK.out]; rfl, fun v h => (by rw [HK.out] at h; exact Option.some.inj h), below_drewN (Below.refl _ _) _⟩
        · have h2I : (s.size : Int) ≤ 1 := by omega
          have hd2 : decide ((1 : Int) < (s.size : Int)) = false := decide_eq_false (by omega)
          have hK := num_not (l := bl s) (fun hc => hc.elim (fun h => h1 (by rw [← bl_len]; exact h)) (fun h => h2 (by rw [← bl_len]; exact h.1)))
          have HK := hide hK
          clear hr hrn hK h1
          go_wp2_with (fail)
          go_quiet (fail)
          go_wp2_with (fail)
          go_ret2
          exact ⟨acc, by rw [HK.out]; rfl, fun v h => (by rw [HK.out] at h; cases h), below_drewN (Below.refl _ _) _⟩
end Go.Proofs.YtaljllbfedfpoaaGreatDoor
namespace Go.Proofs.YtaljllbfedfpoaaGreatDoor
open Go.RowKit Go.Shelf
set_option linter.unusedVariables false

set_option maxHeartbeats 1000000 in
theorem rblankb_any (c : Nat) (w : World) : Calls Tryz.prog 33 #[.int .u8 (c : Int)] w fun e w' => e = .returned (.bool (blankC c)) ∧ w' = w := by
  obtain ⟨R, hR⟩ : ∃ R, blankC c = R := ⟨_, rfl⟩
  rw [hR]
  have HR := hide hR
  clear hR
  go_enter Tryz.func33, Tryz.ntmps33
  go_wp2
  all_goals go_ret
  all_goals refine ⟨?_, rfl⟩
  all_goals rw [← HR.out]
  all_goals refine congrArg (fun b => Ending.returned (Value.bool b)) ?_
  all_goals first | (subst_vars; rfl) | (rw [Bool.eq_iff_iff]; simp only [blankC, Bool.or_eq_true, beq_iff_eq, true_iff]; omega) | (simp [blankC, *])
/-- What the document's Scan answers. -/
def RSc (R : List Tk ⊕ (Int × Nat)) (w : World) (e : Ending) (w' : World) : Prop := match R with
  | .inl ts => ∃ v, e = .returned (.tuple #[v, .int .i64 0, .int .i64 0]) ∧ RowT w' w.heap.size v ts ∧ Below w.heap.size w w'
  | .inr (c, a) => e = .returned (.tuple #[.slice none 0 0, .int .i64 c, .int .i64 (a : Int)]) ∧ Below w.heap.size w w'
theorem qt_pos {l : List UInt8} (h : (Qt l).2.2 = true) : 0 < (Qt l).2.1 := by
  by_cases c34 : 0 < l.length ∧ by' l 0 = 34
  · rw [Qt_close c34]; exact Nat.one_pos
  by_cases c92 : (firstV l).1 = 92
  · by_cases hn : (escL l).2 = 0
    · rw [Qt_none c34 c92 hn] at h; cases h
    · rw [Qt_esc c34 c92 hn]; simp only; omega
  · by_cases hp : (firstV l).2.2 = true ∧ plainK (firstV l).1 = true
    · have := cw_pos l
      rw [Qt_char c34 c92 hp]; simp only; omega
    · rw [Qt_fault c34 c92 hp] at h; cases h
theorem qdV_drop (l : List UInt8) (p : Nat) : qdV (l.drop p) = (if (Qt (l.drop (p + 1))).2.2 = true then (Qt (l.drop (p + 1))).1 else [], 1 + (Qt (l.drop (p + 1))).2.1, (Qt (l.drop (p + 1))).2.2) := by unfold qdV; rw [List.drop_drop]
/-- A token's variable: what is stored into it. -/
theorem tokS {W : World} {B : Nat} {a b c d : Value} {t : TypeId} (h : W.heap[B]? = some (.cells #[a, b, c, d] t (0, 0))) (v : Value) :
    (W.setCell ⟨B, 0, none⟩ v).heap[B]? = some (.cells #[v, b, c, d] t (0, 0)) ∧ (W.setCell ⟨B, 2, none⟩ v).heap[B]? = some (.cells #[a, b, v, d] t (0, 0)) ∧ (W.setCell ⟨B, 3, none⟩ v).heap[B]? = some (.cells #[a, b, c, v] t (0, 0)) :=
  ⟨heap_setCell_same W B 0 _ _ v h, heap_setCell_same W B 2 _ _ v h, heap_setCell_same W B 3 _ _ v h⟩
theorem tokF {W : World} {B : Nat} {a b c d : Value} {t : TypeId} (h : W.heap[B]? = some (.cells #[a, b, c, d] t (0, 0))) :
    (W.cell? ⟨B, 0, none⟩ = some a ∧ W.cell? ⟨B, 1, none⟩ = some b ∧ W.cell? ⟨B, 2, none⟩ = some c ∧ W.cell? ⟨B, 3, none⟩ = some d) ∧ W.frozen? ⟨B, 0, none⟩ = false ∧ W.frozen? ⟨B, 2, none⟩ = false ∧ W.frozen? ⟨B, 3, none⟩ = false :=
  ⟨⟨celS h 0 _ rfl, celS h 1 _ rfl, celS h 2 _ rfl, celS h 3 _ rfl⟩, frzS h 0, frzS h 2, frzS h 3⟩
theorem skp_nil (is : Nat → Bool) {l : List UInt8} {j : Nat} (h : l.length ≤ j) : skp is (l.drop j) = 0 := by rw [List.drop_eq_nil_of_le h]; rfl
set_option maxRecDepth 100000 in
set_option maxHeartbeats 2500000 in
theorem rscan_any (s : ByteArray) (w : World) (hs : s.size ≤ 16384) :
    Calls Tryz.prog 13 #[.string s] w fun e w' => RSc (Sc (bl s) 0 []) w e w' := by
  obtain ⟨i0, hi, hz0, hz1, hz2⟩ := info_parts Tryz.infoTk
  generalize hRR : Sc (bl s) 0 [] = R
  have HRR := hide hRR
  have hsI : (s.size : Int) ≤ 16384 := by omega
  have KB := hide (fun (c : Nat) W => rblankb_any c W)
  clear hRR
  go_enter Tryz.func13, Tryz.ntmps13
  go_wp2_with (fail)
  go_loopw [5, 6] (fun v i wr => ∃ (q : Nat) (acc : List Tk), i = .int .i64 (q : Int) ∧ q ≤ s.size ∧ acc.length ≤ q ∧ R = Sc (bl s) q acc ∧ RowT wr w.heap.size v acc ∧ Below w.heap.size w wr) (fun _ i _ => s.size - (intOf i).toNat)
  case atStart => exact ⟨0, [], rfl, Nat.zero_le _, Nat.le_refl _, HRR.out.symm, World.ownsRow_nil _ _ _ _, Below.refl _ _⟩
  case round =>
    clear HRR
    obtain ⟨q, acc, rfl, hqs, hal, hR, hrow, hB⟩ := hrel
    obtain ⟨X, hXw⟩ : ∃ X, X = wr := ⟨_, rfl⟩
    subst hXw
    have hsl := skp_le blankC ((bl s).drop q)
    rw [List.length_drop, bl_len] at hsl
    obtain ⟨p, hP⟩ : ∃ p, q + skp blankC ((bl s).drop q) = p := ⟨_, rfl⟩
    rw [Sc_eq acc (by rw [bl_len]; exact hqs) hP] at hR
    have HSQ := hide hR
    have HROW := hide hrow
    have HB := hide hB
    have hBw := hB.size
    have HP := hide hP
    clear hrow hB hR hP
    go_wp2_with (fail)
    go_loopw [6] (fun i wq => ∃ j : Nat, i = .int .i64 (j : Int) ∧ q ≤ j ∧ j ≤ s.size ∧ j + skp blankC ((bl s).drop j) = p ∧ wq = X) (fun i _ => s.size - (intOf i).toNat)
    case atStart => exact ⟨q, rfl, Nat.le_refl _, hqs, HP.out, rfl⟩
    case round =>
      clear HP
      obtain ⟨j, rfl, hqj, hjs, hj, hw⟩ := hrel
      obtain rfl := hw.symm
      by_cases hlt : j < s.size
      · have hltI : (j : Int) < (s.size : Int) := by omega
        have hby : by' (bl s) j = (s[j]'hlt).toNat := by'_get s j hlt
        have kb := fun W => rblankb_any (s[j]'hlt).toNat W
        cases hbk : blankC (s[j]'hlt).toNat with
        | true =>
          rw [hbk] at kb
          have KB1 := hide kb
          have hst := skp_step (is := blankC) (l := bl s) (p := j) (by rw [bl_len]; exact hlt) (by rw [hby]; exact hbk)
          have HST := hide hst
          clear kb hby hbk hst
          go_wp2_with (go_at_call 33; refine (KB1.out _).mono ?_; rintro e9 z9 ⟨rfl, hz9⟩; obtain rfl := hz9.symm)
          go_roundw
          case rel => exact ⟨j + 1, by go_num, by omega, by omega, by have := HST.out; omega, trivial⟩
          case measure => simp [intOf]; omega
        | false =>
          rw [hbk] at kb
          have KB1 := hide kb
          have hst := skp_stop (is := blankC) (l := bl s) (p := j) (by rw [bl_len]; exact hlt) (by rw [hby]; exact hbk)
          rw [hst, Nat.add_zero] at hj
          have hpj0 : p = j := hj.symm
          subst hpj0
          clear kb hbk hst hsl hj
          have hdge : decide ((s.size : Int) ≤ (p : Int)) = false := decide_eq_false (by omega)
          have hdgn : decide (s.size ≤ p) = false := decide_eq_false (by omega)
          go_upto_region 10 with (go_at_call 33; refine (KB1.out _).mono ?_; rintro e9 z9 ⟨rfl, hz9⟩; obtain rfl := hz9.symm)
          have hXX1 : Below X.heap.size X (X.alloc (.cells #[.int .i64 0, .int .i64 (p : Int), .string ⟨#[]⟩, .int .i64 0] 28)) := (Below.refl _ X).alloc (Nat.le_refl _) _
          have hX1B := heap_alloc_new X (.cells #[.int .i64 0, .int .i64 (p : Int), .string ⟨#[]⟩, .int .i64 0] 28)
          have hX1s : X.heap.size < (X.alloc (.cells #[.int .i64 0, .int .i64 (p : Int), .string ⟨#[]⟩, .int .i64 0] 28)).heap.size := (Array.getElem?_eq_some_iff.1 hX1B).1
          generalize (X.alloc (.cells #[.int .i64 0, .int .i64 (p : Int), .string ⟨#[]⟩, .int .i64 0] 28)) = X1 at *
          have HXX1 := hide hXX1
          have HX1B := hide hX1B
          clear hXX1 hX1B
          by_cases h34 : (s[p]'hlt).toNat = 34
          · have kq := fun W => rquoted_any (s.extract p s.size) W (by rw [ByteArray.size_extract]; omega) (by rw [ByteArray.size_extract]; omega)
            rw [bl_from, qdV_drop] at kq
            have hQl := Qt_le ((bl s).drop (p + 1))
            have hQp := @qt_pos ((bl s).drop (p + 1))
            rw [List.length_drop, bl_len] at hQl
            have hR1 := HSQ.out
            rw [if_neg (by rw [bl_len]; omega), if_pos (by rw [hby]; exact h34)] at hR1
            obtain ⟨T, E, ok, hQ⟩ : ∃ T E ok, Qt ((bl s).drop (p + 1)) = (T, E, ok) := ⟨_, _, _, rfl⟩
            rw [hQ] at kq hQl hQp hR1
            simp only at kq hQl hQp hR1
            obtain ⟨m, hm⟩ : ∃ m, p + 1 + E = m := ⟨_, rfl⟩
            obtain ⟨n, hn⟩ : ∃ n, 1 + E = n := ⟨_, rfl⟩
            rw [hm] at hR1
            rw [hn] at kq
            have hadd : (p : Int) + (n : Int) = (m : Int) := by omega
            have h34I : (((s[p]'hlt).toNat : Int) == 34) = true := by rw [h34]; rfl
            have hmsI : (m : Int) ≤ 16384 := by omega
            cases ok with
            | false =>
              simp only [Bool.false_eq_true, if_false] at kq hR1
              have KQ := hide kq
              subst hR1
              clear kq hQ h34 hby HSQ hQp
              go_wp2_with (go_at_call 34; refine (KQ.out _).mono ?_; rintro e x ⟨rfl, hbx⟩; have hXx := bseq HXX1.out hbx; have HXX := hide hXx; have HXB := hide ((hbx.block _ (Array.getElem?_eq_some_iff.1 HX1B.out).1).trans HX1B.out); clear hbx hXx)
              go_ret3
              exact ⟨rfl, bseq HB.out HXX.out⟩
            | true =>
              simp only [if_true] at kq hR1
              have hE := hQp rfl
              have hms : m ≤ s.size := by omega
              have hpm : p < m := by omega
              have KQ := hide kq
              have HSC := hide hR1
              generalize hTT : (⟨T.toArray⟩ : ByteArray) = TT at *
              have HTT := hide hTT
              clear kq hQ h34 hby HSQ hQp hR1 hTT hm hn hE hQl
              go_upto_region 14 with (go_at_call 34; refine (KQ.out _).mono ?_; rintro e x ⟨rfl, hbx⟩; have hXx := bseq HXX1.out hbx; have HXX := hide hXx; have HXB := hide ((hbx.block _ (Array.getElem?_eq_some_iff.1 HX1B.out).1).trans HX1B.out); clear hbx hXx)
              obtain ⟨⟨a0, a1, a2, a3⟩, a4, a5, a6⟩ := tokF HXB.out
              have hW0 := (tokS HXB.out (.int .i64 3)).1
              obtain ⟨⟨b0, b1, b2, b3⟩, b4, b5, b6⟩ := tokF hW0
              have hW1 := (tokS hW0 (.string TT)).2.1
              have hXY : Below X.heap.size X ((x.setCell ⟨X.heap.size, 0, none⟩ (.int .i64 3)).setCell ⟨X.heap.size, 2, none⟩ (.string TT)) := ((HXX.out).setCell (p := ⟨X.heap.size, 0, none⟩) (Nat.le_refl _) (.int .i64 3)).setCell (p := ⟨X.heap.size, 2, none⟩) (Nat.le_refl _) (.string TT)
              have HWL := hide hW1
              have HXY := hide hXY
              clear hXY hW0 hW1
              go_upto_region 16 with (fail)
              have hry := HROW.out.below HXY.out
              have hby2 := bseq HB.out HXY.out
              have hXYs := HXY.out.size
              have hyl : X.heap.size < ((x.setCell ⟨X.heap.size, 0, none⟩ (.int .i64 3)).setCell ⟨X.heap.size, 2, none⟩ (.string TT)).heap.size := (Array.getElem?_eq_some_iff.1 HWL.out).1
              obtain ⟨⟨c0, c1, c2, c3⟩, c4, c5, c6⟩ := tokF HWL.out
              clear a0 a1 a2 a3 a4 a5 a6 b0 b1 b2 b3 b4 b5 b6 HWL HXY HXX HXB
              generalize ((x.setCell ⟨X.heap.size, 0, none⟩ (.int .i64 3)).setCell ⟨X.heap.size, 2, none⟩ (.string TT)) = Y at *
              have HRY := hide hry
              have HBY := hide hby2
              clear hry hby2 HROW HB
              by_cases hend : m = s.size
              · have hd1 : decide ((m : Int) < (s.size : Int)) = false := decide_eq_false (by omega)
                have hd2 : decide (m < s.size) = false := decide_eq_false (by omega)
                have hR2 := HSC.out
                rw [if_pos (Or.inl (by rw [bl_len]; exact hend))] at hR2
                have HR2 := hide hR2
                clear hR2 hend
                go_wp2_with (at_builtin; refine wpList_append_own_at _ rfl _ _ 29 rfl w.heap.size 28 i0 (.agg #[.int .i64 0, .int .i64 0, .string ⟨#[]⟩, .int .i64 0]) 4 40 Tryz.underlying29 hi hz0 hz1 hz2 rfl (by decide) u5 acc.length (acc.flatMap tkC) rfl (HRY.out.alloc _) ⟨Y.heap.size, 0, none⟩ 1 1 [.int .i64 3, .int .i64 (p : Int), .string TT, .int .i64 0] rfl rfl (cell4_new _ _ _ _ _ _) (by simp [Value.oneCell']) (by unfold maxLen; omega) (by omega) (by simp; omega) ?_; intro v5 w5 hown5 hgrow5 _ _)
                go_roundw
                case rel =>
                  refine ⟨m, acc ++ [(3, p, T, 0)], by go_num, hms, by rw [List.length_append, List.length_singleton]; omega, HR2.out, ?_, ?_⟩
                  · unfold RowT
                    rw [List.flatMap_append, List.length_append, List.length_singleton]
                    rw [← HTT.out] at hown5; exact hown5
                  · exact (HBY.out.alloc HBY.out.size _).grown hgrow5 (by simp; omega) (fun k e => (HRY.out.lt k e).1)
                case measure => simp [intOf]; omega
              · have hlt2 : m < s.size := by omega
                have hlt2I : (m : Int) < (s.size : Int) := by omega
                have hbl : by' (bl s) m = (s[m]'hlt2).toNat := by'_get s m hlt2
                have kb := fun W => rblankb_any (s[m]'hlt2).toNat W
                cases hbk : blankC (s[m]'hlt2).toNat with
                | true =>
                  rw [hbk] at kb
                  have KB2 := hide kb
                  have hR2 := HSC.out
                  rw [if_pos (Or.inr (by rw [hbl]; exact hbk))] at hR2
                  have HR2 := hide hR2
                  clear hR2 hbl kb hbk hend
                  go_wp2_with (first | (go_at_call 33; refine (KB2.out _).mono ?_; rintro e9 z9 ⟨rfl, hz9⟩; obtain rfl := hz9.symm) | (at_builtin; refine wpList_append_own_at _ rfl _ _ 29 rfl w.heap.size 28 i0 (.agg #[.int .i64 0, .int .i64 0, .string ⟨#[]⟩, .int .i64 0]) 4 40 Tryz.underlying29 hi hz0 hz1 hz2 rfl (by decide) u5 acc.length (acc.flatMap tkC) rfl (HRY.out.alloc _) ⟨Y.heap.size, 0, none⟩ 1 1 [.int .i64 3, .int .i64 (p : Int), .string TT, .int .i64 0] rfl rfl (cell4_new _ _ _ _ _ _) (by simp [Value.oneCell']) (by unfold maxLen; omega) (by omega) (by simp; omega) ?_; intro v5 w5 hown5 hgrow5 _ _))
                  go_roundw
                  case rel =>
                    refine ⟨m, acc ++ [(3, p, T, 0)], by go_num, hms, by rw [List.length_append, List.length_singleton]; omega, HR2.out, ?_, ?_⟩
                    · unfold RowT
                      rw [List.flatMap_append, List.length_append, List.length_singleton]
                      rw [← HTT.out] at hown5; exact hown5
                    · exact (HBY.out.alloc HBY.out.size _).grown hgrow5 (by simp; omega) (fun k e => (HRY.out.lt k e).1)
                  case measure => simp [intOf]; omega
                | false =>
                  rw [hbk] at kb
                  have KB2 := hide kb
                  have hR2 := HSC.out
                  rw [if_neg (by rw [bl_len, hbl, hbk]; rintro (c | c); exact hend c; cases c)] at hR2
                  subst hR2
                  clear hbl kb hbk hend
                  go_wp2_with (go_at_call 33; refine (KB2.out _).mono ?_; rintro e9 z9 ⟨rfl, hz9⟩; obtain rfl := hz9.symm)
                  go_ret3
                  exact ⟨rfl, HBY.out⟩

          · have h34I : (((s[p]'hlt).toNat : Int) == 34) = false := beq_eq_false_iff_ne.2 (by omega)
            have hR1 := HSQ.out
            rw [if_neg (by rw [bl_len]; omega), if_neg (by rw [hby]; exact h34)] at hR1
            have hrl := skp_le runC ((bl s).drop p)
            rw [List.length_drop, bl_len] at hrl
            obtain ⟨r, hr⟩ : ∃ r, skp runC ((bl s).drop p) = r := ⟨_, rfl⟩
            rw [hr] at hrl hR1
            have HR1 := hide hR1
            have HRN := hide hr
            clear hR1 hr h34 hby HSQ
            go_wp2_with (fail)
            go_loopw [11] (fun k wq => ∃ j : Nat, k = .int .i64 (j : Int) ∧ p ≤ j ∧ j ≤ s.size ∧ (j - p) + skp runC ((bl s).drop j) = r ∧ wq = X1) (fun k _ => s.size - (intOf k).toNat)
            case atStart => exact ⟨p, rfl, Nat.le_refl _, by omega, by rw [HRN.out]; omega, rfl⟩
            case round =>
              obtain ⟨m, rfl, hpj, hjs, hj, hw⟩ := hrel
              obtain rfl := hw.symm
              by_cases hltm : m < s.size
              · have hltmI : (m : Int) < (s.size : Int) := by omega
                have hbym : by' (bl s) m = (s[m]'hltm).toNat := by'_get s m hltm
                have krn := fun W => rrun_any (s[m]'hltm).toNat W (UInt8.toNat_lt _)
                cases hrb : runC (s[m]'hltm).toNat with
                | true =>
                  rw [hrb] at krn
                  have KRN := hide krn
                  have hst := skp_step (is := runC) (l := bl s) (p := m) (by rw [bl_len]; exact hltm) (by rw [hbym]; exact hrb)
                  have HST := hide hst
                  clear krn hbym hrb hst
                  go_wp2_with (go_at_call 35; refine (KRN.out _).mono ?_; rintro e9 z9 ⟨rfl, hz9⟩; obtain rfl := hz9.symm)
                  go_roundw
                  case rel => exact ⟨m + 1, by go_num, by omega, by omega, by have := HST.out; omega, trivial⟩
                  case measure => simp [intOf]; omega
                | false =>
                  rw [hrb] at krn
                  have KRN := hide krn
                  have hst := skp_stop (is := runC) (l := bl s) (p := m) (by rw [bl_len]; exact hltm) (by rw [hbym]; exact hrb)
                  rw [hst] at hj
                  clear krn hbym hrb hst

                  obtain rfl : m = p + r := by omega
                  by_cases hr0 : r = 0
                  · have hR2 := HR1.out
                    rw [if_neg (by omega)] at hR2
                    subst hR2
                    have hke : (((p + r : Nat) : Int) == (p : Int)) = true := by rw [hr0]; simp
                    have hkf : ((p : Int) + (r : Int) == (p : Int)) = true := by rw [hr0]; simp
                    clear hr0
                    go_wp2_with (go_at_call 35; refine (KRN.out _).mono ?_; rintro e9 z9 ⟨rfl, hz9⟩; obtain rfl := hz9.symm)
                    go_ret3
                    exact ⟨rfl, bseq HB.out HXX1.out⟩
                  · have hR2 := HR1.out
                    rw [if_pos (by omega)] at hR2
                    have hke : (((p + r : Nat) : Int) == (p : Int)) = false := beq_eq_false_iff_ne.2 (by omega)
                    have hkn := fun W => rnumber_any (s.extract p (p + r)) W (by rw [ByteArray.size_extract]; omega)
                    have hbx : bl (s.extract p (p + r)) = ((bl s).drop p).take r := by rw [bl_extract, Nat.add_sub_cancel_left]
                    have htx : s.extract p (p + r) = ⟨(((bl s).drop p).take r).toArray⟩ := by rw [← hbx]; exact (bl_back _).symm
                    rw [hbx] at hkn
                    have hpm : p < p + r := by omega
                    have hms : p + r ≤ s.size := by omega
                    have hpmI : (p : Int) ≤ ((p + r : Nat) : Int) := by omega
                    have hmsI : ((p + r : Nat) : Int) ≤ (s.size : Int) := by omega
                    unfold saidT at hR2
                    cases hN : numK (((bl s).drop p).take r) with
                    | none =>
                      rw [hN] at hkn hR2
                      simp only [Option.isSome_none] at hkn hR2
                      generalize hTX : s.extract p (p + r) = TX at *
                      generalize hm : p + r = m at *
                      have KN := hide hkn
                      have HSC := hide hR2
                      have HTX := hide htx
                      clear hkn hR2 htx hbx hN hr0 HR1
                      go_upto_region 23 with (first | (go_at_call 35; refine (KRN.out _).mono ?_; rintro e9 z9 ⟨rfl, hz9⟩; obtain rfl := hz9.symm) | (go_at_call 36; refine (KN.out _).mono ?_; rintro e x ⟨n9, rfl, hn9, hbx⟩; have hXx := bseq HXX1.out hbx; have HXX := hide hXx; have HXB := hide ((hbx.block _ (Array.getElem?_eq_some_iff.1 HX1B.out).1).trans HX1B.out); clear hbx hXx))
                      obtain ⟨⟨a0, a1, a2, a3⟩, a4, a5, a6⟩ := tokF HXB.out
                      have hW0 := (tokS HXB.out (.int .i64 1)).1
                      obtain ⟨⟨b0, b1, b2, b3⟩, b4, b5, b6⟩ := tokF hW0
                      have hW1 := (tokS hW0 (.string TX)).2.1
                      have hXY : Below X.heap.size X ((x.setCell ⟨X.heap.size, 0, none⟩ (.int .i64 1)).setCell ⟨X.heap.size, 2, none⟩ (.string TX)) := ((HXX.out).setCell (p := ⟨X.heap.size, 0, none⟩) (Nat.le_refl _) (.int .i64 1)).setCell (p := ⟨X.heap.size, 2, none⟩) (Nat.le_refl _) (.string TX)
                      have HWL := hide hW1
                      have HXY := hide hXY
                      clear hXY hW0 hW1
                      go_upto_region 29 with (fail)
                      have hry := HROW.out.below HXY.out
                      have hby2 := bseq HB.out HXY.out
                      have hXYs := HXY.out.size
                      have hyl : X.heap.size < ((x.setCell ⟨X.heap.size, 0, none⟩ (.int .i64 1)).setCell ⟨X.heap.size, 2, none⟩ (.string TX)).heap.size := (Array.getElem?_eq_some_iff.1 HWL.out).1
                      obtain ⟨⟨c0, c1, c2, c3⟩, c4, c5, c6⟩ := tokF HWL.out
                      clear a0 a1 a2 a3 a4 a5 a6 b0 b1 b2 b3 b4 b5 b6 HWL HXY HXX HXB
                      generalize ((x.setCell ⟨X.heap.size, 0, none⟩ (.int .i64 1)).setCell ⟨X.heap.size, 2, none⟩ (.string TX)) = Y at *
                      have HRY := hide hry
                      have HBY := hide hby2
                      clear hry hby2 HROW HB
                      have hend : ¬ m = s.size := by omega
                      · have hlt2 : m < s.size := by omega
                        have hlt2I : (m : Int) < (s.size : Int) := by omega
                        have hbl : by' (bl s) m = (s[m]'hlt2).toNat := by'_get s m hlt2
                        have kb := fun W => rblankb_any (s[m]'hlt2).toNat W
                        cases hbk : blankC (s[m]'hlt2).toNat with
                        | true =>
                          rw [hbk] at kb
                          have KB2 := hide kb
                          have hR2 := HSC.out
                          rw [if_pos (Or.inr (by rw [hbl]; exact hbk))] at hR2
                          have HR2 := hide hR2
                          clear hR2 hbl kb hbk hend
                          go_wp2_with (first | (go_at_call 33; refine (KB2.out _).mono ?_; rintro e9 z9 ⟨rfl, hz9⟩; obtain rfl := hz9.symm) | (at_builtin; refine wpList_append_own_at _ rfl _ _ 29 rfl w.heap.size 28 i0 (.agg #[.int .i64 0, .int .i64 0, .string ⟨#[]⟩, .int .i64 0]) 4 40 Tryz.underlying29 hi hz0 hz1 hz2 rfl (by decide) u5 acc.length (acc.flatMap tkC) rfl (HRY.out.alloc _) ⟨Y.heap.size, 0, none⟩ 1 1 [.int .i64 1, .int .i64 (p : Int), .string TX, .int .i64 0] rfl rfl (cell4_new _ _ _ _ _ _) (by simp [Value.oneCell']) (by unfold maxLen; omega) (by omega) (by simp; omega) ?_; intro v5 w5 hown5 hgrow5 _ _))
                          go_roundw
                          case rel =>
                            refine ⟨m, acc ++ [(1, p, ((bl s).drop p).take r, 0)], by go_num, hms, by rw [List.length_append, List.length_singleton]; omega, HR2.out, ?_, ?_⟩
                            · unfold RowT
                              rw [List.flatMap_append, List.length_append, List.length_singleton]
                              rw [HTX.out] at hown5; exact hown5
                            · exact (HBY.out.alloc HBY.out.size _).grown hgrow5 (by simp; omega) (fun k e => (HRY.out.lt k e).1)
                          case measure => simp [intOf]; omega
                        | false =>
                          rw [hbk] at kb
                          have KB2 := hide kb
                          have hR2 := HSC.out
                          rw [if_neg (by rw [bl_len, hbl, hbk]; rintro (c | c); exact hend c; cases c)] at hR2
                          subst hR2
                          clear hbl kb hbk hend
                          go_wp2_with (go_at_call 33; refine (KB2.out _).mono ?_; rintro e9 z9 ⟨rfl, hz9⟩; obtain rfl := hz9.symm)
                          go_ret3
                          exact ⟨rfl, HBY.out⟩
                    | some nn =>
                      rw [hN] at hkn hR2
                      simp only [Option.isSome_some] at hkn hR2
                      generalize hTX : s.extract p (p + r) = TX at *
                      generalize hm : p + r = m at *
                      have KN := hide hkn
                      have HSC := hide hR2
                      clear hkn hR2 htx hbx hN hr0 HR1
                      go_upto_region 23 with (first | (go_at_call 35; refine (KRN.out _).mono ?_; rintro e9 z9 ⟨rfl, hz9⟩; obtain rfl := hz9.symm) | (go_at_call 36; refine (KN.out _).mono ?_; rintro e x ⟨n9, rfl, hn9, hbx⟩; obtain rfl := (hn9 _ rfl).symm; have hXx := bseq HXX1.out hbx; have HXX := hide hXx; have HXB := hide ((hbx.block _ (Array.getElem?_eq_some_iff.1 HX1B.out).1).trans HX1B.out); clear hbx hXx))
                      obtain ⟨⟨a0, a1, a2, a3⟩, a4, a5, a6⟩ := tokF HXB.out
                      have hW0 := (tokS HXB.out (.int .i64 1)).1
                      obtain ⟨⟨b0, b1, b2, b3⟩, b4, b5, b6⟩ := tokF hW0
                      have hW1 := (tokS hW0 (.string TX)).2.1
                      obtain ⟨⟨d0, d1, d2, d3⟩, d4, d5, d6⟩ := tokF hW1
                      have hW2 := (tokS hW1 (.int .i64 2)).1
                      obtain ⟨⟨f0, f1, f2, f3⟩, f4, f5, f6⟩ := tokF hW2
                      have hW3 := (tokS hW2 (.string ⟨#[]⟩)).2.1
                      obtain ⟨⟨g0, g1, g2, g3⟩, g4, g5, g6⟩ := tokF hW3
                      have hW4 := (tokS hW3 (.int .i64 nn)).2.2
                      have hXY : Below X.heap.size X (((((x.setCell ⟨X.heap.size, 0, none⟩ (.int .i64 1)).setCell ⟨X.heap.size, 2, none⟩ (.string TX)).setCell ⟨X.heap.size, 0, none⟩ (.int .i64 2)).setCell ⟨X.heap.size, 2, none⟩ (.string ⟨#[]⟩)).setCell ⟨X.heap.size, 3, none⟩ (.int .i64 nn)) := (((((HXX.out).setCell (p := ⟨X.heap.size, 0, none⟩) (Nat.le_refl _) (.int .i64 1)).setCell (p := ⟨X.heap.size, 2, none⟩) (Nat.le_refl _) (.string TX)).setCell (p := ⟨X.heap.size, 0, none⟩) (Nat.le_refl _) (.int .i64 2)).setCell (p := ⟨X.heap.size, 2, none⟩) (Nat.le_refl _) (.string ⟨#[]⟩)).setCell (p := ⟨X.heap.size, 3, none⟩) (Nat.le_refl _) (.int .i64 nn)
                      have HWL := hide hW4
                      have HXY := hide hXY
                      clear hXY hW0 hW1 hW2 hW3 hW4
                      go_upto_region 29 with (fail)
                      have hry := HROW.out.below HXY.out
                      have hby2 := bseq HB.out HXY.out
                      have hXYs := HXY.out.size
                      have hyl : X.heap.size < (((((x.setCell ⟨X.heap.size, 0, none⟩ (.int .i64 1)).setCell ⟨X.heap.size, 2, none⟩ (.string TX)).setCell ⟨X.heap.size, 0, none⟩ (.int .i64 2)).setCell ⟨X.heap.size, 2, none⟩ (.string ⟨#[]⟩)).setCell ⟨X.heap.size, 3, none⟩ (.int .i64 nn)).heap.size := (Array.getElem?_eq_some_iff.1 HWL.out).1
                      obtain ⟨⟨c0, c1, c2, c3⟩, c4, c5, c6⟩ := tokF HWL.out
                      clear a0 a1 a2 a3 a4 a5 a6 b0 b1 b2 b3 b4 b5 b6 d0 d1 d2 d3 d4 d5 d6 f0 f1 f2 f3 f4 f5 f6 g0 g1 g2 g3 g4 g5 g6 HWL HXY HXX HXB
                      generalize (((((x.setCell ⟨X.heap.size, 0, none⟩ (.int .i64 1)).setCell ⟨X.heap.size, 2, none⟩ (.string TX)).setCell ⟨X.heap.size, 0, none⟩ (.int .i64 2)).setCell ⟨X.heap.size, 2, none⟩ (.string ⟨#[]⟩)).setCell ⟨X.heap.size, 3, none⟩ (.int .i64 nn)) = Y at *
                      have HRY := hide hry
                      have HBY := hide hby2
                      clear hry hby2 HROW HB
                      have hend : ¬ m = s.size := by omega
                      · have hlt2 : m < s.size := by omega
                        have hlt2I : (m : Int) < (s.size : Int) := by omega
                        have hbl : by' (bl s) m = (s[m]'hlt2).toNat := by'_get s m hlt2
                        have kb := fun W => rblankb_any (s[m]'hlt2).toNat W
                        cases hbk : blankC (s[m]'hlt2).toNat with
                        | true =>
                          rw [hbk] at kb
                          have KB2 := hide kb
                          have hR2 := HSC.out
                          rw [if_pos (Or.inr (by rw [hbl]; exact hbk))] at hR2
                          have HR2 := hide hR2
                          clear hR2 hbl kb hbk hend
                          go_wp2_with (first | (go_at_call 33; refine (KB2.out _).mono ?_; rintro e9 z9 ⟨rfl, hz9⟩; obtain rfl := hz9.symm) | (at_builtin; refine wpList_append_own_at _ rfl _ _ 29 rfl w.heap.size 28 i0 (.agg #[.int .i64 0, .int .i64 0, .string ⟨#[]⟩, .int .i64 0]) 4 40 Tryz.underlying29 hi hz0 hz1 hz2 rfl (by decide) u5 acc.length (acc.flatMap tkC) rfl (HRY.out.alloc _) ⟨Y.heap.size, 0, none⟩ 1 1 [.int .i64 2, .int .i64 (p : Int), .string ⟨#[]⟩, .int .i64 nn] rfl rfl (cell4_new _ _ _ _ _ _) (by simp [Value.oneCell']) (by unfold maxLen; omega) (by omega) (by simp; omega) ?_; intro v5 w5 hown5 hgrow5 _ _))
                          go_roundw
                          case rel =>
                            refine ⟨m, acc ++ [(2, p, [], nn)], by go_num, hms, by rw [List.length_append, List.length_singleton]; omega, HR2.out, ?_, ?_⟩
                            · unfold RowT
                              rw [List.flatMap_append, List.length_append, List.length_singleton]
                              exact hown5
                            · exact (HBY.out.alloc HBY.out.size _).grown hgrow5 (by simp; omega) (fun k e => (HRY.out.lt k e).1)
                          case measure => simp [intOf]; omega
                        | false =>
                          rw [hbk] at kb
                          have KB2 := hide kb
                          have hR2 := HSC.out
                          rw [if_neg (by rw [bl_len, hbl, hbk]; rintro (c | c); exact hend c; cases c)] at hR2
                          subst hR2
                          clear hbl kb hbk hend
                          go_wp2_with (go_at_call 33; refine (KB2.out _).mono ?_; rintro e9 z9 ⟨rfl, hz9⟩; obtain rfl := hz9.symm)
                          go_ret3
                          exact ⟨rfl, HBY.out⟩
              · have hgem : (s.size : Int) ≤ (m : Int) := by omega
                have hst := skp_nil runC (l := bl s) (j := m) (by rw [bl_len]; omega)
                rw [hst] at hj
                have hd0 : decide ((m : Int) < (s.size : Int)) = false := decide_eq_false (by omega)
                clear hst

                obtain rfl : m = p + r := by omega
                by_cases hr0 : r = 0
                · have hR2 := HR1.out
                  rw [if_neg (by omega)] at hR2
                  subst hR2
                  have hke : (((p + r : Nat) : Int) == (p : Int)) = true := by rw [hr0]; simp
                  have hkf : ((p : Int) + (r : Int) == (p : Int)) = true := by rw [hr0]; simp
                  clear hr0
                  go_wp2_with (fail)
                  go_ret3
                  exact ⟨rfl, bseq HB.out HXX1.out⟩
                · have hR2 := HR1.out
                  rw [if_pos (by omega)] at hR2
                  have hke : (((p + r : Nat) : Int) == (p : Int)) = false := beq_eq_false_iff_ne.2 (by omega)
                  have hkn := fun W => rnumber_any (s.extract p (p + r)) W (by rw [ByteArray.size_extract]; omega)
                  have hbx : bl (s.extract p (p + r)) = ((bl s).drop p).take r := by rw [bl_extract, Nat.add_sub_cancel_left]
                  have htx : s.extract p (p + r) = ⟨(((bl s).drop p).take r).toArray⟩ := by rw [← hbx]; exact (bl_back _).symm
                  rw [hbx] at hkn
                  have hpm : p < p + r := by omega
                  have hms : p + r ≤ s.size := by omega
                  have hpmI : (p : Int) ≤ ((p + r : Nat) : Int) := by omega
                  have hmsI : ((p + r : Nat) : Int) ≤ (s.size : Int) := by omega
                  unfold saidT at hR2
                  cases hN : numK (((bl s).drop p).take r) with
                  | none =>
                    rw [hN] at hkn hR2
                    simp only [Option.isSome_none] at hkn hR2
                    generalize hTX : s.extract p (p + r) = TX at *
                    generalize hm : p + r = m at *
                    have KN := hide hkn
                    have HSC := hide hR2
                    have HTX := hide htx
                    clear hkn hR2 htx hbx hN hr0 HR1
                    go_upto_region 23 with (first | (fail) | (go_at_call 36; refine (KN.out _).mono ?_; rintro e x ⟨n9, rfl, hn9, hbx⟩; have hXx := bseq HXX1.out hbx; have HXX := hide hXx; have HXB := hide ((hbx.block _ (Array.getElem?_eq_some_iff.1 HX1B.out).1).trans HX1B.out); clear hbx hXx))
                    obtain ⟨⟨a0, a1, a2, a3⟩, a4, a5, a6⟩ := tokF HXB.out
                    have hW0 := (tokS HXB.out (.int .i64 1)).1
                    obtain ⟨⟨b0, b1, b2, b3⟩, b4, b5, b6⟩ := tokF hW0
                    have hW1 := (tokS hW0 (.string TX)).2.1
                    have hXY : Below X.heap.size X ((x.setCell ⟨X.heap.size, 0, none⟩ (.int .i64 1)).setCell ⟨X.heap.size, 2, none⟩ (.string TX)) := ((HXX.out).setCell (p := ⟨X.heap.size, 0, none⟩) (Nat.le_refl _) (.int .i64 1)).setCell (p := ⟨X.heap.size, 2, none⟩) (Nat.le_refl _) (.string TX)
                    have HWL := hide hW1
                    have HXY := hide hXY
                    clear hXY hW0 hW1
                    go_upto_region 29 with (fail)
                    have hry := HROW.out.below HXY.out
                    have hby2 := bseq HB.out HXY.out
                    have hXYs := HXY.out.size
                    have hyl : X.heap.size < ((x.setCell ⟨X.heap.size, 0, none⟩ (.int .i64 1)).setCell ⟨X.heap.size, 2, none⟩ (.string TX)).heap.size := (Array.getElem?_eq_some_iff.1 HWL.out).1
                    obtain ⟨⟨c0, c1, c2, c3⟩, c4, c5, c6⟩ := tokF HWL.out
                    clear a0 a1 a2 a3 a4 a5 a6 b0 b1 b2 b3 b4 b5 b6 HWL HXY HXX HXB
                    generalize ((x.setCell ⟨X.heap.size, 0, none⟩ (.int .i64 1)).setCell ⟨X.heap.size, 2, none⟩ (.string TX)) = Y at *
                    have HRY := hide hry
                    have HBY := hide hby2
                    clear hry hby2 HROW HB
                    have hend : m = s.size := by omega
                    · have hd1 : decide ((m : Int) < (s.size : Int)) = false := decide_eq_false (by omega)
                      have hd2 : decide (m < s.size) = false := decide_eq_false (by omega)
                      have hR2 := HSC.out
                      rw [if_pos (Or.inl (by rw [bl_len]; exact hend))] at hR2
                      have HR2 := hide hR2
                      clear hR2 hend
                      go_wp2_with (at_builtin; refine wpList_append_own_at _ rfl _ _ 29 rfl w.heap.size 28 i0 (.agg #[.int .i64 0, .int .i64 0, .string ⟨#[]⟩, .int .i64 0]) 4 40 Tryz.underlying29 hi hz0 hz1 hz2 rfl (by decide) u5 acc.length (acc.flatMap tkC) rfl (HRY.out.alloc _) ⟨Y.heap.size, 0, none⟩ 1 1 [.int .i64 1, .int .i64 (p : Int), .string TX, .int .i64 0] rfl rfl (cell4_new _ _ _ _ _ _) (by simp [Value.oneCell']) (by unfold maxLen; omega) (by omega) (by simp; omega) ?_; intro v5 w5 hown5 hgrow5 _ _)
                      go_roundw
                      case rel =>
                        refine ⟨m, acc ++ [(1, p, ((bl s).drop p).take r, 0)], by go_num, hms, by rw [List.length_append, List.length_singleton]; omega, HR2.out, ?_, ?_⟩
                        · unfold RowT
                          rw [List.flatMap_append, List.length_append, List.length_singleton]
                          rw [HTX.out] at hown5; exact hown5
                        · exact (HBY.out.alloc HBY.out.size _).grown hgrow5 (by simp; omega) (fun k e => (HRY.out.lt k e).1)
                      case measure => simp [intOf]; omega
                  | some nn =>
                    rw [hN] at hkn hR2
                    simp only [Option.isSome_some] at hkn hR2
                    generalize hTX : s.extract p (p + r) = TX at *
                    generalize hm : p + r = m at *
                    have KN := hide hkn
                    have HSC := hide hR2
                    clear hkn hR2 htx hbx hN hr0 HR1
                    go_upto_region 23 with (first | (fail) | (go_at_call 36; refine (KN.out _).mono ?_; rintro e x ⟨n9, rfl, hn9, hbx⟩; obtain rfl := (hn9 _ rfl).symm; have hXx := bseq HXX1.out hbx; have HXX := hide hXx; have HXB := hide ((hbx.block _ (Array.getElem?_eq_some_iff.1 HX1B.out).1).trans HX1B.out); clear hbx hXx))
                    obtain ⟨⟨a0, a1, a2, a3⟩, a4, a5, a6⟩ := tokF HXB.out
                    have hW0 := (tokS HXB.out (.int .i64 1)).1
                    obtain ⟨⟨b0, b1, b2, b3⟩, b4, b5, b6⟩ := tokF hW0
                    have hW1 := (tokS hW0 (.string TX)).2.1
                    obtain ⟨⟨d0, d1, d2, d3⟩, d4, d5, d6⟩ := tokF hW1
                    have hW2 := (tokS hW1 (.int .i64 2)).1
                    obtain ⟨⟨f0, f1, f2, f3⟩, f4, f5, f6⟩ := tokF hW2
                    have hW3 := (tokS hW2 (.string ⟨#[]⟩)).2.1
                    obtain ⟨⟨g0, g1, g2, g3⟩, g4, g5, g6⟩ := tokF hW3
                    have hW4 := (tokS hW3 (.int .i64 nn)).2.2
                    have hXY : Below X.heap.size X (((((x.setCell ⟨X.heap.size, 0, none⟩ (.int .i64 1)).setCell ⟨X.heap.size, 2, none⟩ (.string TX)).setCell ⟨X.heap.size, 0, none⟩ (.int .i64 2)).setCell ⟨X.heap.size, 2, none⟩ (.string ⟨#[]⟩)).setCell ⟨X.heap.size, 3, none⟩ (.int .i64 nn)) := (((((HXX.out).setCell (p := ⟨X.heap.size, 0, none⟩) (Nat.le_refl _) (.int .i64 1)).setCell (p := ⟨X.heap.size, 2, none⟩) (Nat.le_refl _) (.string TX)).setCell (p := ⟨X.heap.size, 0, none⟩) (Nat.le_refl _) (.int .i64 2)).setCell (p := ⟨X.heap.size, 2, none⟩) (Nat.le_refl _) (.string ⟨#[]⟩)).setCell (p := ⟨X.heap.size, 3, none⟩) (Nat.le_refl _) (.int .i64 nn)
                    have HWL := hide hW4
                    have HXY := hide hXY
                    clear hXY hW0 hW1 hW2 hW3 hW4
                    go_upto_region 29 with (fail)
                    have hry := HROW.out.below HXY.out
                    have hby2 := bseq HB.out HXY.out
                    have hXYs := HXY.out.size
                    have hyl : X.heap.size < (((((x.setCell ⟨X.heap.size, 0, none⟩ (.int .i64 1)).setCell ⟨X.heap.size, 2, none⟩ (.string TX)).setCell ⟨X.heap.size, 0, none⟩ (.int .i64 2)).setCell ⟨X.heap.size, 2, none⟩ (.string ⟨#[]⟩)).setCell ⟨X.heap.size, 3, none⟩ (.int .i64 nn)).heap.size := (Array.getElem?_eq_some_iff.1 HWL.out).1
                    obtain ⟨⟨c0, c1, c2, c3⟩, c4, c5, c6⟩ := tokF HWL.out
                    clear a0 a1 a2 a3 a4 a5 a6 b0 b1 b2 b3 b4 b5 b6 d0 d1 d2 d3 d4 d5 d6 f0 f1 f2 f3 f4 f5 f6 g0 g1 g2 g3 g4 g5 g6 HWL HXY HXX HXB
                    generalize (((((x.setCell ⟨X.heap.size, 0, none⟩ (.int .i64 1)).setCell ⟨X.heap.size, 2, none⟩ (.string TX)).setCell ⟨X.heap.size, 0, none⟩ (.int .i64 2)).setCell ⟨X.heap.size, 2, none⟩ (.string ⟨#[]⟩)).setCell ⟨X.heap.size, 3, none⟩ (.int .i64 nn)) = Y at *
                    have HRY := hide hry
                    have HBY := hide hby2
                    clear hry hby2 HROW HB
                    have hend : m = s.size := by omega
                    · have hd1 : decide ((m : Int) < (s.size : Int)) = false := decide_eq_false (by omega)
                      have hd2 : decide (m < s.size) = false := decide_eq_false (by omega)
                      have hR2 := HSC.out
                      rw [if_pos (Or.inl (by rw [bl_len]; exact hend))] at hR2
                      have HR2 := hide hR2
                      clear hR2 hend
                      go_wp2_with (at_builtin; refine wpList_append_own_at _ rfl _ _ 29 rfl w.heap.size 28 i0 (.agg #[.int .i64 0, .int .i64 0, .string ⟨#[]⟩, .int .i64 0]) 4 40 Tryz.underlying29 hi hz0 hz1 hz2 rfl (by decide) u5 acc.length (acc.flatMap tkC) rfl (HRY.out.alloc _) ⟨Y.heap.size, 0, none⟩ 1 1 [.int .i64 2, .int .i64 (p : Int), .string ⟨#[]⟩, .int .i64 nn] rfl rfl (cell4_new _ _ _ _ _ _) (by simp [Value.oneCell']) (by unfold maxLen; omega) (by omega) (by simp; omega) ?_; intro v5 w5 hown5 hgrow5 _ _)
                      go_roundw
                      case rel =>
                        refine ⟨m, acc ++ [(2, p, [], nn)], by go_num, hms, by rw [List.length_append, List.length_singleton]; omega, HR2.out, ?_, ?_⟩
                        · unfold RowT
                          rw [List.flatMap_append, List.length_append, List.length_singleton]
                          exact hown5
                        · exact (HBY.out.alloc HBY.out.size _).grown hgrow5 (by simp; omega) (fun k e => (HRY.out.lt k e).1)
                      case measure => simp [intOf]; omega
      · have hge : (s.size : Int) ≤ (j : Int) := by omega
        have hst := skp_nil blankC (l := bl s) (j := j) (by rw [bl_len]; omega)
        rw [hst, Nat.add_zero] at hj
        have hR2 := HSQ.out
        rw [if_pos (by rw [bl_len]; omega)] at hR2
        subst hR2
        clear hst hj
        go_wp2_with (fail)
        go_ret3
        exact ⟨_, rfl, HROW.out, HB.out⟩
end Go.Proofs.YtaljllbfedfpoaaGreatDoor
namespace Go.Proofs.YtaljllbfedfpoaaGreatDoor
open Go.RowKit Go.Shelf
set_option linter.unusedVariables false

def tcI (x : TkI) : List Value := [.int .i64 x.1, .int .i64 x.2.1, .string x.2.2.1, .int .i64 x.2.2.2]
theorem tcI_len (xs : List TkI) : (xs.flatMap tcI).length = xs.length * 4 := by
  induction xs with
  | nil => rfl
  | cons x xs ih => simp [List.flatMap_cons, ih, tcI]; omega
theorem flatI_get (ts : List TkI) (i j : Nat) (x : TkI) (hx : ts[i]? = some x) (hj : j < 4) : (ts.flatMap tcI)[i * 4 + j]? = (tcI x)[j]? := by
  induction ts generalizing i with
  | nil => simp at hx
  | cons y ys ih =>
    rw [List.flatMap_cons]
    cases i with
    | zero =>
      simp only [List.getElem?_cons_zero, Option.some.injEq] at hx
      subst hx
      rw [List.getElem?_append_left (by simp [tcI]; omega)]
      congr 1
      omega
    | succ i =>
      simp only [List.getElem?_cons_succ] at hx
      rw [List.getElem?_append_right (by simp [tcI]; omega), ← ih i hx]
      congr 1
      simp [tcI]
      omega
theorem flatI_snoc (xs : List TkI) (x : TkI) : (xs ++ [x]).flatMap tcI = xs.flatMap tcI ++ [.int .i64 x.1, .int .i64 x.2.1, .string x.2.2.1, .int .i64 x.2.2.2] := by
  rw [List.flatMap_append]; simp [tcI]
def RowI (W : World) (base : Nat) (v : Value) (ts : List TkI) : Prop := W.ownsRow base 28 4 v ts.length (ts.flatMap tcI)
theorem RowI.slk {W : World} {base : Nat} {v : Value} {ts : List TkI} (h : RowI W base v ts) (h0 : 0 < ts.length) : ∃ g cap, v = .slice (some ⟨g, 0, none⟩) ts.length cap ∧ ts.length ≤ cap ∧ SlK W (some ⟨g, 0, none⟩) ts := by
  rcases h.2 with ⟨h1, h2⟩ | ⟨g, cap, cur, hv, hg, hh, hnc, hcap, hs, hc⟩
  · omega
  · refine ⟨g, cap, hv, hnc, .inr ⟨g, 0, rfl, (Array.getElem?_eq_some_iff.1 hh).1, fun i y hy => ?_⟩⟩
    have hi : i < ts.length := (List.getElem?_eq_some_iff.1 hy).1
    have key : ∀ j (u : Value), j < 4 → (tcI y)[j]? = some u → W.cell? ⟨g, 0 + i * 4 + j, none⟩ = some u := by
      intro j u hj hu
      have h1 := flatI_get ts i j y hy hj
      rw [hu, ← hc, List.getElem?_take, if_pos (by omega)] at h1
      refine celS hh _ _ ?_
      rw [Nat.zero_add]
      simpa using h1
    exact ⟨key 0 _ (by omega) rfl, key 1 _ (by omega) rfl, key 2 _ (by omega) rfl, key 3 _ (by omega) rfl⟩
theorem rowI_start {W : World} {base : Nat} {v : Value} {xs : List TkI} (h : W.ownsRow base 28 4 v (0 + xs.length) ([] ++ xs.flatMap tcI)) : RowI W base v xs := by
  rw [Nat.zero_add, List.nil_append] at h
  exact h
theorem slk_news {W : World} {b off : Nat} {xs : List TkI} (h : SlK W (some ⟨b, off, none⟩) xs) : ∀ j u, (xs.flatMap tcI)[j]? = some u → W.cell? ((⟨b, off, none⟩ : Addr).add j) = some u := by
  intro j u hu
  have hj : j < (xs.flatMap tcI).length := (List.getElem?_eq_some_iff.1 hu).1
  rw [tcI_len] at hj
  have hi : j / 4 < xs.length := by omega
  obtain ⟨b1, off1, ha, c0, c1, c2, c3⟩ := tok_cells h (List.getElem?_eq_getElem hi)
  cases ha
  have hg := flatI_get xs (j / 4) (j % 4) _ (List.getElem?_eq_getElem hi) (by omega)
  rw [show j / 4 * 4 + j % 4 = j by omega, hu] at hg
  have ea : (⟨b, off, none⟩ : Addr).add j = ⟨b, off + j / 4 * 4 + j % 4, none⟩ := by
    rw [show off + j / 4 * 4 + j % 4 = off + j by omega]
    cases j <;> simp [Addr.add]
  rw [ea]
  have h4 : j % 4 = 0 ∨ j % 4 = 1 ∨ j % 4 = 2 ∨ j % 4 = 3 := by omega
  rcases h4 with e | e | e | e
  all_goals
    rw [e] at hg ⊢
    simp only [tcI, List.getElem?_cons_zero, List.getElem?_cons_succ, Option.some.injEq] at hg
    subst hg
    first | exact c0 | exact c1 | exact c2 | exact c3
theorem slk_news' {W : World} {ad : Addr} {xs : List TkI} (h : SlK W (some ad) xs) : ∀ j u, (xs.flatMap tcI)[j]? = some u → W.cell? (ad.add j) = some u := by
  rcases h with h | h
  · subst h
    intro j u hu
    simp at hu
  · obtain ⟨b, off, ha, hb, hc⟩ := h
    cases ha
    exact slk_news (.inr ⟨b, off, rfl, hb, hc⟩)
theorem tcI_one (xs : List TkI) : ∀ u ∈ xs.flatMap tcI, u.oneCell' = true := by
  intro u hu
  obtain ⟨x, _, hx⟩ := List.mem_flatMap.1 hu
  simp only [tcI, List.mem_cons, List.not_mem_nil, or_false] at hx
  rcases hx with rfl | rfl | rfl | rfl <;> rfl
/-- What stands in the room. -/
def marksI : Nat → List TkI
  | 0 => []
  | n + 1 => marksI n ++ [(9, 0, ⟨#[]⟩, (n : Int))]
theorem marks_len (n : Nat) : (marksI n).length = n := by
  induction n with
  | zero => rfl
  | succ n ih => simp [marksI, ih]
theorem marks_at (n : Nat) : ∀ i, i < n → (marksI n)[i]? = some (9, 0, ⟨#[]⟩, (i : Int)) := by
  induction n with
  | zero => intro i h; omega
  | succ n ih =>
    intro i h
    unfold marksI
    by_cases hi : i < n
    · rw [List.getElem?_append_left (by rw [marks_len]; exact hi)]; exact ih i hi
    · have : i = n := by omega
      subst this
      rw [List.getElem?_append_right (by rw [marks_len]; exact Nat.le_refl _), marks_len]
      simp
set_option maxRecDepth 100000 in
set_option maxHeartbeats 4000000 in
theorem spare_any (a : Option Addr) (cap : Nat) (xs : List TkI) (w : World) (hx : SlK w a xs) (hl : xs.length ≤ 1048576) (hn : a = none → xs.length = 0 ∧ cap = 0) :
    Calls Tryz.prog 23 #[.slice a xs.length cap] w fun e w' => ∃ g c, e = .returned (.slice (some ⟨g, 0, none⟩) xs.length c) ∧ xs.length + 5 ≤ c ∧ SlK w' (some ⟨g, 0, none⟩) (xs ++ marksI 5) ∧ Below w.heap.size w w' := by
  obtain ⟨i0, hi, hz0, hz1, hz2⟩ := info_parts Tryz.infoTk
  have HX := hide hx
  have hlI : (xs.length : Int) ≤ 1048576 := by omega
  clear hx
  cases a with
  | none =>
    obtain ⟨h0, hc0⟩ := hn rfl
    have hx0 : xs = [] := List.eq_nil_of_length_eq_zero h0
    subst hx0
    subst hc0
    have hr1 : RowI w w.heap.size (.slice none 0 0) [] := World.ownsRow_nil _ _ _ _
    have HR1 := hide hr1
    have HB1 := hide (Below.refl w.heap.size w)
    clear hr1
    go_enter Tryz.func23, Tryz.ntmps23
    go_wp2_with (fail)
    go_loopw [3, 4] (fun v i wr => ∃ j : Nat, i = .int .i64 (j : Int) ∧ j ≤ 5 ∧ RowI wr w.heap.size v ([] ++ marksI j) ∧ Below w.heap.size w wr) (fun _ i _ => 5 - (intOf i).toNat)
    case atStart => exact ⟨0, rfl, by omega, by rw [show marksI 0 = [] from rfl, List.append_nil]; exact HR1.out, HB1.out⟩
    case round =>
      clear HR1 HB1
      obtain ⟨j, rfl, hj, hrow, hB⟩ := hrel
      have HROW := hide hrow
      have HB := hide hB
      have hBw := hB.size
      have hml : ([] ++ marksI j).length = ([] : List TkI).length + j := by rw [List.length_append, marks_len]
      clear hrow hB
      by_cases hlt : j < 5
      · have hltI : (j : Int) < 5 := by omega
        go_wp2_with (at_builtin; refine wpList_append_own_at _ rfl _ _ 29 rfl w.heap.size 28 i0 (.agg #[.int .i64 0, .int .i64 0, .string ⟨#[]⟩, .int .i64 0]) 4 40 Tryz.underlying29 hi hz0 hz1 hz2 rfl (by decide) u3 ([] ++ marksI j).length (([] ++ marksI j).flatMap tcI) rfl (HROW.out.alloc _) ⟨wr.heap.size, 0, none⟩ 1 1 [.int .i64 9, .int .i64 0, .string ⟨#[]⟩, .int .i64 (j : Int)] rfl rfl (cell4_new _ _ _ _ _ _) (by simp [Value.oneCell']) (by unfold maxLen; omega) (by omega) (by simp; omega) ?_; intro v2 w2 hown2 hgrow2 _ _)
        go_roundw
        case rel =>
          refine ⟨j + 1, by go_num, by omega, ?_, ?_⟩
          · show RowI w2 w.heap.size v2 ([] ++ (marksI j ++ [(9, 0, ⟨#[]⟩, (j : Int))]))
            rw [← List.append_assoc]
            unfold RowI
            rw [flatI_snoc, List.length_append, List.length_singleton]
            exact hown2
          · exact (HB.out.alloc HB.out.size _).grown hgrow2 (by simp; omega) (fun k e => (HROW.out.lt k e).1)
        case measure => simp [intOf]; omega
      · have hltI : (5 : Int) ≤ (j : Int) := by omega
        have hj5 : j = 5 := by omega
        subst hj5
        obtain ⟨g, c, hv, hnc, hsl⟩ := HROW.out.slk (by omega)
        rw [hml] at hv hnc
        have hncI : (([] : List TkI).length : Int) ≤ (c : Int) := by omega
        have HSL := hide hsl
        subst hv
        clear hsl
        go_wp2_with (fail)
        go_ret
        exact ⟨g, c, rfl, hnc, HSL.out, HB.out⟩
  | some ad =>
    go_enter Tryz.func23, Tryz.ntmps23
    go_wp2_with (at_builtin; refine wpList_append_own_at _ rfl _ _ 29 rfl w.heap.size 28 i0 (.agg #[.int .i64 0, .int .i64 0, .string ⟨#[]⟩, .int .i64 0]) 4 40 Tryz.underlying29 hi hz0 hz1 hz2 rfl (by decide) (.slice none 0 0) 0 [] rfl (World.ownsRow_nil _ _ _ _) ad xs.length cap (xs.flatMap tcI) rfl (tcI_len xs) (slk_news' HX.out) (tcI_one xs) (by unfold maxLen; omega) (by omega) (Nat.le_refl _) ?_; intro v1 w1 hown1 hgrow1 _ _; have HR1 := hide (rowI_start hown1); have HB1 := hide ((Below.refl w.heap.size w).grown hgrow1 (Nat.le_refl _) (fun k e => absurd e (by simp [Value.ownBlock]))); clear hown1 hgrow1)
    go_loopw [3, 4] (fun v i wr => ∃ j : Nat, i = .int .i64 (j : Int) ∧ j ≤ 5 ∧ RowI wr w.heap.size v (xs ++ marksI j) ∧ Below w.heap.size w wr) (fun _ i _ => 5 - (intOf i).toNat)
    case atStart => exact ⟨0, rfl, by omega, by rw [show marksI 0 = [] from rfl, List.append_nil]; exact HR1.out, HB1.out⟩
    case round =>
      clear HR1 HB1
      obtain ⟨j, rfl, hj, hrow, hB⟩ := hrel
      have HROW := hide hrow
      have HB := hide hB
      have hBw := hB.size
      have hml : (xs ++ marksI j).length = xs.length + j := by rw [List.length_append, marks_len]
      clear hrow hB
      by_cases hlt : j < 5
      · have hltI : (j : Int) < 5 := by omega
        go_wp2_with (at_builtin; refine wpList_append_own_at _ rfl _ _ 29 rfl w.heap.size 28 i0 (.agg #[.int .i64 0, .int .i64 0, .string ⟨#[]⟩, .int .i64 0]) 4 40 Tryz.underlying29 hi hz0 hz1 hz2 rfl (by decide) u3 (xs ++ marksI j).length ((xs ++ marksI j).flatMap tcI) rfl (HROW.out.alloc _) ⟨wr.heap.size, 0, none⟩ 1 1 [.int .i64 9, .int .i64 0, .string ⟨#[]⟩, .int .i64 (j : Int)] rfl rfl (cell4_new _ _ _ _ _ _) (by simp [Value.oneCell']) (by unfold maxLen; omega) (by omega) (by simp; omega) ?_; intro v2 w2 hown2 hgrow2 _ _)
        go_roundw
        case rel =>
          refine ⟨j + 1, by go_num, by omega, ?_, ?_⟩
          · show RowI w2 w.heap.size v2 (xs ++ (marksI j ++ [(9, 0, ⟨#[]⟩, (j : Int))]))
            rw [← List.append_assoc]
            unfold RowI
            rw [flatI_snoc, List.length_append, List.length_singleton]
            exact hown2
          · exact (HB.out.alloc HB.out.size _).grown hgrow2 (by simp; omega) (fun k e => (HROW.out.lt k e).1)
        case measure => simp [intOf]; omega
      · have hltI : (5 : Int) ≤ (j : Int) := by omega
        have hj5 : j = 5 := by omega
        subst hj5
        obtain ⟨g, c, hv, hnc, hsl⟩ := HROW.out.slk (by omega)
        rw [hml] at hv hnc
        have hncI : (xs.length : Int) ≤ (c : Int) := by omega
        have HSL := hide hsl
        subst hv
        clear hsl
        go_wp2_with (fail)
        go_ret
        exact ⟨g, c, rfl, hnc, HSL.out, HB.out⟩
end Go.Proofs.YtaljllbfedfpoaaGreatDoor
namespace Go.Proofs.YtaljllbfedfpoaaGreatDoor
open Go.RowKit Go.Shelf
set_option linter.unusedVariables false

set_option maxRecDepth 100000 in
set_option maxHeartbeats 4000000 in
theorem same_toks (a b : Option Addr) (c d : Nat) (xs : List TkI) (w : World) (ha : SlK w a xs) (hb : SlK w b xs) (hl : xs.length ≤ 1048576) :
    Calls Tryz.prog 15 #[.slice a xs.length c, .slice b xs.length d] w fun e w' => e = .returned (.bool true) ∧ ∃ n, w' = w.drewN n := by
  have HA := hide ha
  have HB := hide hb
  have g0 := Tryz.noGuardTk
  have hlI : (xs.length : Int) ≤ 1048576 := by omega
  clear ha hb
  go_enter Tryz.func15, Tryz.ntmps15
  go_wp2
  go_loopw [5] (fun i wr => ∃ k n : Nat, i = .int .i64 (k : Int) ∧ k ≤ xs.length ∧ wr = w.drewN n) (fun i _ => xs.length - (intOf i).toNat)
  case atStart => exact ⟨0, 0, rfl, Nat.zero_le _, rfl⟩
  case round =>
    obtain ⟨k, n, rfl, hk, hwr⟩ := hrel
    by_cases hlt : k < xs.length
    · have hltI : (k : Int) < (xs.length : Int) := by omega
      have hxk : xs[k]? = some xs[k] := List.getElem?_eq_getElem hlt
      have ha' : SlK wr a xs := by rw [hwr]; exact HA.out
      have hb' : SlK wr b xs := by rw [hwr]; exact HB.out
      obtain ⟨b0, off, rfl, v0, v1, v2, v3⟩ := tok_cells ha' hxk
      obtain ⟨b1, off1, rfl, u0, u1, u2, u3⟩ := tok_cells hb' hxk
      generalize xs[k] = x at *
      obtain ⟨k', a', t', n'⟩ := x
      simp only at v0 v1 v2 v3 u0 u1 u2 u3
      have g1 := fun W => eql_tk k' a' t' n' W
      have HWR := hide hwr
      clear ha' hb' hxk hwr
      go_wp2_with (fail)
      go_quiet (fail)
      go_wp2_with (fail)
      go_roundw
      case rel => exact ⟨k + 1, n + nq, by go_num, by omega, by rw [HWR.out, World.drewN_drewN]⟩
      case measure => simp [intOf]; omega
    · have hge : (xs.length : Int) ≤ (k : Int) := by omega
      go_wp2
      go_ret
      exact ⟨rfl, n, rfl⟩
end Go.Proofs.YtaljllbfedfpoaaGreatDoor
namespace Go.Proofs.YtaljllbfedfpoaaGreatDoor
open Go.RowKit Go.Extern.Stop Go.Stop Go.Extern
set_option linter.unusedVariables false

theorem As.valueOfPP (t : Addr) (w : World) : (ReflectliteValue.unpack (.iface 69 (.pointer (some t)))).run Tryz.prog w
    = .ok (.agg #[.pointer (some ⟨7, 69, none⟩), .pointer (some ⟨w.heap.size, 0, none⟩), .int .u64 150]) (w.alloc (.cells #[.pointer (some t)] 69)) := by kernel_rfl
theorem As.typePP (a : Addr) (w : World) : (ReflectliteValue.methodAny (ReflectliteValue.valueError "reflectlite.Value.Type" 0) (fun t _ _ _ => ReflectliteType.toType t) #[.agg #[.pointer (some ⟨7, 69, none⟩), .pointer (some a), .int .u64 150]]).run Tryz.prog w
    = .ok (.iface 124 (.agg #[.pointer (some ⟨7, 69, none⟩)])) w := by kernel_rfl
theorem As.mKind (h : Value) (w : World) : (Go.method 305 124 (.agg #[h]) "Kind").run Tryz.prog w = .ok (133, h) w := by kernel_rfl
theorem As.mElem (h : Value) (w : World) : (Go.method 305 124 (.agg #[h]) "Elem").run Tryz.prog w = .ok (146, .agg #[h]) w := by kernel_rfl
theorem As.mImpl (h : Value) (w : World) : (Go.method 305 124 (.agg #[h]) "Implements").run Tryz.prog w = .ok (147, .agg #[h]) w := by kernel_rfl
theorem As.mAsgn (h : Value) (w : World) : (Go.method 305 124 (.agg #[h]) "AssignableTo").run Tryz.prog w = .ok (144, .agg #[h]) w := by kernel_rfl
theorem As.kindPP (w : World) : ((ReflectliteType.abiMethod fun t => (fun a : Nat => Value.int IntKind.u8 (a : Int)) <$> Rtype.kind t) #[.pointer (some ⟨7, 69, none⟩)]).run Tryz.prog w = .ok (.int .u8 22) w := by kernel_rfl
theorem As.kindP (w : World) : ((ReflectliteType.abiMethod fun t => (fun a : Nat => Value.int IntKind.u8 (a : Int)) <$> Rtype.kind t) #[.pointer (some ⟨7, 54, none⟩)]).run Tryz.prog w = .ok (.int .u8 22) w := by kernel_rfl
theorem As.elemPP (w : World) : (ReflectliteType.method ReflectliteType.elem #[.agg #[.pointer (some ⟨7, 69, none⟩)]]).run Tryz.prog w = .ok (.iface 124 (.agg #[.pointer (some ⟨7, 54, none⟩)])) w := by kernel_rfl
theorem As.implP (w : World) : (ReflectliteType.relation "Implements" ReflectliteType.implements_ #[.agg #[.pointer (some ⟨7, 54, none⟩)], .iface 124 (.agg #[.pointer (some ⟨7, 32, none⟩)])]).run Tryz.prog w = .ok (.bool true) w := by kernel_rfl
theorem As.typeOfP (v : Value) (w : World) : (ReflectliteType.typeOf #[.iface 54 v]).run Tryz.prog w = .ok (.iface 124 (.agg #[.pointer (some ⟨7, 54, none⟩)])) w := by kernel_rfl
theorem As.asgnP (w : World) : (ReflectliteType.relation "AssignableTo" ReflectliteType.assignableTo #[.agg #[.pointer (some ⟨7, 54, none⟩)], .iface 124 (.agg #[.pointer (some ⟨7, 54, none⟩)])]).run Tryz.prog w = .ok (.bool true) w := by kernel_rfl
theorem As.valueOfP (e : Addr) (w : World) : (ReflectliteValue.unpack (.iface 54 (.pointer (some e)))).run Tryz.prog w
    = .ok (.agg #[.pointer (some ⟨7, 54, none⟩), .pointer (some ⟨w.heap.size, 0, none⟩), .int .u64 150]) (w.alloc (.cells #[.pointer (some e)] 54)) := by kernel_rfl
theorem As.partsPP (a : Addr) (w : World) : (ReflectliteValue.parts (.agg #[.pointer (some ⟨7, 69, none⟩), .pointer (some a), .int .u64 150])).run Tryz.prog w = .ok (some (69, a, 150)) w := by kernel_rfl
theorem As.partsPa (a : Addr) (w : World) : (ReflectliteValue.parts (.agg #[.pointer (some ⟨7, 54, none⟩), .pointer (some a), .int .u64 406])).run Tryz.prog w = .ok (some (54, a, 406)) w := by kernel_rfl
theorem As.partsP (a : Addr) (w : World) : (ReflectliteValue.parts (.agg #[.pointer (some ⟨7, 54, none⟩), .pointer (some a), .int .u64 150])).run Tryz.prog w = .ok (some (54, a, 150)) w := by kernel_rfl
theorem As.elemOfPP (w : World) : (Rtype.elem? 69).run Tryz.prog w = .ok (some 54) w := by kernel_rfl
theorem As.mkP (p : Addr) (w : World) : (ReflectliteValue.mk 54 p ReflectliteValue.flagAddr).run Tryz.prog w = .ok (.agg #[.pointer (some ⟨7, 54, none⟩), .pointer (some p), .int .u64 406]) w := by kernel_rfl
theorem As.directP (w : World) : (Rtype.directlyAssignable 54 54).run Tryz.prog w = .ok true w := by kernel_rfl
theorem As.via (z : Sem Value) (f : TypeId → Addr → Nat → Nat → Sem Value) (v : Value) : ReflectliteValue.method z f #[v] = (do match ← ReflectliteValue.parts v with | none => z | some (t, a, fl) => f t a fl (fl % 32)) := rfl
theorem As.isNilPP (a p : Addr) (W : World) (ha : W.cell? a = some (.pointer (some p))) :
    (ReflectliteValue.method (ReflectliteValue.valueError "reflectlite.Value.IsNil" 0) ReflectliteValue.isNil #[.agg #[.pointer (some ⟨7, 69, none⟩), .pointer (some a), .int .u64 150]]).run Tryz.prog W = .ok (.bool false) W := by
  rw [As.via]
  simp only [Sem.run_bind, As.partsPP, Result.andThen]
  simp [ReflectliteValue.isNil, loadVar, isAgg, underlying, Tryz.underlying69, ha, Result.andThen]
theorem As.elemVPP (a p : Addr) (W : World) (ha : W.cell? a = some (.pointer (some p))) :
    (ReflectliteValue.method (ReflectliteValue.valueError "reflectlite.Value.Elem" 0) ReflectliteValue.elem #[.agg #[.pointer (some ⟨7, 69, none⟩), .pointer (some a), .int .u64 150]]).run Tryz.prog W
      = .ok (.agg #[.pointer (some ⟨7, 54, none⟩), .pointer (some p), .int .u64 406]) W := by
  rw [As.via]
  simp only [Sem.run_bind, As.partsPP, Result.andThen]
  simp [ReflectliteValue.elem, loadVar, isAgg, underlying, Tryz.underlying69, ha, Result.andThen, As.elemOfPP, As.mkP]
theorem As.setP (ta b e : Addr) (old : Value) (W : World) (hb : W.cell? b = some (.pointer (some e))) (ht : W.cell? ta = some old) (hf : W.frozen? ta = false) :
    (ReflectliteValue.set #[.agg #[.pointer (some ⟨7, 54, none⟩), .pointer (some ta), .int .u64 406], .agg #[.pointer (some ⟨7, 54, none⟩), .pointer (some b), .int .u64 150]]).run Tryz.prog W
      = .ok (.tuple #[]) (W.setCell ta (.pointer (some e))) := by
  suffices h : ∃ k : Option (TypeId × Addr × Nat) → Option (TypeId × Addr × Nat) → Sem Value, (∀ v x, ReflectliteValue.set #[v, x] = (do let p ← ReflectliteValue.parts v; let q ← ReflectliteValue.parts x; k p q)) ∧ (k (some (54, ta, 406)) (some (54, b, 150))).run Tryz.prog W = .ok (.tuple #[]) (W.setCell ta (.pointer (some e))) by
    obtain ⟨k, h1, h2⟩ := h
    rw [h1]
    simp only [Sem.run_bind, As.partsPa, As.partsP, Result.andThen]
    exact h2
  refine ⟨_, fun v x => rfl, ?_⟩
  simp [ReflectliteValue.flagAddr, loadVar, isAgg, underlying, Tryz.underlying54, hb, Result.andThen, As.directP, storeVar, Value.cells, storeCells, Addr.add]
  rw [run_store Tryz.prog W ta _ _ (by rfl)]
  simp [ht, hf]
/-- What the handle of 'error' is in a world. -/
def LaidE (w : World) : Prop := w.cell? ⟨0, 0, none⟩ = some (.iface 124 (.agg #[.pointer (some ⟨7, 32, none⟩)]))
end Go.Proofs.YtaljllbfedfpoaaGreatDoor
namespace Go.Proofs.YtaljllbfedfpoaaGreatDoor
open Go.RowKit Go.Extern.Stop Go.Stop Go.Extern
set_option linter.unusedVariables false

theorem cell_old {W W' : World} {p : Addr} {v : Value} (h : W.cell? p = some v) (hB : Below W.heap.size W W') : W'.cell? p = some v := (hB.cell (World.block_lt_of_cell? _ _ h)).trans h
theorem LaidE.below {W W' : World} (h : LaidE W) (hB : Below W.heap.size W W') : LaidE W' := cell_old h hB
set_option maxRecDepth 100000 in
set_option maxHeartbeats 4000000 in
/-- errors.As of a fault, at a variable for one. -/
theorem as_hit (e t : Addr) (old : Value) (w : World) (hg : LaidE w) (ht0 : w.cell? t = some old) (hf0 : w.frozen? t = false) :
    Calls Tryz.prog 37 #[.iface 54 (.pointer (some e)), .iface 69 (.pointer (some t))] w fun ev w' => ev = .returned (.bool true) ∧ ∃ W4, Below w.heap.size w W4 ∧ w' = W4.setCell t (.pointer (some e)) := by
  have x1 := @run_callFunc_extern Tryz.prog 60 _ (fun args => ReflectliteValue.unpack (args.getD 0 (.tuple #[]))) Tryz.func60 (by kernel_rfl) (by kernel_rfl) (by kernel_rfl) (by kernel_rfl)
  have x2 := @run_callFunc_extern Tryz.prog 61 _ (ReflectliteValue.methodAny (ReflectliteValue.valueError "reflectlite.Value.Type" 0) (fun t _ _ _ => ReflectliteType.toType t)) Tryz.func61 (by kernel_rfl) (by kernel_rfl) (by kernel_rfl) (by kernel_rfl)
  have x3 := @run_callFunc_extern Tryz.prog 62 _ (ReflectliteValue.method (ReflectliteValue.valueError "reflectlite.Value.IsNil" 0) ReflectliteValue.isNil) Tryz.func62 (by kernel_rfl) (by kernel_rfl) (by kernel_rfl) (by kernel_rfl)
  have x4 := @run_callFunc_extern Tryz.prog 133 _ (ReflectliteType.abiMethod fun t => do pure (.int .u8 (← Rtype.kind t))) Tryz.func133 (by kernel_rfl) (by kernel_rfl) (by kernel_rfl) (by kernel_rfl)
  have x5 := @run_callFunc_extern Tryz.prog 146 _ (ReflectliteType.method ReflectliteType.elem) Tryz.func146 (by kernel_rfl) (by kernel_rfl) (by kernel_rfl) (by kernel_rfl)
  have x6 := @run_callFunc_extern Tryz.prog 147 _ (ReflectliteType.relation "Implements" ReflectliteType.implements_) Tryz.func147 (by kernel_rfl) (by kernel_rfl) (by kernel_rfl) (by kernel_rfl)
  have x7 := @run_callFunc_extern Tryz.prog 80 _ ReflectliteType.typeOf Tryz.func80 (by kernel_rfl) (by kernel_rfl) (by kernel_rfl) (by kernel_rfl)
  have x8 := @run_callFunc_extern Tryz.prog 144 _ (ReflectliteType.relation "AssignableTo" ReflectliteType.assignableTo) Tryz.func144 (by kernel_rfl) (by kernel_rfl) (by kernel_rfl) (by kernel_rfl)
  have x9 := @run_callFunc_extern Tryz.prog 81 _ (ReflectliteValue.method (ReflectliteValue.valueError "reflectlite.Value.Elem" 0) ReflectliteValue.elem) Tryz.func81 (by kernel_rfl) (by kernel_rfl) (by kernel_rfl) (by kernel_rfl)
  have x10 := @run_callFunc_extern Tryz.prog 82 _ ReflectliteValue.set Tryz.func82 (by kernel_rfl) (by kernel_rfl) (by kernel_rfl) (by kernel_rfl)
  have y1 := As.valueOfPP
  have y2 := As.typePP
  have y3 := As.mKind
  have y4 := As.mElem
  have y5 := As.mImpl
  have y6 := As.mAsgn
  have y7 := As.kindPP
  have y8 := As.kindP
  have y9 := As.elemPP
  have y10 := As.implP
  have y11 := As.typeOfP
  have y12 := As.asgnP
  have y13 := As.valueOfP
  have b1 : Below w.heap.size w (w.alloc (.cells #[.pointer (some t)] 69)) := (Below.refl _ w).alloc (Nat.le_refl _) _
  have b2 := b1.alloc b1.size (.cells #[.pointer (some ⟨7, 69, none⟩), .pointer (some ⟨w.heap.size, 0, none⟩), .int .u64 150] 103)
  have b3 := b2.alloc b2.size (.cells #[.pointer (some ⟨7, 69, none⟩), .pointer (some ⟨w.heap.size, 0, none⟩), .int .u64 150] 103)
  have b4 := b3.alloc b3.size (.cells #[.pointer (some e)] 54)
  have n8 := As.isNilPP ⟨w.heap.size, 0, none⟩ t _ (show ((w.alloc (.cells #[.pointer (some t)] 69)).alloc (.cells #[.pointer (some ⟨7, 69, none⟩), .pointer (some ⟨w.heap.size, 0, none⟩), .int .u64 150] 103)).cell? _ = _ by simp)
  have hg2 := cell_old hg b2
  have el := As.elemVPP ⟨w.heap.size, 0, none⟩ t _ (show (((w.alloc (.cells #[.pointer (some t)] 69)).alloc (.cells #[.pointer (some ⟨7, 69, none⟩), .pointer (some ⟨w.heap.size, 0, none⟩), .int .u64 150] 103)).alloc (.cells #[.pointer (some ⟨7, 69, none⟩), .pointer (some ⟨w.heap.size, 0, none⟩), .int .u64 150] 103)).cell? _ = _ by
    rw [World.cell?_alloc_lt _ _ ⟨w.heap.size, 0, none⟩ (by simp; omega)]; simp)
  have htl : t.block < w.heap.size := World.block_lt_of_cell? _ _ ht0
  have st := As.setP t ⟨w.heap.size + 1 + 1 + 1, 0, none⟩ e old _ (show ((((w.alloc (.cells #[.pointer (some t)] 69)).alloc (.cells #[.pointer (some ⟨7, 69, none⟩), .pointer (some ⟨w.heap.size, 0, none⟩), .int .u64 150] 103)).alloc (.cells #[.pointer (some ⟨7, 69, none⟩), .pointer (some ⟨w.heap.size, 0, none⟩), .int .u64 150] 103)).alloc (.cells #[.pointer (some e)] 54)).cell? _ = _ by
      rw [World.cell?_alloc_at _ _ _ _ (by simp)]; rfl) (cell_old ht0 b4)
    (by rw [World.frozen?_alloc_old _ _ t (by simp; omega), World.frozen?_alloc_old _ _ t (by simp; omega), World.frozen?_alloc_old _ _ t (by simp; omega), World.frozen?_alloc_old _ _ t (Nat.ne_of_lt htl)]; exact hf0)
  have B4 := hide b4
  clear b1 b2 b3 b4 htl
  unfold LaidE at hg
  go_enter Tryz.func37, Tryz.ntmps37
  go_wp2
  refine wp_loop_rounds 1 ?_
  rw [rounds_succ]
  go_wp2
  go_ret
  exact ⟨rfl, _, B4.out, rfl⟩
/-- What isFault says of an error: none, or one with this code at this place. -/
def fltV (c a e at' : Int) : Bool := decide (c = e) && decide (a = at') && !decide (e = 0)
set_option maxRecDepth 100000 in
set_option maxHeartbeats 4000000 in
theorem isFault_nil (e at' : Int) (w : World) : Calls Tryz.prog 14 #[.nilIface, .int .i64 e, .int .i64 at'] w fun ev w' => ev = .returned (.bool (e == 0)) ∧ w' = w := by
  go_enter Tryz.func14, Tryz.ntmps14
  go_wp2
  go_ret
  exact ⟨rfl, rfl⟩
set_option maxRecDepth 100000 in
set_option maxHeartbeats 4000000 in
theorem isFault_some (k : Nat) (c a e at' : Int) (w : World) (hk : w.heap[k]? = some (.cells #[.int .i64 c, .int .i64 a] 56 (0, 0))) (hE : LaidE w) :
    Calls Tryz.prog 14 #[.iface 54 (.pointer (some ⟨k, 0, none⟩)), .int .i64 e, .int .i64 at'] w fun ev w' => ev = .returned (.bool (fltV c a e at')) ∧ Below w.heap.size w w' := by
  have b0 : Below w.heap.size w (w.alloc (.cells #[.pointer none] 54)) := (Below.refl _ w).alloc (Nat.le_refl _) _
  have h0 : (w.alloc (.cells #[.pointer none] 54)).heap[w.heap.size]? = some (.cells #[.pointer none] 54 (0, 0)) := heap_alloc_new w _
  have ka := as_hit ⟨k, 0, none⟩ ⟨w.heap.size, 0, none⟩ (.pointer none) (w.alloc (.cells #[.pointer none] 54)) (hE.below b0) (celS h0 0 _ rfl) (frzS h0 0)
  have KA := hide ka
  have HK := hide hk
  have B0 := hide b0
  have H0 := hide h0
  have key : ∀ W4, Below (w.alloc (.cells #[.pointer none] 54)).heap.size (w.alloc (.cells #[.pointer none] 54)) W4 → (W4.setCell ⟨w.heap.size, 0, none⟩ (.pointer (some ⟨k, 0, none⟩))).cell? ⟨w.heap.size, 0, none⟩ = some (.pointer (some ⟨k, 0, none⟩)) ∧ (W4.setCell ⟨w.heap.size, 0, none⟩ (.pointer (some ⟨k, 0, none⟩))).cell? ⟨k, 0, none⟩ = some (.int .i64 c) ∧ (W4.setCell ⟨w.heap.size, 0, none⟩ (.pointer (some ⟨k, 0, none⟩))).cell? ⟨k, 1, none⟩ = some (.int .i64 a) ∧ Below w.heap.size w (W4.setCell ⟨w.heap.size, 0, none⟩ (.pointer (some ⟨k, 0, none⟩))) := by
    intro W4 hB
    have hlt : k < w.heap.size := (Array.getElem?_eq_some_iff.1 hk).1
    have r1 : W4.heap[w.heap.size]? = _ := (hB.block _ (Array.getElem?_eq_some_iff.1 h0).1).trans h0
    have r2 := heap_setCell_same W4 w.heap.size 0 _ _ (.pointer (some ⟨k, 0, none⟩)) r1
    have hBw : Below w.heap.size w W4 := bseq b0 hB
    have r3 : W4.heap[k]? = _ := (hBw.block _ hlt).trans hk
    have r4 := (heap_setCell_other W4 ⟨w.heap.size, 0, none⟩ k (.pointer (some ⟨k, 0, none⟩)) (Nat.ne_of_lt hlt)).trans r3
    exact ⟨celS r2 0 _ rfl, celS r4 0 _ rfl, celS r4 1 _ rfl, hBw.setCell (p := ⟨w.heap.size, 0, none⟩) (Nat.le_refl _) _⟩
  have KEY := hide key
  clear ka hk b0 h0 key
  unfold fltV
  by_cases c1 : c = e
  · subst c1
    by_cases c2 : a = at'
    · subst c2
      by_cases c3 : c = 0
      · subst c3
        go_enter Tryz.func14, Tryz.ntmps14
        go_wp2_with (go_at_call 37; refine (KA.out).mono ?_; rintro ev x ⟨rfl, W4, hB4, rfl⟩; obtain ⟨k1, k2, k3, k4⟩ := KEY.out W4 hB4; have K4 := hide k4; clear k4 hB4)
        go_ret
        exact ⟨rfl, K4.out⟩
      · have d3 : (c == 0) = false := by simp [c3]
        have d4 : (c != 0) = true := by simp [c3]
        go_enter Tryz.func14, Tryz.ntmps14
        go_wp2_with (go_at_call 37; refine (KA.out).mono ?_; rintro ev x ⟨rfl, W4, hB4, rfl⟩; obtain ⟨k1, k2, k3, k4⟩ := KEY.out W4 hB4; have K4 := hide k4; clear k4 hB4)
        go_ret
        exact ⟨by simp [c3], K4.out⟩
    · have d2 : (a == at') = false := by simp [c2]
      go_enter Tryz.func14, Tryz.ntmps14
      go_wp2_with (go_at_call 37; refine (KA.out).mono ?_; rintro ev x ⟨rfl, W4, hB4, rfl⟩; obtain ⟨k1, k2, k3, k4⟩ := KEY.out W4 hB4; have K4 := hide k4; clear k4 hB4)
      go_ret
      exact ⟨by simp [c2], K4.out⟩
  · have d1 : (c == e) = false := by simp [c1]
    go_enter Tryz.func14, Tryz.ntmps14
    go_wp2_with (go_at_call 37; refine (KA.out).mono ?_; rintro ev x ⟨rfl, W4, hB4, rfl⟩; obtain ⟨k1, k2, k3, k4⟩ := KEY.out W4 hB4; have K4 := hide k4; clear k4 hB4)
    go_ret
    exact ⟨by simp [c1], K4.out⟩
end Go.Proofs.YtaljllbfedfpoaaGreatDoor
namespace Go.Proofs.YtaljllbfedfpoaaGreatDoor
open Go.RowKit Go.Shelf
set_option linter.unusedVariables false

theorem Sc_blanks {l : List UInt8} {q : Nat} (acc : List Tk) (hq : q ≤ l.length) (h : ∀ b ∈ l.drop q, blankC b.toNat = true) : Sc l q acc = .inl acc := by
  have hs := skp_all _ _ h
  rw [List.length_drop] at hs
  rw [Sc_eq acc hq (show q + skp blankC (l.drop q) = l.length by rw [hs]; omega), if_pos rfl]
theorem blank_head {B : List UInt8} (h : ∀ b ∈ B, blankC b.toNat = true) : B = [] ∨ blankC (by' B 0) = true := by
  cases B with
  | nil => exact .inl rfl
  | cons a t => exact .inr (h a List.mem_cons_self)
theorem alone_run {X B : List UInt8} (hne : X ≠ []) (hX : ∀ b ∈ X, runC b.toNat = true) (hB : ∀ b ∈ B, blankC b.toNat = true) : Sc (X ++ B) 0 [] = .inl [saidT X 0] := by
  rw [Sc_run [] (L := X ++ B) (q := 0) rfl (Nat.zero_le _) hne hX (blank_head hB), Nat.zero_add]
  exact Sc_blanks _ (by rw [List.length_append]; omega) (by rw [List.drop_left]; exact hB)
theorem alone_text {Y B T : List UInt8} {E : Nat} (hQ : Qt Y = (T, E, true)) (hB : ∀ b ∈ B, blankC b.toNat = true) : Sc (34 :: (Y.take E ++ B)) 0 [] = .inl [(3, 0, T, 0)] := by
  have hle := Qt_le Y
  rw [hQ] at hle
  simp only at hle
  have hl := Qt_loc Y.length Y (Nat.le_refl _) T E hQ B
  have hlen : (34 :: (Y.take E ++ B)).length = 1 + E + B.length := by rw [List.length_cons, List.length_append, List.length_take]; omega
  have h0 : 0 + skp blankC ((34 :: (Y.take E ++ B)).drop 0) = 0 := rfl
  have hd : (34 :: (Y.take E ++ B)).drop (0 + 1) = Y.take E ++ B := rfl
  rw [Sc_eq [] (Nat.zero_le _) h0, hlen, if_neg (by omega), if_pos (show by' (34 :: (Y.take E ++ B)) 0 = 34 from rfl), hd, hl]
  simp only [if_true]
  have hd2 : (34 :: (Y.take E ++ B)).drop (0 + 1 + E) = B := by
    rw [show 0 + 1 + E = E + 1 by omega, List.drop_succ_cons, drop_take_app (Nat.le_refl _) hle, Nat.sub_self, List.take_zero, List.nil_append]
  have hb : by' (34 :: (Y.take E ++ B)) (0 + 1 + E) = by' B 0 := by
    have : by' (34 :: (Y.take E ++ B)) (0 + 1 + E) = by' ((34 :: (Y.take E ++ B)).drop (0 + 1 + E)) 0 := by rw [by'_drop _ (0 + 1 + E) 0]; rfl
    rw [this, hd2]
  rw [if_pos]
  · exact Sc_blanks _ (by rw [hlen]; omega) (by rw [hd2]; exact hB)
  · rcases blank_head hB with e | e
    · left; rw [e]; simp
    · right; rw [hb]; exact e
def strip0 (t : Tk) : Tk := (t.1, 0, t.2.2.1, t.2.2.2)
/-- Where the next token begins, or the line ends. -/
def nextAt (l : List UInt8) : List Tk → Nat
  | [] => l.length
  | u :: _ => u.2.1
/-- Tokens as they stand in a line. -/
def Gd (l : List UInt8) : List Tk → Prop
  | [] => True
  | t :: us => okT t ∧ t.2.1 < nextAt l us ∧ nextAt l us ≤ l.length ∧ Sc ((l.drop t.2.1).take (nextAt l us - t.2.1)) 0 [] = .inl [strip0 t] ∧ Gd l us
theorem cut3 (l : List UInt8) {p e N : Nat} (h1 : p ≤ e) (h2 : e ≤ N) : (l.drop p).take (N - p) = (l.drop p).take (e - p) ++ (l.drop e).take (N - e) := by
  rw [show N - p = (e - p) + (N - e) by omega, List.take_add, List.drop_drop, show p + (e - p) = e by omega]
theorem skp_take (is : Nat → Bool) (l : List UInt8) : ∀ b ∈ l.take (skp is l), is b.toNat = true := by
  induction l with
  | nil => intro b hb; simp at hb
  | cons a t ih =>
    simp only [skp]
    split
    · rename_i ha
      intro b hb
      rw [List.take_succ_cons] at hb
      rcases List.mem_cons.1 hb with e | e
      · subst e; exact ha
      · exact ih b e
    · intro b hb; simp at hb
theorem said_ok {X : List UInt8} (p : Nat) (hne : X ≠ []) (hX : ∀ b ∈ X, runC b.toNat = true) : okT (saidT X p) ∧ saidT X 0 = strip0 (saidT X p) ∧ (saidT X p).2.1 = p := by
  unfold saidT strip0
  cases hn : numK X with
  | none => exact ⟨.inl ⟨rfl, isRun_iff.2 ⟨hne, hX⟩, hn, rfl⟩, rfl, rfl⟩
  | some v =>
    obtain ⟨n, rfl⟩ := numK_nonneg hn
    have h2 := ((numK_iff X n).1 hn).2
    exact ⟨.inr (.inl ⟨rfl, rfl, n, rfl, ((rn_iff X 0 n (by omega)).1 h2).2⟩), rfl, rfl⟩
theorem Sc_shape (l : List UInt8) (k : Nat) : ∀ (q : Nat) (acc ts : List Tk), q ≤ l.length → l.length - q ≤ k → Sc l q acc = .inl ts → ∃ us, ts = acc ++ us ∧ Gd l us ∧ nextAt l us = q + skp blankC (l.drop q) := by
  induction k with
  | zero =>
    intro q acc ts hq hk h
    have hqe : q = l.length := by omega
    have hd : l.drop q = [] := List.drop_eq_nil_of_le (by omega)
    have hp : q + skp blankC (l.drop q) = q := by rw [hd]; rfl
    rw [Sc_eq acc hq hp, if_pos hqe] at h
    cases h
    exact ⟨[], by simp, trivial, by rw [hp]; exact hqe.symm⟩
  | succ k ih =>
    intro q acc ts hq hk h
    obtain ⟨p, hp⟩ : ∃ p, q + skp blankC (l.drop q) = p := ⟨_, rfl⟩
    have hsl := skp_le blankC (l.drop q)
    rw [List.length_drop] at hsl
    rw [Sc_eq acc hq hp] at h
    rw [hp]
    by_cases hpe : p = l.length
    · rw [if_pos hpe] at h
      cases h
      exact ⟨[], by simp, trivial, hpe.symm⟩
    · rw [if_neg hpe] at h
      by_cases c34 : by' l p = 34
      · rw [if_pos c34] at h
        obtain ⟨T, E, ok, hQ⟩ : ∃ T E ok, Qt (l.drop (p + 1)) = (T, E, ok) := ⟨_, _, _, rfl⟩
        have hle := Qt_le (l.drop (p + 1))
        rw [hQ, List.length_drop] at hle
        rw [hQ] at h
        simp only at h hle
        cases ok with
        | false => simp at h
        | true =>
          simp only [if_true] at h
          by_cases hc : p + 1 + E = l.length ∨ blankC (by' l (p + 1 + E)) = true
          · rw [if_pos hc] at h
            obtain ⟨us, h1, h2, h3⟩ := ih (p + 1 + E) _ ts (by omega) (by omega) h
            have hs2 := skp_le blankC (l.drop (p + 1 + E))
            rw [List.length_drop] at hs2
            refine ⟨(3, p, T, 0) :: us, by rw [h1]; simp, ⟨.inr (.inr ⟨rfl, rfl⟩), ?_, ?_, ?_, h2⟩, rfl⟩
            · rw [h3]; show p < _; omega
            · rw [h3]; omega
            · rw [h3]
              show Sc ((l.drop p).take (p + 1 + E + skp blankC (l.drop (p + 1 + E)) - p)) 0 [] = _
              rw [cut3 l (show p ≤ p + 1 + E by omega) (by omega), Nat.add_sub_cancel_left]
              have hX : (l.drop p).take (p + 1 + E - p) = 34 :: (l.drop (p + 1)).take E := by
                rw [List.drop_eq_getElem_cons (show p < l.length by omega), show p + 1 + E - p = E + 1 by omega, List.take_succ_cons]
                congr 1
                refine UInt8.toNat_inj.1 ?_
                unfold by' at c34
                rw [List.getElem?_eq_getElem (show p < l.length by omega)] at c34
                exact c34
              rw [hX, List.cons_append]
              exact alone_text hQ (skp_take _ _)
          · rw [if_neg hc] at h; cases h
      · rw [if_neg c34] at h
        have hrl := skp_le runC (l.drop p)
        rw [List.length_drop] at hrl
        by_cases hr : 0 < skp runC (l.drop p)
        · rw [if_pos hr] at h
          by_cases hc : p + skp runC (l.drop p) = l.length ∨ blankC (by' l (p + skp runC (l.drop p))) = true
          · rw [if_pos hc] at h
            obtain ⟨us, h1, h2, h3⟩ := ih (p + skp runC (l.drop p)) _ ts (by omega) (by omega) h
            have hs2 := skp_le blankC (l.drop (p + skp runC (l.drop p)))
            rw [List.length_drop] at hs2
            have hne : (l.drop p).take (skp runC (l.drop p)) ≠ [] := fun e => by
              have h0 := congrArg List.length e
              rw [List.length_take, List.length_drop, List.length_nil] at h0
              omega
            obtain ⟨g1, g2, g3⟩ := said_ok p hne (skp_take runC (l.drop p))
            refine ⟨saidT ((l.drop p).take (skp runC (l.drop p))) p :: us, by rw [h1]; simp, ⟨g1, ?_, ?_, ?_, h2⟩, g3⟩
            · rw [h3, g3]; omega
            · rw [h3]; omega
            · rw [h3, g3, cut3 l (show p ≤ p + skp runC (l.drop p) by omega) (by omega), Nat.add_sub_cancel_left, Nat.add_sub_cancel_left, ← g2]
              exact alone_run hne (skp_take _ _) (skp_take _ _)
          · rw [if_neg hc] at h; cases h
        · rw [if_neg hr] at h; cases h
theorem Sc_good {l : List UInt8} {ts : List Tk} (h : Sc l 0 [] = .inl ts) : Gd l ts := by
  obtain ⟨us, h1, h2, _⟩ := Sc_shape l l.length 0 [] ts (Nat.zero_le _) (by omega) h
  rw [List.nil_append] at h1
  rw [h1]
  exact h2
theorem Gd_ok {l : List UInt8} {ts : List Tk} (h : Gd l ts) : ∀ t ∈ ts, okT t := by
  induction ts with
  | nil => intro t ht; simp at ht
  | cons u us ih =>
    intro t ht
    rcases List.mem_cons.1 ht with e | e
    · subst e; exact h.1
    · exact ih h.2.2.2.2 t e
theorem Gd_at {l : List UInt8} {ts : List Tk} (h : Gd l ts) : ∀ (i : Nat) (t : Tk), ts[i]? = some t → t.2.1 < nextAt l (ts.drop (i + 1)) ∧ nextAt l (ts.drop (i + 1)) ≤ l.length ∧ Sc ((l.drop t.2.1).take (nextAt l (ts.drop (i + 1)) - t.2.1)) 0 [] = .inl [strip0 t] := by
  induction ts with
  | nil => intro i t ht; simp at ht
  | cons u us ih =>
    intro i t ht
    cases i with
    | zero =>
      simp only [List.getElem?_cons_zero, Option.some.injEq] at ht
      subst ht
      exact ⟨h.2.1, h.2.2.1, h.2.2.2.1⟩
    | succ i =>
      simp only [List.getElem?_cons_succ] at ht
      exact ih h.2.2.2.2 i t ht
/-- Tokens of a line may all be. -/
theorem okT_may {t : Tk} (h : okT t) : mayI (toI t) = true := by
  obtain ⟨k, a, tx, n⟩ := t
  rcases h with ⟨h1, h2, h3, h4⟩ | ⟨h1, h2, m, h3, h4⟩ | ⟨h1, h2⟩
  · simp only at h1 h2 h3 h4
    subst h1 h4
    unfold mayI toI
    have e : bl ⟨tx.toArray⟩ = tx := by simp [bl]
    rw [if_pos rfl, e, h2, h3]
    rfl
  · simp only at h1 h2 h3
    subst h1 h2 h3
    simp [mayI, toI, bl]
  · simp only at h1 h2
    subst h1 h2
    simp [mayI, toI]
end Go.Proofs.YtaljllbfedfpoaaGreatDoor
namespace Go.Proofs.YtaljllbfedfpoaaGreatDoor
open Go.RowKit Go.Shelf
set_option linter.unusedVariables false

theorem enc_le4 (z : Int) : (Lib.encodeRune z).length ≤ 4 := by
  unfold Lib.encodeRune Lib.encodeRuneZ
  split <;> (try split) <;> (try split) <;> (try split) <;> simp
theorem escL_text (l : List UInt8) : (escL l).1.length ≤ (escL l).2 := by
  unfold escL
  split
  · split
    · simp
    · split
      · simp
      · split
        · simp
        · split
          · simp
          · split
            · simp
            · split
              · split
                · simp only [List.length_cons, List.length_nil]; omega
                · simp
              · split
                · split
                  · split
                    · simp only
                      have := enc_le4 ((dgF 6 0 (l.drop 3)).1 : Int)
                      omega
                    · simp
                  · simp
                · simp
  · simp
theorem Qt_text (k : Nat) : ∀ (l : List UInt8), l.length ≤ k → (Qt l).1.length ≤ (Qt l).2.1 := by
  induction k with
  | zero =>
    intro l hl
    have : l = [] := List.eq_nil_of_length_eq_zero (by omega)
    subst this
    decide +kernel
  | succ k ih =>
    intro l hl
    by_cases h : 0 < l.length ∧ by' l 0 = 34
    · rw [Qt_close h]; simp
    by_cases h2 : (firstV l).1 = 92
    · by_cases h3 : (escL l).2 = 0
      · rw [Qt_none h h2 h3]; simp
      · rw [Qt_esc h h2 h3]
        have h4 := ih (l.drop (escL l).2) (by rw [List.length_drop]; omega)
        have h5 := escL_text l
        simp only [List.length_append]
        omega
    · by_cases h3 : (firstV l).2.2 = true ∧ plainK (firstV l).1 = true
      · rw [Qt_char h h2 h3]
        have hc := cw_pos l
        have h4 := ih (l.drop (cw l)) (by rw [List.length_drop]; omega)
        simp only [List.length_append, List.length_take]
        omega
      · rw [Qt_fault h h2 h3]; simp
theorem Sc_text (l : List UInt8) (k : Nat) : ∀ (q : Nat) (acc ts : List Tk), q ≤ l.length → l.length - q ≤ k → (∀ t ∈ acc, t.2.2.1.length ≤ l.length) → Sc l q acc = .inl ts → ∀ t ∈ ts, t.2.2.1.length ≤ l.length := by
  induction k with
  | zero =>
    intro q acc ts hq hk ha h
    have hqe : q = l.length := by omega
    have hd : l.drop q = [] := List.drop_eq_nil_of_le (by omega)
    have hp : q + skp blankC (l.drop q) = q := by rw [hd]; rfl
    rw [Sc_eq acc hq hp, if_pos hqe] at h
    cases h
    exact ha
  | succ k ih =>
    intro q acc ts hq hk ha h
    obtain ⟨p, hp⟩ : ∃ p, q + skp blankC (l.drop q) = p := ⟨_, rfl⟩
    have hsl := skp_le blankC (l.drop q)
    rw [List.length_drop] at hsl
    rw [Sc_eq acc hq hp] at h
    by_cases hpe : p = l.length
    · rw [if_pos hpe] at h
      cases h
      exact ha
    · rw [if_neg hpe] at h
      by_cases c34 : by' l p = 34
      · rw [if_pos c34] at h
        have hte := Qt_text _ (l.drop (p + 1)) (Nat.le_refl _)
        obtain ⟨T, E, ok, hQ⟩ : ∃ T E ok, Qt (l.drop (p + 1)) = (T, E, ok) := ⟨_, _, _, rfl⟩
        have hle := Qt_le (l.drop (p + 1))
        rw [hQ, List.length_drop] at hle
        rw [hQ] at h hte
        simp only at h hle hte
        cases ok with
        | false => simp at h
        | true =>
          simp only [if_true] at h
          by_cases hc : p + 1 + E = l.length ∨ blankC (by' l (p + 1 + E)) = true
          · rw [if_pos hc] at h
            refine ih (p + 1 + E) _ ts (by omega) (by omega) (fun t ht => ?_) h
            rcases List.mem_append.1 ht with e | e
            · exact ha t e
            · rw [List.mem_singleton] at e
              subst e
              show T.length ≤ _
              omega
          · rw [if_neg hc] at h; cases h
      · rw [if_neg c34] at h
        have hrl := skp_le runC (l.drop p)
        rw [List.length_drop] at hrl
        by_cases hr : 0 < skp runC (l.drop p)
        · rw [if_pos hr] at h
          by_cases hc : p + skp runC (l.drop p) = l.length ∨ blankC (by' l (p + skp runC (l.drop p))) = true
          · rw [if_pos hc] at h
            refine ih (p + skp runC (l.drop p)) _ ts (by omega) (by omega) (fun t ht => ?_) h
            rcases List.mem_append.1 ht with e | e
            · exact ha t e
            · rw [List.mem_singleton] at e
              subst e
              have hX : ((l.drop p).take (skp runC (l.drop p))).length ≤ l.length := by rw [List.length_take, List.length_drop]; omega
              unfold saidT
              split
              · simp
              · exact hX
          · rw [if_neg hc] at h; cases h
        · rw [if_neg hr] at h; cases h
theorem Sc_small {l : List UInt8} {ts : List Tk} (h : Sc l 0 [] = .inl ts) : ∀ t ∈ ts, t.2.2.1.length ≤ l.length :=
  Sc_text l l.length 0 [] ts (Nat.zero_le _) (by omega) (fun t ht => by simp at ht) h
theorem Gd_len {l : List UInt8} {ts : List Tk} (h : Gd l ts) : ts.length + nextAt l ts ≤ l.length ∨ ts = [] := by
  induction ts with
  | nil => exact .inr rfl
  | cons u us ih =>
    left
    obtain ⟨h1, h2, h3, h4, h5⟩ := h
    simp only [List.length_cons, nextAt]
    rcases ih h5 with e | e
    · omega
    · subst e; simp only [List.length_nil]; omega
theorem Gd_count {l : List UInt8} {ts : List Tk} (h : Gd l ts) : ts.length ≤ l.length := by
  rcases Gd_len h with e | e
  · omega
  · subst e; simp
theorem next_some {l : List UInt8} {ts : List Tk} {i : Nat} {u : Tk} (h : ts[i]? = some u) : nextAt l (ts.drop i) = u.2.1 := by
  obtain ⟨h1, h2⟩ := List.getElem?_eq_some_iff.1 h
  rw [List.drop_eq_getElem_cons h1, h2]
  rfl
theorem next_none {l : List UInt8} {ts : List Tk} {i : Nat} (h : ts.length ≤ i) : nextAt l (ts.drop i) = l.length := by
  rw [List.drop_eq_nil_of_le h]
  rfl
theorem ok_range {t : Tk} (h : okT t) : -9223372036854775808 ≤ t.2.2.2 ∧ t.2.2.2 ≤ 9223372036854775807 := by
  rcases h with ⟨_, _, _, h⟩ | ⟨_, _, m, h, h'⟩ | ⟨_, h⟩ <;> rw [h] <;> omega
/-- What the tokens of a line are printed as. -/
theorem prV_ok {ts : List Tk} (h : ∀ t ∈ ts, okT t) : prV (ts.map toI) = if 16384 < (prJ (ts.map toI)).length then ([], 4) else (prJ (ts.map toI), 0) := by
  unfold prV
  rw [if_pos]
  rw [List.all_eq_true]
  intro x hx
  obtain ⟨t, ht, rfl⟩ := List.mem_map.1 hx
  exact okT_may (h t ht)
theorem strip_at {us ts : List Tk} (h : us.map strip = ts.map strip) : us.length = ts.length ∧ ∀ (i : Nat) (t : Tk), ts[i]? = some t → ∃ a, us[i]? = some (t.1, a, t.2.2.1, t.2.2.2) := by
  refine ⟨by simpa using congrArg List.length h, fun i t ht => ?_⟩
  have h1 := congrArg (fun l => l[i]?) h
  simp only [List.getElem?_map, ht] at h1
  obtain ⟨⟨a, b, c, d⟩, hu, hv⟩ := Option.map_eq_some_iff.1 h1
  simp only [strip, Prod.mk.injEq] at hv
  obtain ⟨rfl, rfl, rfl⟩ := hv
  exact ⟨b, hu⟩
end Go.Proofs.YtaljllbfedfpoaaGreatDoor
namespace Go.Proofs.YtaljllbfedfpoaaGreatDoor
open Go.RowKit Go.Shelf
set_option linter.unusedVariables false

/-- A store into a token of a row that the call owns. -/
theorem own4 {W : World} {base : Nat} {t : TypeId} {v : Value} {n : Nat} {cells : List Value} {k : Nat} (h : W.ownsRow base t 4 v n cells) (hk : k < n) (v0 v1 v2 v3 : Value) :
    ∃ g cap, v = .slice (some ⟨g, 0, none⟩) n cap ∧ n ≤ cap ∧ base ≤ g ∧ g < W.heap.size ∧
      ((∃ a, W.cell? ⟨g, k * 4, none⟩ = some a) ∧ (∃ a, (W.setCell ⟨g, k * 4, none⟩ v0).cell? ⟨g, k * 4 + 1, none⟩ = some a) ∧ (∃ a, ((W.setCell ⟨g, k * 4, none⟩ v0).setCell ⟨g, k * 4 + 1, none⟩ v1).cell? ⟨g, k * 4 + 2, none⟩ = some a) ∧ ∃ a, (((W.setCell ⟨g, k * 4, none⟩ v0).setCell ⟨g, k * 4 + 1, none⟩ v1).setCell ⟨g, k * 4 + 2, none⟩ v2).cell? ⟨g, k * 4 + 3, none⟩ = some a) ∧
      (W.frozen? ⟨g, k * 4, none⟩ = false ∧ W.frozen? ⟨g, k * 4 + 1, none⟩ = false ∧ W.frozen? ⟨g, k * 4 + 2, none⟩ = false ∧ W.frozen? ⟨g, k * 4 + 3, none⟩ = false) ∧
      (∃ cells', ((((W.setCell ⟨g, k * 4, none⟩ v0).setCell ⟨g, k * 4 + 1, none⟩ v1).setCell ⟨g, k * 4 + 2, none⟩ v2).setCell ⟨g, k * 4 + 3, none⟩ v3).ownsRow base t 4 v n cells') ∧
      (∀ j, j ≠ g → ((((W.setCell ⟨g, k * 4, none⟩ v0).setCell ⟨g, k * 4 + 1, none⟩ v1).setCell ⟨g, k * 4 + 2, none⟩ v2).setCell ⟨g, k * 4 + 3, none⟩ v3).heap[j]? = W.heap[j]?) := by
  rcases h.2 with ⟨_, h2⟩ | ⟨g, cap, cur, hv, hg, hh, hnc, hcap, hs, hc⟩
  · omega
  have R1 := heap_setCell_same W g (k * 4) _ _ v0 hh
  have R2 := heap_setCell_same _ g (k * 4 + 1) _ _ v1 R1
  have R3 := heap_setCell_same _ g (k * 4 + 2) _ _ v2 R2
  have R4 := heap_setCell_same _ g (k * 4 + 3) _ _ v3 R3
  have hb : k * 4 + 3 < cur.size := by rw [hs]; omega
  refine ⟨g, cap, hv, hnc, hg, (Array.getElem?_eq_some_iff.1 hh).1, ⟨⟨_, celS hh _ _ (Array.getElem?_eq_getElem (by omega))⟩, ⟨_, celS R1 _ _ (Array.getElem?_eq_getElem (by simp; omega))⟩, ⟨_, celS R2 _ _ (Array.getElem?_eq_getElem (by simp; omega))⟩, ⟨_, celS R3 _ _ (Array.getElem?_eq_getElem (by simp; omega))⟩⟩, ⟨frzS hh _, frzS hh _, frzS hh _, frzS hh _⟩, ⟨_, ?_, .inr ⟨g, cap, _, hv, hg, R4, hnc, hcap, by simp [hs], rfl⟩⟩, fun j hj => ?_⟩
  · rw [List.length_take]
    simp [hs]
    omega
  · exact (((heap_setCell_other _ _ _ _ hj).trans (heap_setCell_other _ _ _ _ hj)).trans (heap_setCell_other _ _ _ _ hj)).trans (heap_setCell_other _ _ _ _ hj)
theorem RowT.down {W : World} {base base' : Nat} {v : Value} {ts : List Tk} (h : RowT W base v ts) (hb : base' ≤ base) : RowT W base' v ts := by
  refine ⟨h.1, ?_⟩
  rcases h.2 with h2 | ⟨g, cap, cur, hv, hg, r⟩
  · exact .inl h2
  · exact .inr ⟨g, cap, cur, hv, Nat.le_trans hb hg, r⟩
set_option maxRecDepth 100000 in
set_option maxHeartbeats 2000000 in
theorem scan_over3 (s : ByteArray) (w : World) (hs : 16384 < s.size) :
    Calls Tryz.prog 12 #[.string s] w fun e w' => ScPost (.inr (4, 0)) w e w' := by
  go_enter Tryz.func12, Tryz.ntmps12
  go_wp2_with (fail)
  refine wp_scope_mixR 0 (fun _ _ => False) (fun _ _ => 0) rfl (fun _ _ h => h.elim) (fun _ => ?_)
  go_wp2_with (fail)
  rw [jumpA_ret]
  go_ret2
  exact ⟨w.heap.size, rfl, Nat.le_refl _, heap_alloc_new w _, (Below.refl _ w).alloc (Nat.le_refl _) _⟩
set_option maxRecDepth 100000 in
set_option maxHeartbeats 2000000 in
theorem rscan_over (s : ByteArray) (w : World) (hs : 16384 < s.size) :
    Calls Tryz.prog 13 #[.string s] w fun e w' => RSc (.inr (4, 0)) w e w' := by
  have hsI : (16384 : Int) < (s.size : Int) := by omega
  go_enter Tryz.func13, Tryz.ntmps13
  go_wp2_with (fail)
  go_ret3
  exact ⟨rfl, Below.refl _ _⟩
/-- What Scan answers, of every line. -/
def RS3 (s : ByteArray) : List Tk ⊕ (Int × Nat) := if 16384 < s.size then .inr (4, 0) else Sc (bl s) 0 []
/-- The tokens, the code, the place. -/
def parts3 : List Tk ⊕ (Int × Nat) → List Tk × Int × Nat
  | .inl ts => (ts, 0, 0)
  | .inr (c, p) => ([], c, p)
theorem row_none (W : World) (base : Nat) : RowT W base (.slice none 0 0) [] := World.ownsRow_nil _ _ _ _
/-- What the walk wants of Scan: a row of the tokens, and an error that is the fault. -/
def SPost (R : List Tk × Int × Nat) (w : World) (e : Ending) (w' : World) : Prop :=
  ∃ v y, e = .returned (.tuple #[v, y]) ∧ RowT w' (w.heap.size + 1) v R.1 ∧ Below w.heap.size w w' ∧ ∀ W', Below w'.heap.size w' W' → LaidE W' → Calls Tryz.prog 14 #[y, .int .i64 R.2.1, .int .i64 (R.2.2 : Int)] W' fun ev w'' => ev = .returned (.bool true) ∧ Below W'.heap.size W' w''
theorem sc_code {l : List UInt8} {c : Int} {p : Nat} (n : Nat) : ∀ q acc, q ≤ l.length → l.length - q ≤ n → Sc l q acc = .inr (c, p) → c = 70 ∨ c = 71 := by
  induction n with
  | zero =>
    intro q acc hq hn h
    have hd : l.drop q = [] := List.drop_eq_nil_of_le (by omega)
    rw [Sc_eq acc hq (p := q) (by rw [hd]; rfl), if_pos (by omega)] at h
    cases h
  | succ n ih =>
    intro q acc hq hn h
    have hsl := skp_le blankC (l.drop q)
    rw [List.length_drop] at hsl
    obtain ⟨x, hx⟩ : ∃ x, q + skp blankC (l.drop q) = x := ⟨_, rfl⟩
    rw [Sc_eq acc hq hx] at h
    split at h
    · cases h
    split at h
    · split at h
      · rename_i h1 h2 h3
        have hp := qt_pos h3
        have hle := Qt_le (l.drop (x + 1))
        rw [List.length_drop] at hle
        split at h
        · exact ih _ _ (by omega) (by omega) h
        · cases h; exact .inl rfl
      · cases h; exact .inr rfl
    · split at h
      · have hle := skp_le runC (l.drop x)
        rw [List.length_drop] at hle
        split at h
        · exact ih _ _ (by omega) (by omega) h
        · cases h; exact .inl rfl
      · cases h; exact .inl rfl
theorem spost_of {R : List Tk ⊕ (Int × Nat)} (hc : ∀ c p, R = .inr (c, p) → c ≠ 0) {w w' : World} {e : Ending} (h : ScPost R w e w') : SPost (parts3 R) w e w' := by
  cases R with
  | inl ts =>
    obtain ⟨v, he, hr, hb⟩ := h
    exact ⟨v, .nilIface, he, hr, hb, fun W' _ _ => (isFault_nil 0 0 W').mono fun ev w'' h => ⟨h.1, by rw [h.2]; exact Below.refl _ _⟩⟩
  | inr f =>
    obtain ⟨c, p⟩ := f
    obtain ⟨k, he, hk, hh, hb⟩ := h
    refine ⟨_, _, he, row_none _ _, hb, fun W' hB hE => (isFault_some k c (p : Int) c (p : Int) W' ((hB.block _ (Array.getElem?_eq_some_iff.1 hh).1).trans hh) hE).mono fun ev w'' h => ⟨?_, h.2⟩⟩
    rw [h.1]
    have := hc c p rfl
    simp [fltV, this]
theorem scan3 (s : ByteArray) (w : World) (hL : LaidW w) : Calls Tryz.prog 12 #[.string s] w fun e w' => SPost (parts3 (RS3 s)) w e w' := by
  unfold RS3
  by_cases h : 16384 < s.size
  · rw [if_pos h]
    exact (scan_over3 s w h).mono fun e w' h => spost_of (fun c p e => by cases e; decide) h
  · rw [if_neg h]
    exact (scan_any s w (by omega) hL).mono fun e w' h => spost_of (fun c p e => by rcases sc_code _ 0 [] (Nat.zero_le _) (Nat.le_refl _) e with rfl | rfl <;> decide) h
theorem rscan3 (s : ByteArray) (w : World) : Calls Tryz.prog 13 #[.string s] w fun e w' => ∃ v, e = .returned (.tuple #[v, .int .i64 (parts3 (RS3 s)).2.1, .int .i64 ((parts3 (RS3 s)).2.2 : Int)]) ∧ RowT w' w.heap.size v (parts3 (RS3 s)).1 ∧ Below w.heap.size w w' := by
  have key : ∀ R e w', RSc R w e w' → ∃ v, e = .returned (.tuple #[v, .int .i64 (parts3 R).2.1, .int .i64 ((parts3 R).2.2 : Int)]) ∧ RowT w' w.heap.size v (parts3 R).1 ∧ Below w.heap.size w w' := by
    intro R e w' h
    cases R with
    | inl ts => exact h
    | inr f => exact ⟨_, h.1, row_none _ _, h.2⟩
  unfold RS3
  by_cases h : 16384 < s.size
  · rw [if_pos h]
    exact (rscan_over s w h).mono (key _)
  · rw [if_neg h]
    exact (rscan_any s w (by omega)).mono (key _)
theorem rs3_count (s : ByteArray) : (parts3 (RS3 s)).1.length ≤ 16384 := by
  unfold RS3
  by_cases h : 16384 < s.size
  · rw [if_pos h]; exact Nat.zero_le _
  · rw [if_neg h]
    cases e : Sc (bl s) 0 [] with
    | inl ts =>
      have := Gd_count (Sc_good e)
      rw [bl_len] at this
      show ts.length ≤ _
      omega
    | inr f => exact Nat.zero_le _
end Go.Proofs.YtaljllbfedfpoaaGreatDoor
namespace Go.Proofs.YtaljllbfedfpoaaGreatDoor
open Go.RowKit Go.Shelf
set_option linter.unusedVariables false

theorem below_dn {W X : World} {n : Nat} (h : X = W.drewN n) : Below W.heap.size W X := by rw [h]; exact below_drewN (Below.refl _ _) n
theorem RowT.low {W : World} {base g n cap : Nat} {ts : List Tk} (h : RowT W base (.slice (some ⟨g, 0, none⟩) n cap) ts) : base ≤ g ∧ g < W.heap.size := by
  rcases h.2 with ⟨h1, _⟩ | ⟨g', cap', cur, hv, hg, hh, _⟩
  · cases h1
  · cases hv
    exact ⟨hg, (Array.getElem?_eq_some_iff.1 hh).1⟩
theorem RowT.own {W : World} {base : Nat} {v : Value} {ts : List Tk} (h : RowT W base v ts) : ∀ j, v.ownBlock = some j → base ≤ j ∧ j < W.heap.size := by
  intro j hj
  rcases h.2 with ⟨h1, _⟩ | ⟨g, cap, cur, hv, hg, hh, _⟩
  · subst h1; cases hj
  · subst hv; cases hj; exact ⟨hg, (Array.getElem?_eq_some_iff.1 hh).1⟩
theorem own_low {W : World} {base : Nat} {t : TypeId} {v : Value} {n : Nat} {cells : List Value} (h : W.ownsRow base t 4 v n cells) : ∀ j, v.ownBlock = some j → base ≤ j ∧ j < W.heap.size := by
  intro j hj
  rcases h.2 with ⟨h1, _⟩ | ⟨g, cap, cur, hv, hg, hh, _⟩
  · subst h1; cases hj
  · subst hv; cases hj; exact ⟨hg, (Array.getElem?_eq_some_iff.1 hh).1⟩
set_option maxRecDepth 100000 in
set_option maxHeartbeats 4000000 in
theorem tokens_road (s : ByteArray) (w : World) (hL : LaidW w) (hZ : LaidZ w) (hE : LaidE w) :
    Calls Tryz.prog 4 #[.string s] w fun e w' => e = .returned (.bool true) ∧ Below w.heap.size w w' := by
  obtain ⟨i0, hi, hz0, hz1, hz2⟩ := info_parts Tryz.infoTk
  have ka := fun W h => scan3 s W h
  have kr := fun W => rscan3 s W
  have hcnt := rs3_count s
  obtain ⟨R, hR⟩ : ∃ R, parts3 (RS3 s) = R := ⟨_, rfl⟩
  rw [hR] at ka kr hcnt
  obtain ⟨ts, c, p⟩ := R
  simp only at kr hcnt
  have KA := hide ka
  have KR := hide kr
  have HL := hide hL
  have HZ := hide hZ
  have HE := hide hE
  have hcI : (ts.length : Int) ≤ 16384 := by omega
  clear ka kr hL hZ hE hR
  go_enter Tryz.func4, Tryz.ntmps4
  go_wp2_with (fail)
  refine (KA.out _ HL.out).mono ?_
  rintro e x1 ⟨v1, y1, rfl, hrow1, hb1, hf1⟩
  have HB1 := hide hb1
  have HROW1 := hide hrow1
  have HF := hide hf1
  clear hrow1 hb1 hf1
  go_wp2_with (fail)
  refine (KA.out _ (HL.out.below HB1.out)).mono ?_
  rintro e x2 ⟨v2, y2, rfl, hrow2, hb2, hf2⟩
  have HB2 := hide (bseq HB1.out hb2)
  have HR1 := hide (HROW1.out.below hb2)
  have HR2 := hide hrow2
  have HX2 := hide hb2
  clear hrow2 hb2 hf2
  go_wp2_with (fail)
  refine (KR.out _).mono ?_
  rintro e x3 ⟨v3, rfl, hrow3, hb3⟩
  have hx23 := hb3.size
  have hx12 := HX2.out.size
  have HB3 := hide (bseq HB2.out hb3)
  have HX3 := hide (bseq HX2.out hb3)
  have hrow1 := HR1.out.below hb3
  have hrow2 := (HR2.out.below hb3).down (show x1.heap.size ≤ x1.heap.size + 1 by omega)
  have hrow3' := hrow3.down (show x1.heap.size ≤ x2.heap.size by omega)
  have ho1 : ∀ j, v1.ownBlock = some j → j < x1.heap.size := fun j h => (HROW1.out.own j h).2
  have HO1 := hide ho1
  have HS1 := hide hrow1
  have HS2 := hide hrow2
  have HS3 := hide hrow3'
  obtain ⟨a1, cap1, hv1, sl1⟩ := hrow1.slk
  obtain ⟨a2, cap2, hv2, sl2⟩ := hrow2.slk
  obtain ⟨a3, cap3, hv3, sl3⟩ := hrow3'.slk
  have km1 := fun W h1 h2 => same_toks a1 a3 cap1 cap3 (ts.map toI) W h1 h2 (by rw [List.length_map]; omega)
  have km2 := fun W h1 h2 => same_toks a2 a3 cap2 cap3 (ts.map toI) W h1 h2 (by rw [List.length_map]; omega)
  rw [List.length_map] at km1 km2
  have SL1 := hide sl1
  have SL2 := hide sl2
  have SL3 := hide sl3
  have KM1 := hide km1
  have KM2 := hide km2
  have KM3 := hide km2
  have HV1 := hide hv1
  have HV2 := hide hv2
  have HV3 := hide hv3
  subst hv1
  subst hv2
  subst hv3
  clear hrow1 hrow2 hrow3' hrow3 hb3 HROW1 HR1 HR2 HX2 km1 km2 sl1 sl2 sl3 ho1 KA KR
  go_upto_region 6 with (first | (go_at_call 14; refine (HF.out _ HX3.out (HE.out.below HB3.out)).mono ?_; rintro e x4 ⟨rfl, hb4⟩; have HB4 := hide (bseq HB3.out hb4); have HX4 := hide hb4; clear hb4) | (go_at_call 15; refine (KM1.out _ (SL1.out.below HX4.out) (SL3.out.below HX4.out)).mono ?_; rintro e x5 ⟨rfl, n5, hx5⟩; have HX5 := hide (bseq HX4.out (below_dn hx5)); clear hx5 KM1 HX4) | (go_at_call 15; refine (KM2.out _ (SL2.out.below HX5.out) (SL3.out.below HX5.out)).mono ?_; rintro e x6 ⟨rfl, n6, hx6⟩; have HX6 := hide (bseq HX5.out (below_dn hx6)); clear hx6 KM2 HX5))
  have r1 := HS1.out.below HX6.out
  have r2 := HS2.out.below HX6.out
  have r3 := HS3.out.below HX6.out
  have hB6 := bseq HB3.out HX6.out
  have hs6 := HX6.out.size
  have hs3 : x1.heap.size ≤ x6.heap.size := by omega
  have HR1 := hide r1
  have HR2 := hide r2
  have HR3 := hide r3
  have HB6 := hide hB6
  clear r1 r2 r3 hB6 HS1 HS2 HS3 HX3 HX6 SL1 SL2 SL3 HV1 HV2 HV3 HF HB1 HB2 HB3 HB4 hx23 hx12 hs6
  go_wp2_with (fail)
  go_loopw [10] (fun i wr => ∃ (k : Nat) (cells : List Value), i = .int .i64 (k : Int) ∧ k ≤ ts.length ∧ wr.ownsRow (w.heap.size + 1) 28 4 (.slice a1 ts.length cap1) ts.length cells ∧ (∀ j, x1.heap.size ≤ j → j < x6.heap.size → wr.heap[j]? = x6.heap[j]?) ∧ x6.heap.size ≤ wr.heap.size ∧ Below w.heap.size w wr) (fun i _ => ts.length - (intOf i).toNat)
  case atStart => exact ⟨0, _, rfl, Nat.zero_le _, HR1.out, fun _ _ _ => rfl, Nat.le_refl _, HB6.out⟩
  case round =>
    clear HR1 HB6
    obtain ⟨k, cells, rfl, hk, hown, hoth, hsz, hB⟩ := hrel
    have HOTH := hide hoth
    have HB := hide hB
    clear hoth hB
    by_cases hlt : k < ts.length
    · obtain ⟨g, cap, hv, hnc, hg, hgl, ⟨⟨e0, f0⟩, ⟨e1, f1⟩, ⟨e2, f2⟩, ⟨e3, f3⟩⟩, ⟨z0, z1, z2, z3⟩, ⟨cells', hown'⟩, hoth'⟩ := own4 hown hlt (.int .i64 (-1)) (.int .i64 (k : Int)) (.string ⟨#[]⟩) (.int .i64 0)
      cases hv
      have hgo := HO1.out g rfl
      have HOWN := hide hown'
      have HOTH2 := hide hoth'
      have hltI : (k : Int) < (ts.length : Int) := by omega
      clear hown hown' hoth'
      go_wp2_with (fail)
      go_roundw
      case rel =>
        refine ⟨k + 1, cells', by go_num, by omega, HOWN.out, fun j h1 h2 => (HOTH2.out j (by omega)).trans (HOTH.out j h1 h2), by simpa [World.setCell] using hsz, ?_⟩
        exact (((HB.out.setCell (p := ⟨g, k * 4, none⟩) (show w.heap.size ≤ g by omega) _).setCell (p := ⟨g, k * 4 + 1, none⟩) (show w.heap.size ≤ g by omega) _).setCell (p := ⟨g, k * 4 + 2, none⟩) (show w.heap.size ≤ g by omega) _).setCell (p := ⟨g, k * 4 + 3, none⟩) (show w.heap.size ≤ g by omega) _
      case measure => simp [intOf]; omega
    · have hge : (ts.length : Int) ≤ (k : Int) := by omega
      have hd1 : decide ((k : Int) < (ts.length : Int)) = false := decide_eq_false (by omega)
      have hd2 : decide (k < ts.length) = false := decide_eq_false (by omega)
      have HOWN := hide hown
      clear hown
      obtain ⟨Y, hYw⟩ : ∃ Y, Y = wr := ⟨_, rfl⟩
      subst hYw
      go_wp2_with (fail)
      go_loopw [3, 11] (fun v i wr => ∃ (m : Nat) (cells : List Value), i = .int .i64 (m : Int) ∧ m ≤ 20 ∧ wr.ownsRow (w.heap.size + 1) 28 4 v (ts.length + m) cells ∧ (∀ j, x1.heap.size ≤ j → j < x6.heap.size → wr.heap[j]? = x6.heap[j]? ∧ v.ownBlock ≠ some j) ∧ x6.heap.size ≤ wr.heap.size ∧ Below w.heap.size w wr) (fun _ i _ => 20 - (intOf i).toNat)
      case atStart => exact ⟨0, _, rfl, by omega, HOWN.out, fun j h1 h2 => ⟨HOTH.out j h1 h2, fun e => by have := HO1.out j e; omega⟩, hsz, HB.out⟩
      case round =>
        clear HOWN HOTH HB hsz
        obtain ⟨m, cells2, rfl, hm, hown, hoth, hsz, hB⟩ := hrel
        have HO := hide hown
        have HOTH := hide hoth
        have HB := hide hB
        have hBs := hB.size
        clear hown hoth hB
        by_cases hlt2 : m < 20
        · have hlt2I : (m : Int) < 20 := by omega
          go_wp2_with (at_builtin; refine wpList_append_own_at _ rfl _ _ 29 rfl (w.heap.size + 1) 28 i0 (.agg #[.int .i64 0, .int .i64 0, .string ⟨#[]⟩, .int .i64 0]) 4 40 Tryz.underlying29 hi hz0 hz1 hz2 rfl (by decide) u3 (ts.length + m) cells2 rfl (HO.out.alloc _) ⟨wr.heap.size, 0, none⟩ 1 1 [.int .i64 (-2), .int .i64 0, .string ⟨#[]⟩, .int .i64 0] rfl rfl (cell4_new _ _ _ _ _ _) (by simp [Value.oneCell']) (by unfold maxLen; omega) (by omega) (by simp; omega) ?_; intro v' w' hown' hgrow' _ hblk)
          go_roundw
          case rel =>
            have hBa := HB.out.alloc HB.out.size (.cells #[.int .i64 (-2), .int .i64 0, .string ⟨#[]⟩, .int .i64 0] 28)
            have hgs := hgrow'.size
            refine ⟨m + 1, _, by go_num, by omega, hown', fun j h1 h2 => ?_, by simp at hgs; omega, hBa.grown hgrow' hBa.size (fun j e => by have := (own_low HO.out j e).1; omega)⟩
            obtain ⟨e1, e2⟩ := HOTH.out j h1 h2
            refine ⟨?_, ?_⟩
            · rw [hgrow'.block j (by simp only [World.size_alloc]; omega) (fun e => e2 e.symm), Below.heap_alloc _ _ _ (by omega)]
              exact e1
            · rcases hblk with h | h
              · rw [h]; exact e2
              · rw [h]
                intro e
                simp only [World.size_alloc, Option.some.injEq] at e
                omega
          case measure => simp [intOf]; omega
        · have hge2 : (20 : Int) ≤ (m : Int) := by omega
          have r2 := HR2.out.keep (W' := wr) (fun j h1 h2 => (HOTH.out j h1 h2).1)
          have r3 := HR3.out.keep (W' := wr) (fun j h1 h2 => (HOTH.out j h1 h2).1)
          obtain ⟨b2, d2, hb2, sl2⟩ := r2.slk
          obtain ⟨b3, d3, hb3, sl3⟩ := r3.slk
          cases hb2
          cases hb3
          have SL2 := hide sl2
          have SL3 := hide sl3
          clear r2 r3 sl2 sl3 HOTH HO
          go_wp2_with (first | (go_at_call 15; refine (KM3.out _ SL2.out SL3.out).mono ?_; rintro e x7 ⟨rfl, n7, hx7⟩; have HB7 := hide (bseq HB.out (below_dn hx7)); clear hx7 KM3) | (go_at_call 11; refine (works_any _ (HL.out.below HB7.out) (HZ.out.below HB7.out)).mono ?_; rintro e q ⟨rfl, hq⟩))
          go_ret
          exact ⟨rfl, bseq HB7.out hq⟩
end Go.Proofs.YtaljllbfedfpoaaGreatDoor
