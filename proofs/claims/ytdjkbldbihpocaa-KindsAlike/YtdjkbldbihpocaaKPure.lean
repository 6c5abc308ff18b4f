/- What follows of the lists of runes: kinds that do not overlap, what is folded stays, and keeps its kind. -/
import Derived.Test.YtdjkbldbihpocaaKRune
import Derived.Lib.RuneBytes
namespace Go.Proofs.Ytdjkbldbihpocaa
open Go.RowKit
set_option linter.unusedVariables false

/-- The rows by which runes are folded: from, to, each how many, how much is added. -/
def foldRows : List (Int × Int × Int × Int) := [(65, 90, 1, 32), (192, 214, 1, 32), (216, 222, 1, 32), (256, 302, 2, 1), (306, 310, 2, 1), (313, 327, 2, 1), (330, 374, 2, 1), (376, 376, 1, -121), (377, 381, 2, 1), (383, 383, 1, -268), (902, 902, 1, 38), (904, 906, 1, 37), (908, 908, 1, 64), (910, 911, 1, 63), (913, 929, 1, 32), (931, 939, 1, 32), (962, 962, 1, 1), (984, 1006, 2, 1), (1024, 1039, 1, 80), (1040, 1071, 1, 32), (1120, 1152, 2, 1), (1162, 1214, 2, 1), (1217, 1229, 2, 1), (1232, 1326, 2, 1), (1329, 1366, 1, 48), (7680, 7828, 2, 1), (7838, 7838, 1, -7615), (7840, 7934, 2, 1), (8486, 8486, 1, -7517), (8490, 8490, 1, -8383), (8491, 8491, 1, -8262), (8544, 8559, 1, 16), (9398, 9423, 1, 26), (65313, 65338, 1, 32), (66560, 66599, 1, 40)]
/-- A row says of a rune what becomes of it. -/
def hit (r : Int) (x : Int × Int × Int × Int) : Prop := x.1 ≤ r ∧ r ≤ x.2.1 ∧ (r - x.1) % x.2.2.1 = 0
theorem inL_mem {l : List (Int × Int)} {r : Int} (h : inL l r = true) : ∃ p ∈ l, p.1 ≤ r ∧ r ≤ p.2 := by
  unfold inL inB at h
  rw [List.any_eq_true] at h
  obtain ⟨p, hp, h⟩ := h
  rw [Bool.and_eq_true, decide_eq_true_eq, decide_eq_true_eq] at h
  exact ⟨p, hp, h⟩
theorem inO_mem {l : List Int} {r : Int} (h : inO l r = true) : r ∈ l := by
  unfold inO at h
  rw [List.any_eq_true] at h
  obtain ⟨p, hp, h⟩ := h
  have e : r = p := by simpa using h
  rw [e]; exact hp
theorem inO_not {l : List Int} {r : Int} (h : r ∉ l) : inO l r = false := by
  cases e : inO l r with
  | false => rfl
  | true => exact absurd (inO_mem e) h
theorem wrap32_id (n : Int) (h : -2147483648 ≤ n ∧ n ≤ 2147483647) : wrap32 n = n := by unfold wrap32; omega
theorem rows_bd : ∀ x ∈ foldRows, 65 ≤ x.1 ∧ x.2.1 ≤ 66599 ∧ -10000 ≤ x.2.2.2 ∧ x.2.2.2 ≤ 100 := by decide
theorem add_row {l : List (Int × Int)} {r d : Int} (hl : ∀ p ∈ l, (p.1, p.2, 1, d) ∈ foldRows) (h : inL l r = true) : ∃ x ∈ foldRows, hit r x ∧ wrap32 (r + d) = r + x.2.2.2 := by
  obtain ⟨p, hp, h1, h2⟩ := inL_mem h
  refine ⟨_, hl p hp, ⟨h1, h2, by simp [Int.emod_one]⟩, ?_⟩
  have := rows_bd _ (hl p hp)
  simp only at this
  exact wrap32_id _ (by omega)
theorem even_rows : ∀ p ∈ evenL, (p.1, p.2, 2, 1) ∈ foldRows ∧ p.1 % 2 = 0 := by decide
theorem odd_rows : ∀ p ∈ oddL, (p.1, p.2, 2, 1) ∈ foldRows ∧ p.1 % 2 = 1 := by decide
theorem pair_row {r : Int} (h : pairsK r = true) : ∃ x ∈ foldRows, hit r x ∧ wrap32 (r + 1) = r + x.2.2.2 := by
  unfold pairsK at h
  split at h
  · obtain ⟨p, hp, h1, h2⟩ := inL_mem (by assumption)
    obtain ⟨hr, he⟩ := even_rows p hp
    have hb := rows_bd _ hr
    simp only at hb
    have e : Int.tmod r 2 = 0 := by simpa using h
    rw [Int.tmod_eq_emod_of_nonneg (by omega)] at e
    exact ⟨_, hr, ⟨h1, h2, by simp only; omega⟩, wrap32_id _ (by omega)⟩
  · split at h
    · obtain ⟨p, hp, h1, h2⟩ := inL_mem (by assumption)
      obtain ⟨hr, he⟩ := odd_rows p hp
      have hb := rows_bd _ hr
      simp only at hb
      have e : Int.tmod r 2 = 1 := by simpa using h
      rw [Int.tmod_eq_emod_of_nonneg (by omega)] at e
      exact ⟨_, hr, ⟨h1, h2, by simp only; omega⟩, wrap32_id _ (by omega)⟩
    · cases h
theorem one_row {r v u : Int} (hl : (v, v, 1, u - v) ∈ foldRows) (h : (r == v) = true) : ∃ x ∈ foldRows, hit r x ∧ u = r + x.2.2.2 := by
  have e : r = v := by simpa using h
  subst e
  exact ⟨_, hl, ⟨Int.le_refl _, Int.le_refl _, by simp⟩, by simp only; omega⟩
def madeOf (r v : Int) : Prop := v = r ∨ ∃ x ∈ foldRows, hit r x ∧ v = r + x.2.2.2
theorem made_if {c : Bool} {r a b : Int} (h : c = true → madeOf r a) (k : madeOf r b) : madeOf r (if c then a else b) := by
  cases c with
  | true => exact h rfl
  | false => exact k
theorem made_single (r : Int) : madeOf r (singleK r) := by
  unfold singleK
  refine made_if (fun h => .inr (one_row (v := 376) (by decide) h)) ?_
  refine made_if (fun h => .inr (one_row (v := 383) (by decide) h)) ?_
  refine made_if (fun h => .inr (one_row (v := 902) (by decide) h)) ?_
  refine made_if (fun h => .inr (one_row (v := 908) (by decide) h)) ?_
  refine made_if (fun h => .inr (one_row (v := 962) (by decide) h)) ?_
  refine made_if (fun h => .inr (one_row (v := 7838) (by decide) h)) ?_
  refine made_if (fun h => .inr (one_row (v := 8486) (by decide) h)) ?_
  refine made_if (fun h => .inr (one_row (v := 8490) (by decide) h)) ?_
  refine made_if (fun h => .inr (one_row (v := 8491) (by decide) h)) ?_
  exact .inl rfl
theorem fold_cases (r : Int) : madeOf r (foldK r) := by
  unfold foldK
  refine made_if (fun h => .inr (pair_row h)) ?_
  refine made_if (fun h => .inr (add_row (l := addL0) (by decide) h)) ?_
  refine made_if (fun h => .inr (add_row (l := addL1) (by decide) h)) ?_
  refine made_if (fun h => .inr (add_row (l := addL2) (by decide) h)) ?_
  refine made_if (fun h => .inr (add_row (l := addL3) (by decide) h)) ?_
  refine made_if (fun h => .inr (add_row (l := addL4) (by decide) h)) ?_
  refine made_if (fun h => .inr (add_row (l := addL5) (by decide) h)) ?_
  refine made_if (fun h => .inr (add_row (l := addL6) (by decide) h)) ?_
  refine made_if (fun h => .inr (add_row (l := addL7) (by decide) h)) ?_
  exact made_single r

/-- No row says anything of what another one makes. -/
def apartB (x y : Int × Int × Int × Int) : Bool := decide (x.2.1 + x.2.2.2 < y.1) || decide (y.2.1 < x.1 + x.2.2.2) || (x.2.2.1 == 2 && y.2.2.1 == 2 && (x.1 + x.2.2.2 - y.1) % 2 == 1)
theorem rows_apart : (foldRows.all fun x => foldRows.all fun y => apartB x y) = true := by decide +kernel
theorem fold_fold (r : Int) : foldK (foldK r) = foldK r := by
  rcases fold_cases r with h | ⟨x, hx, hh, h⟩
  · rw [h, h]
  · rw [h]
    rcases fold_cases (r + x.2.2.2) with h' | ⟨y, hy, hk, h'⟩
    · exact h'
    · exfalso
      have ha := rows_apart
      rw [List.all_eq_true] at ha
      have ha := ha x hx
      rw [List.all_eq_true] at ha
      have ha := ha y hy
      unfold apartB at ha
      simp only [Bool.or_eq_true, Bool.and_eq_true, decide_eq_true_eq, beq_iff_eq] at ha
      obtain ⟨a1, a2, a3⟩ := hh
      obtain ⟨b1, b2, b3⟩ := hk
      rcases ha with (h1 | h1) | ⟨⟨h1, h2⟩, h3⟩
      · omega
      · omega
      · rw [h1] at a3; rw [h2] at b3; omega
/-- A list of ranges says the same of all that a row speaks of and of what it makes of them. -/
def sameB (x : Int × Int × Int × Int) (p : Int × Int) : Bool :=
  ((decide (x.2.1 < p.1) || decide (p.2 < x.1)) && (decide (x.2.1 + x.2.2.2 < p.1) || decide (p.2 < x.1 + x.2.2.2))) || (decide (p.1 ≤ x.1) && decide (x.2.1 ≤ p.2) && decide (p.1 ≤ x.1 + x.2.2.2) && decide (x.2.1 + x.2.2.2 ≤ p.2))
theorem same_in {x : Int × Int × Int × Int} {p : Int × Int} {r : Int} (h : sameB x p = true) (hr : hit r x) : inB (r + x.2.2.2) p.1 p.2 = inB r p.1 p.2 := by
  unfold sameB at h
  simp only [Bool.or_eq_true, Bool.and_eq_true, decide_eq_true_eq] at h
  obtain ⟨a1, a2, -⟩ := hr
  unfold inB
  rw [Bool.eq_iff_iff]
  simp only [Bool.and_eq_true, decide_eq_true_eq]
  omega
theorem same_list {l : List (Int × Int)} (hl : (foldRows.all fun x => l.all fun p => sameB x p) = true) {x : Int × Int × Int × Int} (hx : x ∈ foldRows) {r : Int} (hr : hit r x) : inL l (r + x.2.2.2) = inL l r := by
  rw [List.all_eq_true] at hl
  have hl := hl x hx
  rw [List.all_eq_true] at hl
  unfold inL
  rw [Bool.eq_iff_iff, List.any_eq_true, List.any_eq_true]
  constructor
  · rintro ⟨p, hp, h⟩; exact ⟨p, hp, (same_in (hl p hp) hr).symm.trans h⟩
  · rintro ⟨p, hp, h⟩; exact ⟨p, hp, (same_in (hl p hp) hr).trans h⟩
theorem inO_inL (l : List Int) (r : Int) : inO l r = inL (l.map fun b => (b, b)) r := by
  unfold inO inL inB
  rw [List.any_map]
  rw [Bool.eq_iff_iff, List.any_eq_true, List.any_eq_true]
  constructor
  · rintro ⟨p, hp, h⟩; exact ⟨p, hp, by simp at h ⊢; omega⟩
  · rintro ⟨p, hp, h⟩; exact ⟨p, hp, by simp at h ⊢; omega⟩
theorem rows_blank : (foldRows.all fun x => (blankL.map fun b => (b, b)).all fun p => sameB x p) = true := by decide +kernel
theorem rows_zero : (foldRows.all fun x => zeroL.all fun p => sameB x p) = true := by decide +kernel
theorem rows_zerom : (foldRows.all fun x => zeroM.all fun p => sameB x p) = true := by decide +kernel
theorem rows_feff : (foldRows.all fun x => [(65279, 65279)].all fun p => sameB x p) = true := by decide +kernel
theorem rows_two : (foldRows.all fun x => twoL.all fun p => sameB x p) = true := by decide +kernel
theorem fold_blank (r : Int) : blankK (foldK r) = blankK r := by
  rcases fold_cases r with h | ⟨x, hx, hh, h⟩
  · rw [h]
  · rw [h]; unfold blankK; rw [inO_inL, inO_inL]; exact same_list rows_blank hx hh
theorem eq_inL (r v : Int) : (r == v) = inL [(v, v)] r := by
  unfold inL inB; rw [Bool.eq_iff_iff]; simp; omega
theorem fold_width (r : Int) : widthK (foldK r) = widthK r := by
  rcases fold_cases r with h | ⟨x, hx, hh, h⟩
  · rw [h]
  · rw [h]; unfold widthK; rw [eq_inL, eq_inL, same_list rows_zero hx hh, same_list rows_zerom hx hh, same_list rows_feff hx hh, same_list rows_two hx hh]
theorem blank_words : ∀ b ∈ blankL, wordK b = false := by decide +kernel
theorem blank_word {r : Int} (h : blankK r = true) : wordK r = false := blank_words r (inO_mem h)
theorem end_blanks : ∀ b ∈ endL, blankK b = true ∧ widthK b = 0 := by decide +kernel
theorem end_blank {r : Int} (h : endK r = true) : blankK r = true ∧ widthK r = 0 := end_blanks r (inO_mem h)
theorem widthK_in (r : Int) : widthK r = 0 ∨ widthK r = 1 ∨ widthK r = 2 := by
  unfold widthK; split; exact .inl rfl; split; exact .inr (.inr rfl); exact .inr (.inl rfl)

/-- Runes that rows speak of, and what becomes of them: none is FFFD, all may be. -/
theorem rows_plain : (foldRows.all fun x => (decide (x.2.1 < 55296) || decide (57343 < x.1)) && (decide (x.2.1 + x.2.2.2 < 55296) || decide (57343 < x.1 + x.2.2.2)) && (decide (x.2.1 < 65533) || decide (65533 < x.1)) && (decide (x.2.1 + x.2.2.2 < 65533) || decide (65533 < x.1 + x.2.2.2)) && decide (0 ≤ x.1) && decide (x.2.1 ≤ 1114111) && decide (0 ≤ x.1 + x.2.2.2) && decide (x.2.1 + x.2.2.2 ≤ 1114111)) = true := by decide +kernel
/-- A rune that may be, and is not FFFD. -/
def plainR (r : Int) : Prop := 0 ≤ r ∧ r ≤ 1114111 ∧ ¬ (55296 ≤ r ∧ r ≤ 57343) ∧ r ≠ 65533
theorem fold_plain (r : Int) : foldK r = r ∨ (plainR r ∧ plainR (foldK r)) := by
  rcases fold_cases r with h | ⟨x, hx, hh, h⟩
  · exact .inl h
  · right
    rw [h]
    have hp := rows_plain
    rw [List.all_eq_true] at hp
    have hp := hp x hx
    simp only [Bool.or_eq_true, Bool.and_eq_true, decide_eq_true_eq] at hp
    obtain ⟨a1, a2, -⟩ := hh
    unfold plainR
    omega
theorem toU8 {a b : Int} (ha : 0 ≤ a ∧ a < 256) (hb : 0 ≤ b ∧ b < 256) (h : a.toNat.toUInt8 = b.toNat.toUInt8) : a = b := by
  have h2 := congrArg UInt8.toNat h
  have ea : a.toNat.toUInt8.toNat = a.toNat := by simp; omega
  have eb : b.toNat.toUInt8.toNat = b.toNat := by simp; omega
  rw [ea, eb] at h2
  omega
theorem enc_plain {r : Int} (h : plainR r) : Lib.encodeRune r ≠ [239, 191, 189] := by
  obtain ⟨h0, h1, h2, h3⟩ := h
  unfold Lib.encodeRune
  by_cases c1 : r ≤ 127
  · rw [Lib.encodeRuneZ_one h0 c1]; intro e; simp at e
  · by_cases c2 : r ≤ 2047
    · rw [Lib.encodeRuneZ_two (by omega) c2]; intro e; simp at e
    · by_cases c3 : r ≤ 65535
      · rw [Lib.encodeRuneZ_three (by omega)]
        intro e
        simp only [List.map_cons, List.map_nil, List.cons.injEq, and_true] at e
        obtain ⟨e1, e2, e3⟩ := e
        have f1 := toU8 (a := 224 + r / 4096) (b := 239) (by omega) (by omega) e1
        have f2 := toU8 (a := 128 + r / 64 % 64) (b := 191) (by omega) (by omega) e2
        have f3 := toU8 (a := 128 + r % 64) (b := 189) (by omega) (by omega) e3
        omega
      · rw [Lib.encodeRuneZ_four (by omega) h1]; intro e; simp at e
theorem encode_list (z : Int) : Utf8.encode z = ⟨(Lib.encodeRune z).toArray⟩ := by
  unfold Utf8.encode Lib.encodeRune
  have hv : Utf8.valid z = decide ((0 ≤ z ∧ z < 55296) ∨ (57343 < z ∧ z ≤ 1114111)) := by
    unfold Utf8.valid
    rw [Bool.eq_iff_iff]
    simp only [Bool.or_eq_true, Bool.and_eq_true, decide_eq_true_eq]
    omega
  rw [hv]
  by_cases hm : (0 ≤ z ∧ z < 55296) ∨ (57343 < z ∧ z ≤ 1114111)
  · rw [decide_eq_true hm]
    simp only [if_true]
    obtain ⟨n, rfl⟩ : ∃ n : Nat, z = (n : Int) := ⟨z.toNat, by omega⟩
    rw [Int.toNat_natCast]
    by_cases h1 : n < 128
    · rw [Lib.encodeRuneZ_one (by omega) (by omega), if_pos h1]; rfl
    · rw [if_neg h1]
      by_cases h2 : n < 2048
      · rw [Lib.encodeRuneZ_two (by omega) (by omega), if_pos h2]; rfl
      · rw [if_neg h2]
        by_cases h3 : n < 65536
        · rw [Lib.encodeRuneZ_three (by omega), if_pos h3]; rfl
        · rw [Lib.encodeRuneZ_four (by omega) (by omega), if_neg h3]; rfl
  · rw [decide_eq_false hm, Lib.encodeRuneZ_bad (by omega)]
    simp only [Bool.false_eq_true, if_false, Utf8.runeError]
    rfl
theorem encode_size (z : Int) : (Utf8.encode z).size ≤ 4 := by
  rw [encode_list]
  have := Lib.runeCells_le z
  rw [Lib.runeCells_length] at this
  simpa [ByteArray.size] using this.2
theorem encode_plain {r : Int} (h : plainR r) : Utf8.encode r ≠ ⟨#[239, 191, 189]⟩ := by
  rw [encode_list]
  intro e
  refine enc_plain h ?_
  have := congrArg (fun b : ByteArray => b.data.toList) e
  simpa using this
end Go.Proofs.Ytdjkbldbihpocaa
