/- What utf.Runes answers, of every text of bounded size: the runes, in memory of its own; and what sameRunes answers. -/
import Derived.Test.YtedfnppekikcpaaUChars
import Derived.Test.YtedfnppekikcpaaXRowMJoined
import Derived.Lib.RuneBytes
import Derived.Test.YtedfnppekikcpaaUPlaces
import Derived.WalkLawsBesides
import Derived.Deep.QuietTactic
import Derived.BigQuiet
import Derived.Laws.ShiftsVar
import Derived.OwnWalk
import Derived.WalkSmall
import Derived.Lib.OthersKept
namespace Go.Proofs.Ytedfnppekikcpaa
open Go.RowKit
set_option linter.unusedVariables false

/-- A rune, or what stands for one that may not be. -/
def fixZ (z : Int) : Int := if mayB z = true then z else 65533
theorem fixZ_may {z : Int} (h : mayB z = true) : fixZ z = z := by unfold fixZ; rw [if_pos h]
theorem fixZ_not {z : Int} (h : ¬ mayB z = true) : fixZ z = 65533 := by unfold fixZ; rw [if_neg h]
theorem u8_nat (n : Nat) (h : n < 256) : (n.toUInt8).toNat = n := by
  simp [Nat.toUInt8, UInt8.toNat_ofNat']; omega
theorem enc_nat (n : Nat) : Lib.encodeRune (n : Int) = (if n ≤ 127 then [n.toUInt8] else if n ≤ 2047 then [(192 + n / 64).toUInt8, (128 + n % 64).toUInt8] else if n < 55296 ∨ (57343 < n ∧ n ≤ 65535) then [(224 + n / 4096).toUInt8, (128 + n / 64 % 64).toUInt8, (128 + n % 64).toUInt8] else if 65536 ≤ n ∧ n ≤ 1114111 then [(240 + n / 262144).toUInt8, (128 + n / 4096 % 64).toUInt8, (128 + n / 64 % 64).toUInt8, (128 + n % 64).toUInt8] else [239, 191, 189]) := by
  unfold Lib.encodeRune
  by_cases h1 : n ≤ 127
  · rw [if_pos h1, Lib.encodeRuneZ_one (by omega) (by omega)]; simp
  · rw [if_neg h1]
    by_cases h2 : n ≤ 2047
    · rw [if_pos h2, Lib.encodeRuneZ_two (by omega) (by omega)]
      have e1 : (192 + (n : Int) / 64).toNat = 192 + n / 64 := by omega
      have e2 : (128 + (n : Int) % 64).toNat = 128 + n % 64 := by omega
      simp only [List.map_cons, List.map_nil, e1, e2]
    · rw [if_neg h2]
      by_cases h3 : n < 55296 ∨ (57343 < n ∧ n ≤ 65535)
      · rw [if_pos h3, Lib.encodeRuneZ_three (by omega)]
        have e1 : (224 + (n : Int) / 4096).toNat = 224 + n / 4096 := by omega
        have e2 : (128 + (n : Int) / 64 % 64).toNat = 128 + n / 64 % 64 := by omega
        have e3 : (128 + (n : Int) % 64).toNat = 128 + n % 64 := by omega
        simp only [List.map_cons, List.map_nil, e1, e2, e3]
      · rw [if_neg h3]
        by_cases h4 : 65536 ≤ n ∧ n ≤ 1114111
        · rw [if_pos h4, Lib.encodeRuneZ_four (by omega) (by omega)]
          have e1 : (240 + (n : Int) / 262144).toNat = 240 + n / 262144 := by omega
          have e2 : (128 + (n : Int) / 4096 % 64).toNat = 128 + n / 4096 % 64 := by omega
          have e3 : (128 + (n : Int) / 64 % 64).toNat = 128 + n / 64 % 64 := by omega
          have e4 : (128 + (n : Int) % 64).toNat = 128 + n % 64 := by omega
          simp only [List.map_cons, List.map_nil, e1, e2, e3, e4]
        · rw [if_neg h4, Lib.encodeRuneZ_bad (by omega)]; rfl
theorem enc_bad {z : Int} (h : ¬ mayB z = true) : Lib.encodeRune z = [239, 191, 189] := by
  rw [mayB_iff] at h
  unfold Lib.encodeRune
  rw [Lib.encodeRuneZ_bad (by omega)]; rfl
theorem enc_fix (z : Int) : Lib.encodeRune (fixZ z) = Lib.encodeRune z := by
  by_cases h : mayB z = true
  · rw [fixZ_may h]
  · rw [fixZ_not h, enc_bad h, show (65533 : Int) = ((65533 : Nat) : Int) from rfl, enc_nat]; rfl
theorem by0 (a : UInt8) (l : List UInt8) : by' (a :: l) 0 = a.toNat := rfl
theorem byS (a : UInt8) (l : List UInt8) (k : Nat) : by' (a :: l) (k + 1) = by' l k := rfl
/-- What is encoded is decoded, whatever stands behind. -/
theorem dec_enc_nat (n : Nat) (h : n ≤ 1114111 ∧ (n < 55296 ∨ 57343 < n)) (rest : List UInt8) : W (Lib.encodeRune (n : Int) ++ rest) = (Lib.encodeRune (n : Int)).length ∧ rune (Lib.encodeRune (n : Int) ++ rest) = n := by
  rw [enc_nat]
  by_cases h1 : n ≤ 127
  · rw [if_pos h1]
    have b0 : by' ([n.toUInt8] ++ rest) 0 = n := u8_nat n (by omega)
    have hw : W ([n.toUInt8] ++ rest) = 1 := by unfold W; rw [wd_1, b0]; omega
    refine ⟨hw, ?_⟩
    unfold rune
    rw [hw, b0]; rfl
  · rw [if_neg h1]
    by_cases h2 : n ≤ 2047
    · rw [if_pos h2]
      generalize hl : [(192 + n / 64).toUInt8, (128 + n % 64).toUInt8] ++ rest = l
      have b0 : by' l 0 = 192 + n / 64 := by rw [← hl]; exact u8_nat _ (by omega)
      have b1 : by' l 1 = 128 + n % 64 := by rw [← hl]; exact u8_nat _ (by omega)
      have hw : W l = 2 := by unfold W; rw [wd_2, need2, b0, b1]; omega
      refine ⟨hw, ?_⟩
      unfold rune
      rw [hw, b0, b1]
      simp only [num]
      simp
      omega
    · rw [if_neg h2]
      by_cases h3 : n < 55296 ∨ (57343 < n ∧ n ≤ 65535)
      · rw [if_pos h3]
        generalize hl : [(224 + n / 4096).toUInt8, (128 + n / 64 % 64).toUInt8, (128 + n % 64).toUInt8] ++ rest = l
        have b0 : by' l 0 = 224 + n / 4096 := by rw [← hl]; exact u8_nat _ (by omega)
        have b1 : by' l 1 = 128 + n / 64 % 64 := by rw [← hl]; exact u8_nat _ (by omega)
        have b2 : by' l 2 = 128 + n % 64 := by rw [← hl]; exact u8_nat _ (by omega)
        have hw : W l = 3 := by unfold W; rw [wd_3, need3, b0, b1, b2]; omega
        refine ⟨hw, ?_⟩
        unfold rune
        rw [hw, b0, b1, b2]
        simp only [num]
        simp
        omega
      · rw [if_neg h3]
        have h4 : 65536 ≤ n ∧ n ≤ 1114111 := by omega
        rw [if_pos h4]
        generalize hl : [(240 + n / 262144).toUInt8, (128 + n / 4096 % 64).toUInt8, (128 + n / 64 % 64).toUInt8, (128 + n % 64).toUInt8] ++ rest = l
        have b0 : by' l 0 = 240 + n / 262144 := by rw [← hl]; exact u8_nat _ (by omega)
        have b1 : by' l 1 = 128 + n / 4096 % 64 := by rw [← hl]; exact u8_nat _ (by omega)
        have b2 : by' l 2 = 128 + n / 64 % 64 := by rw [← hl]; exact u8_nat _ (by omega)
        have b3 : by' l 3 = 128 + n % 64 := by rw [← hl]; exact u8_nat _ (by omega)
        have hw : W l = 4 := by unfold W; rw [wd_4, need4, b0, b1, b2, b3]; omega
        refine ⟨hw, ?_⟩
        unfold rune
        rw [hw, b0, b1, b2, b3]
        simp only [num]
        simp
        omega
theorem dec_enc (z : Int) (rest : List UInt8) : W (Lib.encodeRune z ++ rest) = (Lib.encodeRune z).length ∧ (rune (Lib.encodeRune z ++ rest) : Int) = fixZ z := by
  rw [← enc_fix z]
  have hm : 0 ≤ fixZ z ∧ fixZ z ≤ 1114111 ∧ (fixZ z < 55296 ∨ 57343 < fixZ z) := by
    by_cases h : mayB z = true
    · rw [fixZ_may h]; exact mayB_iff.1 h
    · rw [fixZ_not h]; omega
  generalize fixZ z = y at *
  obtain ⟨n, rfl⟩ : ∃ n : Nat, y = (n : Int) := ⟨y.toNat, by omega⟩
  obtain ⟨h1, h2⟩ := dec_enc_nat n (by omega) rest
  exact ⟨h1, by rw [h2]⟩
theorem enc_dec (l : List UInt8) (hl : l ≠ []) (h : W l ≠ 0) : Lib.encodeRune (rune l : Int) = l.take (W l) := by
  have hlen := W_len l hl
  have hu : ∀ (a : UInt8) (n : Nat), n = a.toNat → n.toUInt8 = a := fun a n e => by subst e; exact UInt8.ofNat_toNat
  have hwc := wd_cases (by' l 0) (by' l 1) (by' l 2) (by' l 3)
  have h256 : ∀ k, by' l k < 256 := by'_lt l
  rw [enc_nat]
  match l, hl, hlen, h with
  | [], hl, _, _ => exact absurd rfl hl
  | a :: l1, hl, hlen, h =>
  by_cases w1 : W (a :: l1) = 1
  · have hr := rune_1 w1
    have e0 : rune (a :: l1) = a.toNat := by unfold rune; rw [w1]; rfl
    rw [if_pos (by omega), w1, hu a _ e0]; rfl
  · match l1, hlen, h, w1 with
    | [], hlen, h, w1 => exact absurd hlen (by simp; omega)
    | b :: l2, hlen, h, w1 =>
    by_cases w2 : W (a :: b :: l2) = 2
    · have hn : need a.toNat b.toNat = 2 := wd_2.1 w2
      rw [need2] at hn
      have e0 : rune (a :: b :: l2) = a.toNat % 32 * 64 + b.toNat % 64 := by unfold rune; rw [w2]; rfl
      rw [if_neg (by omega), if_pos (by omega), w2, hu a _ (by omega), hu b _ (by omega)]; rfl
    · match l2, hlen, h, w1, w2 with
      | [], hlen, h, w1, w2 => exact absurd hlen (by simp; omega)
      | c :: l3, hlen, h, w1, w2 =>
      by_cases w3 : W (a :: b :: c :: l3) = 3
      · have hn : need a.toNat b.toNat = 3 ∧ 128 ≤ c.toNat ∧ c.toNat ≤ 191 := wd_3.1 w3
        rw [need3] at hn
        have e0 : rune (a :: b :: c :: l3) = a.toNat % 16 * 4096 + b.toNat % 64 * 64 + c.toNat % 64 := by unfold rune; rw [w3]; rfl
        rw [if_neg (by omega), if_neg (by omega), if_pos (by omega), w3, hu a _ (by omega), hu b _ (by omega), hu c _ (by omega)]; rfl
      · match l3, hlen, h, w1, w2, w3 with
        | [], hlen, h, w1, w2, w3 => exact absurd hlen (by simp; omega)
        | d :: l4, hlen, h, w1, w2, w3 =>
        have h4 := W_le4 (a :: b :: c :: d :: l4)
        have w4 : W (a :: b :: c :: d :: l4) = 4 := by omega
        have hn : need a.toNat b.toNat = 4 ∧ 128 ≤ c.toNat ∧ c.toNat ≤ 191 ∧ 128 ≤ d.toNat ∧ d.toNat ≤ 191 := wd_4.1 w4
        rw [need4] at hn
        have e0 : rune (a :: b :: c :: d :: l4) = a.toNat % 8 * 262144 + b.toNat % 64 * 4096 + c.toNat % 64 * 64 + d.toNat % 64 := by unfold rune; rw [w4]; rfl
        rw [if_neg (by omega), if_neg (by omega), if_neg (by omega), if_pos (by omega), w4, hu a _ (by omega), hu b _ (by omega), hu c _ (by omega), hu d _ (by omega)]; rfl
end Go.Proofs.Ytedfnppekikcpaa
namespace Go.Proofs.Ytedfnppekikcpaa
open Go.RowKit Go.Shelf
set_option linter.unusedVariables false
set_option linter.unusedSimpArgs false

/-- A part: a rune, or any one; how many. -/
abbrev Bt := Int × Bool × Nat
def fitP (b : Bt) : Ch → Bool := if b.2.1 = true then fun c => !endP c else oneP false (b.1, true)
def kB (b : Bt) : Nat × (Ch → Bool) := (b.2.2, fitP b)
def cB : Nat → List UInt8
  | 0 => []
  | 1 => [63]
  | 2 => [42]
  | _ => [43]
def atB (b : Bt) : List UInt8 := if b.2.1 = true then [46] else xqo (Lib.encodeRune b.1)
def tB (b : Bt) : List UInt8 := atB b ++ cB b.2.2
def BtOk (b : Bt) : Prop := mayB b.1 = true ∧ b.2.2 < 4
/-- What stands behind an atom and its count is no count. -/
def NoC (t : List UInt8) : Prop := by' t 0 ≠ 42 ∧ by' t 0 ≠ 43 ∧ by' t 0 ≠ 63
theorem cnt_all {s : ByteArray} {p how : Nat} {t : List UInt8} (h : (bl s).drop p = cB how ++ t) (hh : how < 4) (hn : NoC t) (P : Ch → Bool) : cntI s p P = itsB (how, P) ∧ cntN s p = p + (cB how).length := by
  match how, hh with
  | 0, _ => exact cnt_none h hn P
  | 1, _ =>
    have x42 : xAt s p 42 = false := by rw [xAt_rest h (by simp [cB])]; rfl
    have x43 : xAt s p 43 = false := by rw [xAt_rest h (by simp [cB])]; rfl
    have x63 : xAt s p 63 = true := by rw [xAt_rest h (by simp [cB])]; rfl
    unfold cntI cntN
    rw [x42, x43, x63]
    exact ⟨rfl, rfl⟩
  | 2, _ =>
    have x42 : xAt s p 42 = true := by rw [xAt_rest h (by simp [cB])]; rfl
    unfold cntI cntN
    rw [x42]
    exact ⟨rfl, rfl⟩
  | 3, _ =>
    have x42 : xAt s p 42 = false := by rw [xAt_rest h (by simp [cB])]; rfl
    have x43 : xAt s p 43 = true := by rw [xAt_rest h (by simp [cB])]; rfl
    unfold cntI cntN
    rw [x42, x43]
    exact ⟨rfl, rfl⟩
theorem xqo_nomark : ∀ (l : List UInt8), (∀ b ∈ l, xmk b.toNat = false) → xqo l = l
  | [], _ => rfl
  | b :: t, h => by
    rw [xqo_cons, xq1_plain (h b (List.mem_cons_self ..)), xqo_nomark t (fun c hc => h c (List.mem_cons_of_mem _ hc))]
    rfl
/-- A rune that may be, as bytes: one mark, or bytes that are none. -/
theorem enc_forms {z : Int} (h : mayB z = true) : ∃ n : Nat, z = (n : Int) ∧ ((xmk n = true ∧ n < 128 ∧ Lib.encodeRune z = [n.toUInt8]) ∨ ((∀ b ∈ Lib.encodeRune z, xmk b.toNat = false) ∧ ∃ b t, Lib.encodeRune z = b :: t)) := by
  have hm := mayB_iff.1 h
  obtain ⟨n, rfl⟩ := Int.eq_ofNat_of_zero_le hm.1
  refine ⟨n, rfl, ?_⟩
  rw [enc_nat]
  by_cases h1 : n ≤ 127
  · rw [if_pos h1]
    cases hk : xmk n with
    | true => exact .inl ⟨rfl, by omega, rfl⟩
    | false =>
      refine .inr ⟨fun b hb => ?_, _, _, rfl⟩
      obtain rfl := List.mem_singleton.1 hb
      rw [u8_nat n (by omega)]; exact hk
  · rw [if_neg h1]
    right
    by_cases h2 : n ≤ 2047
    · rw [if_pos h2]
      refine ⟨fun b hb => ?_, _, _, rfl⟩
      simp only [List.mem_cons, List.not_mem_nil, or_false] at hb
      rcases hb with rfl | rfl <;> (rw [u8_nat _ (by omega)]; exact xmk_low (by omega))
    · rw [if_neg h2]
      by_cases h3 : n < 55296 ∨ (57343 < n ∧ n ≤ 65535)
      · rw [if_pos h3]
        refine ⟨fun b hb => ?_, _, _, rfl⟩
        simp only [List.mem_cons, List.not_mem_nil, or_false] at hb
        rcases hb with rfl | rfl | rfl <;> (rw [u8_nat _ (by omega)]; exact xmk_low (by omega))
      · rw [if_neg h3]
        by_cases h4 : 65536 ≤ n ∧ n ≤ 1114111
        · rw [if_pos h4]
          refine ⟨fun b hb => ?_, _, _, rfl⟩
          simp only [List.mem_cons, List.not_mem_nil, or_false] at hb
          rcases hb with rfl | rfl | rfl | rfl <;> (rw [u8_nat _ (by omega)]; exact xmk_low (by omega))
        · rw [if_neg h4]
          refine ⟨fun b hb => ?_, _, _, rfl⟩
          simp only [List.mem_cons, List.not_mem_nil, or_false] at hb
          rcases hb with rfl | rfl | rfl <;> decide
theorem atB_len {b : Bt} (h : mayB b.1 = true) : (atB b).length ≤ 4 := by
  unfold atB
  split
  · simp
  · obtain ⟨n, hn, g | g⟩ := enc_forms h
    · rw [g.2.2]
      have := xqo_len [n.toUInt8]
      rw [List.length_singleton] at this
      omega
    · rw [xqo_nomark _ g.1]
      have := Lib.runeCells_le b.1
      rw [Lib.runeCells_length] at this
      exact this.2
theorem tB_len {b : Bt} (h : mayB b.1 = true) : (tB b).length ≤ 5 := by
  unfold tB
  have := atB_len h
  rw [List.length_append]
  have : (cB b.2.2).length ≤ 1 := by unfold cB; split <;> simp
  omega
theorem ch1_enc {z : Int} (h : mayB z = true) (rest : List UInt8) : ch1 (Lib.encodeRune z ++ rest) = (z, true) ∧ cw (Lib.encodeRune z ++ rest) = (Lib.encodeRune z).length := by
  obtain ⟨h1, h2⟩ := dec_enc z rest
  rw [fixZ_may h] at h2
  have hp : 0 < (Lib.encodeRune z).length := by
    obtain ⟨n, hn, g | ⟨_, b, t, g⟩⟩ := enc_forms h
    · rw [g.2.2]; simp
    · rw [g]; simp
  have hne : Lib.encodeRune z ++ rest ≠ [] := fun e => by
    have := congrArg List.length e
    rw [List.length_append, List.length_nil] at this
    omega
  have hw : W (Lib.encodeRune z ++ rest) ≠ 0 := by omega
  refine ⟨?_, by unfold cw; rw [if_neg hw, h1]⟩
  unfold ch1
  rw [if_neg hne, if_neg hw, h2]
theorem tB_head (b : Bt) (h : BtOk b) (t : List UInt8) : NoC (tB b ++ t) := by
  have key : NoC (atB b ++ (cB b.2.2 ++ t)) := by
    unfold atB
    split
    · exact ⟨by show (46 : UInt8).toNat ≠ 42; decide, by show (46 : UInt8).toNat ≠ 43; decide, by show (46 : UInt8).toNat ≠ 63; decide⟩
    · obtain ⟨n, hn, g | ⟨g, c, u, hc⟩⟩ := enc_forms h.1
      · rw [g.2.2]
        have : xqo [n.toUInt8] = [92, n.toUInt8] := by
          rw [xqo_cons, xq1_mark (by rw [u8_nat n (by omega)]; exact g.1)]
          rfl
        rw [this]
        exact ⟨by show (92 : UInt8).toNat ≠ 42; decide, by show (92 : UInt8).toNat ≠ 43; decide, by show (92 : UInt8).toNat ≠ 63; decide⟩
      · rw [xqo_nomark _ g]
        have hm := g c (by rw [hc]; exact List.mem_cons_self ..)
        rw [hc]
        rcases xmk_cases c.toNat with ⟨k, _⟩ | ⟨_, k⟩
        · rw [hm] at k; exact absurd k (by simp)
        · exact ⟨by show c.toNat ≠ 42; omega, by show c.toNat ≠ 43; omega, by show c.toNat ≠ 63; omega⟩
  unfold tB
  rwa [List.append_assoc]
theorem parts_head (bs : List Bt) (h : ∀ b ∈ bs, BtOk b) : NoC (bs.flatMap tB) := by
  cases bs with
  | nil => exact ⟨by decide, by decide, by decide⟩
  | cons b bs => rw [List.flatMap_cons]; exact tB_head b (h b (List.mem_cons_self ..)) _
/-- A pattern of plain parts reads as their items. -/
theorem rd_parts {s : ByteArray} (hs : s.size ≤ 65536) : ∀ (bs : List Bt) (p : Nat), (∀ b ∈ bs, BtOk b) → p ≤ s.size → (bl s).drop p = bs.flatMap tB → Rd s false p (some ((bs.map kB).flatMap itsB)) s.size
  | [], p, _, hp, h => by
    have hp2 : p = s.size := by
      have := List.drop_eq_nil_iff.1 h
      rw [bl_len] at this
      omega
    rw [hp2]
    exact .fin
  | b :: bs, p, hok, hp, h => by
    have hb := hok b (List.mem_cons_self ..)
    have hbs : ∀ c ∈ bs, BtOk c := fun c hc => hok c (List.mem_cons_of_mem _ hc)
    have hhead := parts_head bs hbs
    rw [List.flatMap_cons] at h
    have ht : tB b = atB b ++ cB b.2.2 := rfl
    rw [ht, List.append_assoc] at h
    rw [List.map_cons, List.flatMap_cons]
    have step : ∀ (p' : Nat) (P : Ch → Bool), (bl s).drop p' = cB b.2.2 ++ bs.flatMap tB → p' ≤ s.size → P = fitP b → cntI s p' P = itsB (kB b) ∧ Rd s false (cntN s p') (some ((bs.map kB).flatMap itsB)) s.size := fun p' P hd hp' hP => by
      obtain ⟨c1, c2⟩ := cnt_all hd hb.2 hhead P
      refine ⟨by rw [c1, hP]; rfl, ?_⟩
      rw [c2]
      have hle := (cntN_le hp').2
      rw [c2] at hle
      refine rd_parts hs bs _ hbs hle ?_
      rw [← List.drop_drop, hd, List.drop_left]
    by_cases ha : b.2.1 = true
    · have e1 : atB b = [46] := by unfold atB; rw [if_pos ha]
      have eP : fitP b = fun c => !endP c := by unfold fitP; rw [if_pos ha]
      rw [e1] at h
      have h2 := rest_lt h (by simp)
      simp at h2
      have hd : (bl s).drop (p + 1) = cB b.2.2 ++ bs.flatMap tB := by rw [← List.drop_drop, h]; rfl
      obtain ⟨k1, k2⟩ := step (p + 1) _ hd (by omega) eP.symm
      have x46 : xAt s p 46 = true := by rw [xAt_rest h (by simp)]; rfl
      have := Rd.dot (f := false) p _ _ x46 k2
      rw [k1] at this
      exact this
    · have e1 : atB b = xqo (Lib.encodeRune b.1) := by unfold atB; rw [if_neg ha]
      have eP : fitP b = oneP false (b.1, true) := by unfold fitP; rw [if_neg ha]
      rw [e1] at h
      obtain ⟨n, hn, ⟨g1, g2, g3⟩ | ⟨g, c, u, hc⟩⟩ := enc_forms hb.1
      · rw [g3, show xqo [n.toUInt8] = [92, n.toUInt8] by rw [xqo_cons, xq1_mark (by rw [u8_nat n (by omega)]; exact g1)]; rfl] at h
        have h2 := rest_lt h (by simp)
        simp at h2
        have hd : (bl s).drop (p + 2) = cB b.2.2 ++ bs.flatMap tB := by rw [← List.drop_drop, h]; rfl
        have hbs2 : n = 46 ∨ n = 91 ∨ n = 93 ∨ n = 42 ∨ n = 43 ∨ n = 63 ∨ n = 94 ∨ n = 36 ∨ n = 92 := by
          rcases xmk_cases n with ⟨_, k⟩ | ⟨k, _⟩
          · exact k
          · rw [g1] at k; exact absurd k (by simp)
        have hw : WrC s p (.one ((n : Int), true)) (p + 2) := wr_mark h (by simp) hs rfl (by show (n.toUInt8).toNat = n; exact u8_nat n (by omega)) (by unfold mkB; rcases hbs2 with g | g | g | g | g | g | g | g | g <;> rw [g] <;> rfl) g2 (fun k hk => by simp at hk; omega)
        obtain ⟨k1, k2⟩ := step (p + 2) (oneP false ((n : Int), true)) hd (by omega) (by rw [eP, hn])
        have := Rd.one (f := false) p (p + 2) _ _ _ (plain_at h (by simp) (fun m hm => by show (92 : UInt8).toNat ≠ m; simp at hm; have : (92 : UInt8).toNat = 92 := rfl; omega)) hw k2
        rw [k1] at this
        exact this
      · rw [xqo_nomark _ g] at h
        obtain ⟨q1, q2⟩ := ch1_enc hb.1 (cB b.2.2 ++ bs.flatMap tB)
        have hne : Lib.encodeRune b.1 ++ (cB b.2.2 ++ bs.flatMap tB) ≠ [] := by rw [hc]; simp
        have h2 := rest_lt h hne
        rw [List.length_append] at h2
        have hcm : by' (Lib.encodeRune b.1 ++ (cB b.2.2 ++ bs.flatMap tB)) 0 = c.toNat := by rw [hc]; rfl
        have hk : c.toNat ≠ 46 ∧ c.toNat ≠ 91 ∧ c.toNat ≠ 93 ∧ c.toNat ≠ 42 ∧ c.toNat ≠ 43 ∧ c.toNat ≠ 63 ∧ c.toNat ≠ 94 ∧ c.toNat ≠ 36 ∧ c.toNat ≠ 92 := by
          have hm := g c (by rw [hc]; exact List.mem_cons_self ..)
          rcases xmk_cases c.toNat with ⟨k, _⟩ | ⟨_, k⟩
          · rw [hm] at k; exact absurd k (by simp)
          · exact k
        have hw := wr_plain h hne hs (by rw [hcm]; omega)
        rw [q1, q2] at hw
        have hd : (bl s).drop (p + (Lib.encodeRune b.1).length) = cB b.2.2 ++ bs.flatMap tB := by rw [← List.drop_drop, h, List.drop_left]
        obtain ⟨k1, k2⟩ := step (p + (Lib.encodeRune b.1).length) (oneP false (b.1, true)) hd (by omega) eP.symm
        have := Rd.one (f := false) p _ _ _ _ (plain_at h hne (fun m hm => by rw [hcm]; simp at hm; omega)) hw k2
        rw [k1] at this
        exact this
end Go.Proofs.Ytedfnppekikcpaa
namespace Go.Proofs.Ytedfnppekikcpaa
open Go.RowKit
set_option linter.unusedVariables false

def closesV (p q : List UInt8) : Nat := if p = [] ∨ 4 ≤ p.length then 0 else cw (p ++ q.take 3) - p.length
def properV (p : List UInt8) : Bool := decide (0 < closesV p [128, 128, 128]) || decide (0 < closesV p [191, 191, 191])
def pendF (l : List UInt8) : Nat → Nat → Nat
  | 0, _ => 0
  | f + 1, n => if n ≤ l.length then (if properV (l.drop (l.length - n)) = true then n else pendF l f (n + 1)) else 0
def pendingV (l : List UInt8) : Nat := pendF l 3 1

theorem bl_append (a b : ByteArray) : bl (a ++ b) = bl a ++ bl b := by
  unfold bl
  rw [ByteArray.data_append]; simp

end Go.Proofs.Ytedfnppekikcpaa
namespace Go.Proofs.Ytedfnppekikcpaa
open Go.RowKit
set_option linter.unusedVariables false

/-- What a slice of runes holds, up to its length. -/
def SlU (w : World) (a : Option Addr) (zs : List Int) : Prop :=
  zs = [] ∨ ∃ b off, a = some ⟨b, off, none⟩ ∧ b < w.heap.size ∧ ∀ (i : Nat) (x : Int), zs[i]? = some x → w.cell? ⟨b, off + i, none⟩ = some (.int .i32 x)
theorem SlU.below {w w' : World} {a : Option Addr} {zs : List Int} (h : SlU w a zs) (hb : Below w.heap.size w w') : SlU w' a zs := by
  rcases h with h | ⟨b, off, ha, hl, hs⟩
  · exact .inl h
  · exact .inr ⟨b, off, ha, Nat.lt_of_lt_of_le hl hb.size, fun i x hx => (hb.cell (p := ⟨b, off + i, none⟩) hl).trans (hs i x hx)⟩

def s1 : ByteArray := { data := #[195, 169, 65] }
def s2 : ByteArray := { data := #[65, 195, 169] }
def s3 : ByteArray := { data := #[195, 169, 65, 255] }
def s4 : ByteArray := { data := #[65, 195] }
def s5 : ByteArray := { data := #[195] }
def s6 : ByteArray := { data := #[169] }

theorem aw1 (w : World) : Calls Try.prog 40 #[.string { data := #[195, 169, 65] }] w fun e w' => e = .returned (.tuple #[.int .i32 233, .int .i64 2, .bool true]) ∧ Below w.heap.size w w' := by
  have h := first_any s1 w (by decide)
  have e : firstV (bl s1) = (233, 2, true) := by decide +kernel
  rw [e] at h
  exact h
theorem aw2 (w : World) : Calls Try.prog 56 #[.string { data := #[65, 195, 169] }] w fun e w' => e = .returned (.tuple #[.int .i32 233, .int .i64 2, .bool true]) ∧ Below w.heap.size w w' := by
  have h := last_any s2 w (by decide)
  have e : lastV (bl s2) = (233, 2, true) := by decide +kernel
  rw [e] at h
  exact h
end Go.Proofs.Ytedfnppekikcpaa
namespace Go.Proofs.Ytedfnppekikcpaa
open Go.RowKit
set_option linter.unusedVariables false

def May' (n : Int) : Prop := 0 ≤ n ∧ n ≤ 1114111 ∧ (n < 55296 ∨ 57343 < n)
theorem may_any (n : Int) (w : World) (h1 : -2147483648 ≤ n) (h2 : n ≤ 2147483647) : Calls Try.prog 13 #[.int .i32 n] w fun e w' => e = .returned (.bool (mayB n)) ∧ w' = w := by
  by_cases a1 : 0 ≤ n
  · by_cases a2 : n ≤ 1114111
    · by_cases a3 : n < 55296
      · rw [mayB_iff.2 ⟨a1, a2, .inl a3⟩]
        go_enter Try.func13, Try.ntmps13
        go_wp2
        go_ret
        exact ⟨rfl, rfl⟩
      · have a3' : 55296 ≤ n := by omega
        by_cases a4 : 57343 < n
        · rw [mayB_iff.2 ⟨a1, a2, .inr a4⟩]
          go_enter Try.func13, Try.ntmps13
          go_wp2
          go_ret
          exact ⟨rfl, rfl⟩
        · have hm : mayB n = false := by unfold mayB; exact decide_eq_false (by omega)
          have a4' : n ≤ 57343 := by omega
          rw [hm]; clear hm
          go_enter Try.func13, Try.ntmps13
          go_wp2
          go_ret
          exact ⟨rfl, rfl⟩
    · have hm : mayB n = false := by unfold mayB; exact decide_eq_false (by omega)
      have a2' : 1114111 < n := by omega
      rw [hm]; clear hm
      go_enter Try.func13, Try.ntmps13
      go_wp2
      go_ret
      exact ⟨rfl, rfl⟩
  · have hm : mayB n = false := by unfold mayB; exact decide_eq_false (by omega)
    have a1' : n < 0 := by omega
    rw [hm]; clear hm
    go_enter Try.func13, Try.ntmps13
    go_wp2
    go_ret
    exact ⟨rfl, rfl⟩

def B8 (x : Nat) : Value := .int .u8 (x : Int)
/-- What a slice of bytes holds. -/
def SlB (w : World) (a : Option Addr) (bs : List Nat) : Prop :=
  bs = [] ∨ ∃ b off, a = some ⟨b, off, none⟩ ∧ b < w.heap.size ∧ ∀ (i x : Nat), bs[i]? = some x → w.cell? ⟨b, off + i, none⟩ = some (.int .u8 (x : Int))
theorem SlB.below {w w' : World} {a : Option Addr} {bs : List Nat} (h : SlB w a bs) (hb : Below w.heap.size w w') : SlB w' a bs := by
  rcases h with h | ⟨b, off, ha, hl, hs⟩
  · exact .inl h
  · exact .inr ⟨b, off, ha, Nat.lt_of_lt_of_le hl hb.size, fun i x hx => (hb.cell (p := ⟨b, off + i, none⟩) hl).trans (hs i x hx)⟩

set_option maxHeartbeats 400000 in
theorem seq_w1 (z : Int) (w : World) (h0 : 0 ≤ z) (h1 : z < 128) : Calls Try.prog 38 #[.int .i32 z] w fun e w' =>
    e = .returned (.slice (some ⟨w.heap.size, 0, none⟩) 1 1) ∧ w' = w.alloc (.cells #[.int .u8 z] 5) := by
  go_enter Try.func38, Try.ntmps38
  go_wp2
  go_ret
  exact ⟨rfl, rfl⟩
set_option maxHeartbeats 400000 in
theorem seq_w2 (z : Int) (w : World) (h0 : 128 ≤ z) (h1 : z < 2048) : Calls Try.prog 38 #[.int .i32 z] w fun e w' =>
    e = .returned (.slice (some ⟨w.heap.size, 0, none⟩) 2 2) ∧ w' = w.alloc (.cells #[.int .u8 (192 + z / 64), .int .u8 (128 + z % 64)] 5) := by
  go_enter Try.func38, Try.ntmps38
  go_wp2
  go_ret
  exact ⟨rfl, rfl⟩
set_option maxHeartbeats 400000 in
theorem seq_w3 (z : Int) (w : World) (h0 : 2048 ≤ z) (h1 : z < 65536) : Calls Try.prog 38 #[.int .i32 z] w fun e w' =>
    e = .returned (.slice (some ⟨w.heap.size, 0, none⟩) 3 3) ∧ w' = w.alloc (.cells #[.int .u8 (224 + z / 4096), .int .u8 (128 + z / 64 % 64), .int .u8 (128 + z % 64)] 5) := by
  go_enter Try.func38, Try.ntmps38
  go_wp2
  go_ret
  exact ⟨rfl, rfl⟩
set_option maxHeartbeats 400000 in
theorem seq_w4 (z : Int) (w : World) (h0 : 65536 ≤ z) (h1 : z ≤ 1114111) : Calls Try.prog 38 #[.int .i32 z] w fun e w' =>
    e = .returned (.slice (some ⟨w.heap.size, 0, none⟩) 4 4) ∧ w' = w.alloc (.cells #[.int .u8 (240 + z / 262144), .int .u8 (128 + z / 4096 % 64), .int .u8 (128 + z / 64 % 64), .int .u8 (128 + z % 64)] 5) := by
  go_enter Try.func38, Try.ntmps38
  go_wp2
  go_ret
  exact ⟨rfl, rfl⟩

theorem seq_any (n : Nat) (w : World) (hn : n ≤ 1114111) : Calls Try.prog 38 #[.int .i32 n] w fun e w' =>
    e = .returned (.slice (some ⟨w.heap.size, 0, none⟩) (seqV n).length (seqV n).length) ∧ w' = w.alloc (.cells ((seqV n).map B8).toArray 5) := by
  by_cases a1 : n < 128
  · have hs : seqV n = [n] := by unfold seqV; rw [if_pos a1]
    rw [hs]
    exact seq_w1 n w (by omega) (by omega)
  · by_cases a2 : n < 2048
    · have hs : seqV n = [192 + n / 64, 128 + n % 64] := by unfold seqV; rw [if_neg a1, if_pos a2]
      rw [hs]
      exact seq_w2 n w (by omega) (by omega)
    · by_cases a3 : n < 65536
      · have hs : seqV n = [224 + n / 4096, 128 + n / 64 % 64, 128 + n % 64] := by unfold seqV; rw [if_neg a1, if_neg a2, if_pos a3]
        rw [hs]
        exact seq_w3 n w (by omega) (by omega)
      · have hs : seqV n = [240 + n / 262144, 128 + n / 4096 % 64, 128 + n / 64 % 64, 128 + n % 64] := by unfold seqV; rw [if_neg a1, if_neg a2, if_neg a3]
        rw [hs]
        exact seq_w4 n w (by omega) (by omega)
theorem seq_sl (n : Nat) (w : World) : SlB (w.alloc (.cells ((seqV n).map B8).toArray 5)) (some ⟨w.heap.size, 0, none⟩) (seqV n) := by
  refine .inr ⟨_, _, rfl, by simp, fun i x hx => ?_⟩
  have := World.cell?_alloc_mark w ((seqV n).map B8).toArray 5 (0, 0) (0 + i)
  rw [this]
  simp [hx, B8]

theorem begins_short (s : ByteArray) (a : Option Addr) (m c : Nat) (w : World) (h : (s.size : Int) < (m : Int)) :
    Calls Try.prog 37 #[.string s, .slice a m c] w fun e w' => e = .returned (.bool false) ∧ w' = w := by
  go_enter Try.func37, Try.ntmps37
  go_wp2
  go_ret
  exact ⟨rfl, rfl⟩

set_option maxHeartbeats 400000 in
theorem begins_long (s : ByteArray) (a : Option Addr) (c : Nat) (bs : List Nat) (w : World) (hg : SlB w a bs) (hm : bs.length ≤ s.size) (hs : s.size ≤ 9223372036854775807) :
    Calls Try.prog 37 #[.string s, .slice a bs.length c] w fun e w' => e = .returned (.bool (begB (bl s) bs)) ∧ ∃ n, w' = w.drewN n := by
  have hm' : (bs.length : Int) ≤ (s.size : Int) := by omega
  go_enter Try.func37, Try.ntmps37
  go_wp2
  go_loopw [5] (fun q wr => ∃ k n : Nat, k ≤ bs.length ∧ q = .int .i64 k ∧ (∀ i, i < k → by' (bl s) i = bs.getD i 0) ∧ wr = w.drewN n) (fun q _ => bs.length - (intOf q).toNat)
  case atStart => exact ⟨0, 0, by omega, rfl, fun i hi => by omega, rfl⟩
  case round =>
    obtain ⟨k, n, hk, rfl, ht, rfl⟩ := hrel
    have HT := hide ht
    clear ht
    by_cases hlt : k < bs.length
    · obtain ⟨x, hx⟩ : ∃ x, bs[k]? = some x := ⟨_, List.getElem?_eq_getElem hlt⟩
      obtain ⟨b, off, rfl, _, hs1⟩ : ∃ b off, a = some ⟨b, off, none⟩ ∧ b < w.heap.size ∧ ∀ (i x : Nat), bs[i]? = some x → w.cell? ⟨b, off + i, none⟩ = some (.int .u8 (x : Int)) := by
        rcases hg with rfl | h
        · simp at hlt
        · exact h
      have c1 := hs1 k x hx
      have HX := hide hx
      clear hx hs1 hg
      have hki : (k : Int) < (bs.length : Int) := by omega
      have hks : (k : Int) < (s.size : Int) := by omega
      have hks' : k < s.size := by omega
      have hb := by'_get s k hks'
      have HB := hide hb
      clear hb
      by_cases hxy : (s[k]'hks').toNat = x
      · have hq : (((s[k]'hks').toNat : Int) != (x : Int)) = false := by simp [hxy]
        have HXY := hide hxy
        clear hxy
        go_wp2
        go_quiet (fail)
        go_wp2
        go_roundw
        case rel =>
          refine ⟨k + 1, n + nq, by omega, by go_num, fun i hi => ?_, rfl⟩
          by_cases hik : i < k
          · exact HT.out i hik
          · have : i = k := by omega
            subst this
            unfold bl
            rw [HB.out, HXY.out, List.getD_eq_getElem?_getD, HX.out]; rfl
        case measure => simp [intOf]; omega
      · have hq : (((s[k]'hks').toNat : Int) != (x : Int)) = true := by simp; omega
        have HXY := hide hxy
        clear hxy
        go_wp2
        go_quiet (fail)
        go_wp2
        go_ret
        refine ⟨ret_bool (Eq.symm (decide_eq_false fun h => HXY.out ?_)), n + nq, by simp⟩
        have := h.2 k hlt
        unfold bl at this
        rw [HB.out, List.getD_eq_getElem?_getD, HX.out] at this
        exact this
    · have hkk : k = bs.length := by omega
      subst hkk
      go_wp2
      go_ret
      refine ⟨ret_bool (Eq.symm (decide_eq_true ⟨by rw [bl_len]; exact hm, HT.out⟩)), _, rfl⟩

theorem begins_any' (s : ByteArray) (a : Option Addr) (c : Nat) (bs : List Nat) (w : World) (hg : SlB w a bs) (hs : s.size ≤ 9223372036854775807) :
    Calls Try.prog 37 #[.string s, .slice a bs.length c] w fun e w' => e = .returned (.bool (begB (bl s) bs)) ∧ Below w.heap.size w w' := by
  by_cases h : bs.length ≤ s.size
  · refine (begins_long s a c bs w hg h hs).mono ?_
    rintro e w' ⟨rfl, n, rfl⟩
    exact ⟨rfl, below_drewN (Below.refl _ _) n⟩
  · have : begB (bl s) bs = false := decide_eq_false (fun k => by rw [bl_len] at k; omega)
    rw [this]
    refine (begins_short s a bs.length c w (by omega)).mono ?_
    rintro e w' ⟨rfl, rfl⟩
    exact ⟨rfl, Below.refl _ _⟩
end Go.Proofs.Ytedfnppekikcpaa
namespace Go.Proofs.Ytedfnppekikcpaa
open Go.RowKit
set_option linter.unusedVariables false

theorem number_1 (s : ByteArray) (w : World) (h : 1 ≤ s.size) (hs : s.size ≤ 9223372036854775807) :
    Calls Try.prog 36 #[.string s, .int .i64 1] w fun e w' => e = .returned (.int .i32 (numV (bl s) 1)) ∧ Below w.heap.size w w' := by
  have h0 : 0 < s.size := by omega
  have hz : (0 : Int) < (s.size : Int) := by omega
  have hb := by'_get s 0 h0
  have hlt : (s[0]'h0).toNat < 256 := UInt8.toNat_lt _
  have HB := hide hb
  clear hb
  go_enter Try.func36, Try.ntmps36
  go_wp2
  go_ret
  refine ⟨ret_int ?_, Below.refl _ _⟩
  show _ = ((by' (bl s) 0 : Nat) : Int)
  unfold bl
  rw [HB.out]


set_option maxRecDepth 100000 in
set_option maxHeartbeats 1000000 in
theorem number_2 (s : ByteArray) (w : World) (h : 2 ≤ s.size) (hs : s.size ≤ 9223372036854775807) :
    Calls Try.prog 36 #[.string s, .int .i64 2] w fun e w' => e = .returned (.int .i32 (numV (bl s) 2)) ∧ Below w.heap.size w w' := by
  have h0 : 0 < s.size := by omega
  have hz : (0 : Int) < (s.size : Int) := by omega
  have g0 : 0 < s.size := by omega
  have z0 : (0 : Int) < (s.size : Int) := by omega
  have b0 := by'_get s 0 g0
  have l0 : (s[0]'g0).toNat < 256 := UInt8.toNat_lt _
  have g1 : 1 < s.size := by omega
  have z1 : (1 : Int) < (s.size : Int) := by omega
  have b1 := by'_get s 1 g1
  have l1 : (s[1]'g1).toNat < 256 := UInt8.toNat_lt _
  have hv : numV (bl s) 2 = (((by' (bl s) 0 : Int) - 192) * 64 + (by' (bl s) 1 : Int) % 64) := rfl
  rw [hv]
  clear hv
  unfold bl
  rw [b0]
  have HB0 := hide b0
  rw [b1]
  have HB1 := hide b1
  clear b0 b1
  go_enter Try.func36, Try.ntmps36
  go_wp2
  go_quiet (fail)
  go_wp2
  go_loopw [5, 6] (fun n i wr => Below w.heap.size w wr ∧ ((i = .int .i64 1 ∧ n = .int .i64 (((s[0]'g0).toNat : Int) - 192)) ∨ (i = .int .i64 2 ∧ n = .int .i64 ((((s[0]'g0).toNat : Int) - 192) * 64 + ((s[1]'g1).toNat : Int) % 64)))) (fun _ i _ => 5 - (intOf i).toNat)
  case atStart => exact ⟨below_drewN (Below.refl _ _) _, .inl ⟨rfl, by go_num⟩⟩
  case round =>
    obtain ⟨hB, ⟨rfl, rfl⟩ | ⟨rfl, rfl⟩⟩ := hrel
    · have HB := hide hB
      clear hB
      go_wp2
      go_roundw
      case rel => exact ⟨HB.out, .inr (⟨rfl, by go_num⟩)⟩
      case measure => simp [intOf]
    · have HB := hide hB
      clear hB
      go_wp2
      go_ret
      exact ⟨rfl, HB.out⟩

set_option maxRecDepth 100000 in
set_option maxHeartbeats 1000000 in
theorem number_3 (s : ByteArray) (w : World) (h : 3 ≤ s.size) (hs : s.size ≤ 9223372036854775807) :
    Calls Try.prog 36 #[.string s, .int .i64 3] w fun e w' => e = .returned (.int .i32 (numV (bl s) 3)) ∧ Below w.heap.size w w' := by
  have h0 : 0 < s.size := by omega
  have hz : (0 : Int) < (s.size : Int) := by omega
  have g0 : 0 < s.size := by omega
  have z0 : (0 : Int) < (s.size : Int) := by omega
  have b0 := by'_get s 0 g0
  have l0 : (s[0]'g0).toNat < 256 := UInt8.toNat_lt _
  have g1 : 1 < s.size := by omega
  have z1 : (1 : Int) < (s.size : Int) := by omega
  have b1 := by'_get s 1 g1
  have l1 : (s[1]'g1).toNat < 256 := UInt8.toNat_lt _
  have g2 : 2 < s.size := by omega
  have z2 : (2 : Int) < (s.size : Int) := by omega
  have b2 := by'_get s 2 g2
  have l2 : (s[2]'g2).toNat < 256 := UInt8.toNat_lt _
  have hv : numV (bl s) 3 = ((((by' (bl s) 0 : Int) - 224) * 64 + (by' (bl s) 1 : Int) % 64) * 64 + (by' (bl s) 2 : Int) % 64) := rfl
  rw [hv]
  clear hv
  unfold bl
  rw [b0]
  have HB0 := hide b0
  rw [b1]
  have HB1 := hide b1
  rw [b2]
  have HB2 := hide b2
  clear b0 b1 b2
  go_enter Try.func36, Try.ntmps36
  go_wp2
  go_quiet (fail)
  go_wp2
  go_loopw [5, 6] (fun n i wr => Below w.heap.size w wr ∧ ((i = .int .i64 1 ∧ n = .int .i64 (((s[0]'g0).toNat : Int) - 224)) ∨ (i = .int .i64 2 ∧ n = .int .i64 ((((s[0]'g0).toNat : Int) - 224) * 64 + ((s[1]'g1).toNat : Int) % 64)) ∨ (i = .int .i64 3 ∧ n = .int .i64 (((((s[0]'g0).toNat : Int) - 224) * 64 + ((s[1]'g1).toNat : Int) % 64) * 64 + ((s[2]'g2).toNat : Int) % 64)))) (fun _ i _ => 5 - (intOf i).toNat)
  case atStart => exact ⟨below_drewN (Below.refl _ _) _, .inl ⟨rfl, by go_num⟩⟩
  case round =>
    obtain ⟨hB, ⟨rfl, rfl⟩ | ⟨rfl, rfl⟩ | ⟨rfl, rfl⟩⟩ := hrel
    · have HB := hide hB
      clear hB
      go_wp2
      go_roundw
      case rel => exact ⟨HB.out, .inr (.inl ⟨rfl, by go_num⟩)⟩
      case measure => simp [intOf]
    · have HB := hide hB
      clear hB
      go_wp2
      go_roundw
      case rel => exact ⟨HB.out, .inr (.inr (⟨rfl, by go_num⟩))⟩
      case measure => simp [intOf]
    · have HB := hide hB
      clear hB
      go_wp2
      go_ret
      exact ⟨rfl, HB.out⟩

set_option maxRecDepth 100000 in
set_option maxHeartbeats 1000000 in
theorem number_4 (s : ByteArray) (w : World) (h : 4 ≤ s.size) (hs : s.size ≤ 9223372036854775807) :
    Calls Try.prog 36 #[.string s, .int .i64 4] w fun e w' => e = .returned (.int .i32 (numV (bl s) 4)) ∧ Below w.heap.size w w' := by
  have h0 : 0 < s.size := by omega
  have hz : (0 : Int) < (s.size : Int) := by omega
  have g0 : 0 < s.size := by omega
  have z0 : (0 : Int) < (s.size : Int) := by omega
  have b0 := by'_get s 0 g0
  have l0 : (s[0]'g0).toNat < 256 := UInt8.toNat_lt _
  have g1 : 1 < s.size := by omega
  have z1 : (1 : Int) < (s.size : Int) := by omega
  have b1 := by'_get s 1 g1
  have l1 : (s[1]'g1).toNat < 256 := UInt8.toNat_lt _
  have g2 : 2 < s.size := by omega
  have z2 : (2 : Int) < (s.size : Int) := by omega
  have b2 := by'_get s 2 g2
  have l2 : (s[2]'g2).toNat < 256 := UInt8.toNat_lt _
  have g3 : 3 < s.size := by omega
  have z3 : (3 : Int) < (s.size : Int) := by omega
  have b3 := by'_get s 3 g3
  have l3 : (s[3]'g3).toNat < 256 := UInt8.toNat_lt _
  have hv : numV (bl s) 4 = (((((by' (bl s) 0 : Int) - 240) * 64 + (by' (bl s) 1 : Int) % 64) * 64 + (by' (bl s) 2 : Int) % 64) * 64 + (by' (bl s) 3 : Int) % 64) := rfl
  rw [hv]
  clear hv
  unfold bl
  rw [b0]
  have HB0 := hide b0
  rw [b1]
  have HB1 := hide b1
  rw [b2]
  have HB2 := hide b2
  rw [b3]
  have HB3 := hide b3
  clear b0 b1 b2 b3
  go_enter Try.func36, Try.ntmps36
  go_wp2
  go_quiet (fail)
  go_wp2
  go_loopw [5, 6] (fun n i wr => Below w.heap.size w wr ∧ ((i = .int .i64 1 ∧ n = .int .i64 (((s[0]'g0).toNat : Int) - 240)) ∨ (i = .int .i64 2 ∧ n = .int .i64 ((((s[0]'g0).toNat : Int) - 240) * 64 + ((s[1]'g1).toNat : Int) % 64)) ∨ (i = .int .i64 3 ∧ n = .int .i64 (((((s[0]'g0).toNat : Int) - 240) * 64 + ((s[1]'g1).toNat : Int) % 64) * 64 + ((s[2]'g2).toNat : Int) % 64)) ∨ (i = .int .i64 4 ∧ n = .int .i64 ((((((s[0]'g0).toNat : Int) - 240) * 64 + ((s[1]'g1).toNat : Int) % 64) * 64 + ((s[2]'g2).toNat : Int) % 64) * 64 + ((s[3]'g3).toNat : Int) % 64)))) (fun _ i _ => 5 - (intOf i).toNat)
  case atStart => exact ⟨below_drewN (Below.refl _ _) _, .inl ⟨rfl, by go_num⟩⟩
  case round =>
    obtain ⟨hB, ⟨rfl, rfl⟩ | ⟨rfl, rfl⟩ | ⟨rfl, rfl⟩ | ⟨rfl, rfl⟩⟩ := hrel
    · have HB := hide hB
      clear hB
      go_wp2
      go_roundw
      case rel => exact ⟨HB.out, .inr (.inl ⟨rfl, by go_num⟩)⟩
      case measure => simp [intOf]
    · have HB := hide hB
      clear hB
      go_wp2
      go_roundw
      case rel => exact ⟨HB.out, .inr (.inr (.inl ⟨rfl, by go_num⟩))⟩
      case measure => simp [intOf]
    · have HB := hide hB
      clear hB
      go_wp2
      go_roundw
      case rel => exact ⟨HB.out, .inr (.inr (.inr (⟨rfl, by go_num⟩)))⟩
      case measure => simp [intOf]
    · have HB := hide hB
      clear hB
      go_wp2
      go_ret
      exact ⟨rfl, HB.out⟩

theorem number_any (s : ByteArray) (k : Nat) (w : World) (h1 : 1 ≤ k) (h4 : k ≤ 4) (h : k ≤ s.size) (hs : s.size ≤ 9223372036854775807) :
    Calls Try.prog 36 #[.string s, .int .i64 k] w fun e w' => e = .returned (.int .i32 (numV (bl s) k)) ∧ Below w.heap.size w w' := by
  have hk : k = 1 ∨ k = 2 ∨ k = 3 ∨ k = 4 := by omega
  rcases hk with rfl | rfl | rfl | rfl
  · exact number_1 s w h hs
  · exact number_2 s w h hs
  · exact number_3 s w h hs
  · exact number_4 s w h hs

theorem refFirst_none (s : ByteArray) (w : World) (h : s.size = 0) :
    Calls Try.prog 17 #[.string s] w fun e w' => e = .returned (.tuple #[.int .i32 0, .int .i64 0, .bool false]) ∧ w' = w := by
  have hz : ((s.size : Int) == 0) = true := by simp [h]
  go_enter Try.func17, Try.ntmps17
  go_wp2
  go_ret3
  exact ⟨rfl, rfl⟩

theorem noj {P k : Nat} (h : ∀ j, 1 ≤ j → j < k → P ≠ j) (h2 : P ≠ k) : ∀ j, 1 ≤ j → j < k + 1 → P ≠ j := by
  intro j h1 h3
  by_cases hj : j = k
  · subst hj; exact h2
  · exact h j h1 (by omega)
theorem okB_may {l : List UInt8} {k : Nat} (h : mayB (numV l k) = false) : okB l k = false := by unfold okB; rw [h]; rfl
theorem okB_beg {l : List UInt8} {k : Nat} (h : begB l (seqV (numV l k).toNat) = false) : okB l k = false := by unfold okB; rw [h, Bool.and_false]; rfl
theorem okB_all {l : List UInt8} {k : Nat} (h : mayB (numV l k) = true) (h2 : begB l (seqV (numV l k).toNat) = true) : okB l k = decide ((seqV (numV l k).toNat).length = k) := by unfold okB; rw [h, h2]; rfl

set_option maxRecDepth 100000 in
set_option maxHeartbeats 1000000 in
theorem refFirst_some (s : ByteArray) (w : World) (h : 0 < s.size) (hs : s.size ≤ 9223372036854775807) :
    Calls Try.prog 17 #[.string s] w fun e w' => e = .returned (.tuple #[.int .i32 (firstV (bl s)).1, .int .i64 (firstV (bl s)).2.1, .bool (firstV (bl s)).2.2]) ∧ Below w.heap.size w w' := by
  have hz : ((s.size : Int) == 0) = false := beq_eq_false_iff_ne.2 (by omega)
  have hW := W_len (bl s) (bl_ne h)
  have hW4 := W_le4 (bl s)
  rw [bl_len] at hW
  have hno : W (bl s) = 0 → firstV (bl s) = (65533, 1, false) := fun h0 => by rw [firstV_ne (bl_ne h), h0, cw_0 h0, rune_0 h0]; rfl
  have hyes : ∀ k, 1 ≤ k → W (bl s) = k → firstV (bl s) = (numV (bl s) k, (k : Int), true) := fun k h1 hk => by
    rw [firstV_ne (bl_ne h), numV_rune (bl s) k h1 hk, cw_W (l := bl s) (by omega), hk, decide_eq_true (p := k ≠ 0) (by omega)]
  have HNO := hide hno
  have HYES := hide hyes
  clear hno hyes
  go_enter Try.func17, Try.ntmps17
  go_wp2
  go_loopw [5] (fun q wr => ∃ k : Nat, 1 ≤ k ∧ k ≤ 5 ∧ q = .int .i64 k ∧ Below w.heap.size w wr ∧ (∀ j, 1 ≤ j → j < k → W (bl s) ≠ j)) (fun q _ => 5 - (intOf q).toNat)
  case atStart => exact ⟨1, by omega, by omega, rfl, Below.refl _ _, fun j h1 h2 => by omega⟩
  case round =>
    obtain ⟨k, hk1, hk5, rfl, hB, hj⟩ := hrel
    have HB := hide hB
    have HJ := hide hj
    clear hB hj
    by_cases h4 : k ≤ 4
    · have h4' : (k : Int) ≤ 4 := by omega
      by_cases hl : k ≤ s.size
      · have hl' : (k : Int) ≤ (s.size : Int) := by omega
        have hnb := numV_bound (bl s) k
        have kn := fun w => number_any s k w hk1 h4 hl hs
        have hok := okB_iff (bl s) k hk1 h4 (by rw [bl_len]; exact hl)
        have km := fun w => may_any (numV (bl s) k) w (by omega) (by omega)
        have hm1 := okB_may (l := bl s) (k := k)
        have hm2 := okB_beg (l := bl s) (k := k)
        have hm3 := okB_all (l := bl s) (k := k)
        have HY := HYES.out k hk1
        have hmz : mayB (numV (bl s) k) = true → 0 ≤ numV (bl s) k ∧ numV (bl s) k ≤ 1114111 := fun h => by have := mayB_iff.1 h; omega
        generalize numV (bl s) k = z at *
        have KN := hide kn
        have KM := hide km
        have HOK := hide hok
        have HYY := hide HY
        clear kn km hok HY
        cases hmay : mayB z with
        | false =>
          have hW' : W (bl s) ≠ k := fun e => by have := HOK.out.2 e; rw [hm1 hmay] at this; cases this
          have HWk := hide hW'
          rw [hmay] at KM
          clear hm1 hm2 hm3 hmz hmay hW'
          go_wp2_with (first | (go_at_call 36; refine (KN.out _).mono ?_; rintro e w1 ⟨rfl, hB1⟩) | (go_at_call 13; refine (KM.out _).mono ?_; rintro e w2 ⟨rfl, rfl⟩))
          go_roundw
          case rel => exact ⟨k + 1, by omega, by omega, by go_num, bseq HB.out hB1, noj HJ.out HWk.out⟩
          case measure => simp [intOf]; omega
        | true =>
          obtain ⟨hz0, hz1⟩ := hmz hmay
          obtain ⟨m, rfl⟩ : ∃ m : Nat, z = (m : Int) := ⟨z.toNat, by omega⟩
          have hm : m ≤ 1114111 := by omega
          rw [Int.toNat_natCast] at hm2 hm3
          have ks := fun w => seq_any m w hm
          have kb : ∀ w a c, SlB w a (seqV m) → Calls Try.prog 37 #[.string s, .slice a (seqV m).length c] w fun e w' => e = .returned (.bool (begB (bl s) (seqV m))) ∧ Below w.heap.size w w' := fun w a c h => begins_any' s a c (seqV m) w h hs
          have ksl := fun w => seq_sl m w
          have hlen := seqV_len m
          rw [hmay] at KM
          generalize hq : seqV m = q at *
          have KS := hide ks
          have KB := hide kb
          have KL := hide ksl
          clear ks kb ksl hq
          generalize hqn : q.length = qn at *
          generalize (q.map B8).toArray = Q at *
          have HQ := hide hqn
          clear hqn
          cases hbeg : begB (bl s) q with
          | false =>
            have hW' : W (bl s) ≠ k := fun e => by have := HOK.out.2 e; rw [hm2 hbeg] at this; cases this
            have HWk := hide hW'
            rw [hbeg] at KB
            clear hm1 hm2 hm3 hmz hmay hW' hbeg
            go_wp2_with (first | (go_at_call 36; refine (KN.out _).mono ?_; rintro e w1 ⟨rfl, hB1⟩) | (go_at_call 13; refine (KM.out _).mono ?_; rintro e w2 ⟨rfl, rfl⟩) | (go_at_call 38; refine (KS.out _).mono ?_; rintro e w3 ⟨rfl, rfl⟩) | (go_at_call 37; refine (KB.out _ _ _ (KL.out _)).mono ?_; rintro e w4 ⟨rfl, hB4⟩))
            go_roundw
            case rel => exact ⟨k + 1, by omega, by omega, by go_num, bseq (bseq HB.out hB1) (bseq ((Below.refl _ _).alloc (Nat.le_refl _) _) hB4), noj HJ.out HWk.out⟩
            case measure => simp [intOf]; omega
          | true =>
            have hall := hm3 hmay hbeg
            rw [hbeg] at KB
            by_cases hlk : qn = k
            · have hWk : W (bl s) = k := HOK.out.1 (by rw [hall]; exact decide_eq_true hlk)
              have hlk' : ((qn : Int) == (k : Int)) = true := by simp [hlk]
              have HV := hide (HYY.out hWk)
              clear hm1 hm2 hm3 hmz hmay hbeg hall hlk hWk
              go_wp2_with (first | (go_at_call 36; refine (KN.out _).mono ?_; rintro e w1 ⟨rfl, hB1⟩) | (go_at_call 13; refine (KM.out _).mono ?_; rintro e w2 ⟨rfl, rfl⟩) | (go_at_call 38; refine (KS.out _).mono ?_; rintro e w3 ⟨rfl, rfl⟩) | (go_at_call 37; refine (KB.out _ _ _ (KL.out _)).mono ?_; rintro e w4 ⟨rfl, hB4⟩))
              go_ret3
              exact ⟨ret_three (by rw [HV.out]) (by rw [HV.out]) (by rw [HV.out]), bseq (bseq (bseq HB.out hB1) (bseq ((Below.refl _ _).alloc (Nat.le_refl _) _) hB4)) ((Below.refl _ _).alloc (Nat.le_refl _) _)⟩
            · have hW' : W (bl s) ≠ k := fun e => by have := HOK.out.2 e; rw [hall, decide_eq_false hlk] at this; cases this
              have HWk := hide hW'
              have hlk' : ((qn : Int) == (k : Int)) = false := by simp; omega
              clear hm1 hm2 hm3 hmz hmay hbeg hall hlk hW'
              go_wp2_with (first | (go_at_call 36; refine (KN.out _).mono ?_; rintro e w1 ⟨rfl, hB1⟩) | (go_at_call 13; refine (KM.out _).mono ?_; rintro e w2 ⟨rfl, rfl⟩) | (go_at_call 38; refine (KS.out _).mono ?_; rintro e w3 ⟨rfl, rfl⟩) | (go_at_call 37; refine (KB.out _ _ _ (KL.out _)).mono ?_; rintro e w4 ⟨rfl, hB4⟩))
              go_roundw
              case rel => exact ⟨k + 1, by omega, by omega, by go_num, bseq (bseq (bseq HB.out hB1) (bseq ((Below.refl _ _).alloc (Nat.le_refl _) _) hB4)) ((Below.refl _ _).alloc (Nat.le_refl _) _), noj HJ.out HWk.out⟩
              case measure => simp [intOf]; omega
      · have hl' : (s.size : Int) < (k : Int) := by omega
        have h0 : W (bl s) = 0 := by
          rcases Nat.eq_zero_or_pos (W (bl s)) with g | g
          · exact g
          · exact absurd rfl (HJ.out (W (bl s)) g (by omega))
        have HV := hide (HNO.out h0)
        clear h0
        go_wp2
        go_ret3
        exact ⟨ret_three (by rw [HV.out]) (by rw [HV.out]) (by rw [HV.out]), HB.out⟩
    · have hk : k = 5 := by omega
      subst hk
      have h0 : W (bl s) = 0 := by
        rcases Nat.eq_zero_or_pos (W (bl s)) with g | g
        · exact g
        · exact absurd rfl (HJ.out (W (bl s)) g (by omega))
      have HV := hide (HNO.out h0)
      clear h0
      go_wp2
      go_ret3
      exact ⟨ret_three (by rw [HV.out]) (by rw [HV.out]) (by rw [HV.out]), HB.out⟩

theorem refFirst_any (s : ByteArray) (w : World) (hs : s.size ≤ 9223372036854775807) :
    Calls Try.prog 17 #[.string s] w fun e w' => e = .returned (.tuple #[.int .i32 (firstV (bl s)).1, .int .i64 (firstV (bl s)).2.1, .bool (firstV (bl s)).2.2]) ∧ Below w.heap.size w w' := by
  by_cases h : s.size = 0
  · rw [bl_nil h]
    refine (refFirst_none s w h).mono ?_
    rintro e w' ⟨rfl, rfl⟩
    exact ⟨rfl, Below.refl _ _⟩
  · exact refFirst_some s w (by omega) hs
end Go.Proofs.Ytedfnppekikcpaa
namespace Go.Proofs.Ytedfnppekikcpaa
open Go.RowKit
set_option linter.unusedVariables false

/-- The runes of a text, as numbers. -/
def runesZ (l : List UInt8) : List Int := (Cs 0 l).map (fun e => (e.2.1 : Int))
theorem runesZ_len (l : List UInt8) : (runesZ l).length = (Cs 0 l).length := by unfold runesZ; simp
def R32 (z : Int) : Value := .int .i32 z
theorem Try.info32 : (Try.prog.info? 21).map (fun i => (i.zero, i.size, i.bytes)) = some (some (.int .i32 0), 1, 4) := by kernel_rfl

/-- What a row of runes of the call's own holds. -/
theorem slu_of_owns {W : World} {base : Nat} {v : Value} {zs : List Int} (h : W.ownsRow base 21 1 v zs.length (zs.map R32)) : ∃ a cap, v = .slice a zs.length cap ∧ SlU W a zs := by
  rcases h.2 with ⟨rfl, h0⟩ | ⟨g, cap, cur, rfl, _, hg, hn, _, hs, hc⟩
  · exact ⟨none, 0, by rw [h0], .inl (List.eq_nil_of_length_eq_zero h0)⟩
  · refine ⟨_, cap, rfl, .inr ⟨g, 0, rfl, (Array.getElem?_eq_some_iff.1 hg).1, fun i x hx => ?_⟩⟩
    have h1 : (zs.map R32)[i]? = some (.int .i32 x) := by rw [List.getElem?_map, hx]; rfl
    have h2 : i < zs.length := (List.getElem?_eq_some_iff.1 hx).1
    rw [← hc, List.getElem?_take, if_pos (by omega)] at h1
    simp only [Nat.zero_add, World.cell?, hg]
    simpa using h1
theorem ownsRow_below {W W' : World} {base : Nat} {e : TypeId} {size : Nat} {v : Value} {k : Nat} {xs : List Value} (h : W.ownsRow base e size v k xs) (hb : Below W.heap.size W W') : W'.ownsRow base e size v k xs := by
  refine ⟨h.1, ?_⟩
  rcases h.2 with h2 | ⟨g, cap, cur, hv, hg, hh, r⟩
  · exact .inl h2
  · exact .inr ⟨g, cap, cur, hv, hg, (hb.block g (Array.getElem?_eq_some_iff.1 hh).1).trans hh, r⟩
theorem ownsRow_iter {w : World} {base : Nat} {e : TypeId} {size : Nat} {v : Value} {n : Nat} {xs : List Value} (h : w.ownsRow base e size v n xs) {k : Nat} {s : ByteArray} {p : Nat} (hk : w.heap[k]? = some (.stringIter s p)) (p' : Nat) : (w.iterAt k s p').ownsRow base e size v n xs := by
  obtain ⟨h1, h2⟩ := h
  refine ⟨h1, ?_⟩
  rcases h2 with h2 | ⟨g, cap, cur, a, b, c, d⟩
  · exact .inl h2
  · refine .inr ⟨g, cap, cur, a, b, ?_, d⟩
    rw [Lib.iterAt_other]
    · exact c
    · intro e
      rw [e, hk] at c
      cases c

theorem next_at' {P : Program} (w : World) (k : Nat) (s : ByteArray) (pos : Nat) (ty : TypeId) (hk : w.heap[k]? = some (.stringIter s pos)) (h : pos < s.size) :
    (Instr.next (.pointer (some ⟨k, 0, none⟩)) true ty).run P w = .ok (.tuple #[.bool true, .int .i64 pos, .int .i32 (rune ((bl s).drop pos) : Nat)]) (w.iterAt k s (pos + cw ((bl s).drop pos))) := by
  rw [Lib.run_next_any_at w k s pos ty hk h, decode_eq s pos h]; rfl

end Go.Proofs.Ytedfnppekikcpaa
