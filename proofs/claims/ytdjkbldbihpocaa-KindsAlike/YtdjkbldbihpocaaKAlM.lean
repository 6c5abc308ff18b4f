/- Runes as bytes, there and back, for kinds; what is folded is alike. -/
import Derived.Test.YtdjkbldbihpocaaUChars
import Derived.Test.YtdjkbldbihpocaaURefM
import Derived.Test.YtdjkbldbihpocaaUSeam
import Derived.Test.YtdjkbldbihpocaaKAlk
import Derived.Test.YtdjkbldbihpocaaKPure
import Derived.Lib.RuneBytes
namespace Go.Proofs.Ytdjkbldbihpocaa
open Go.RowKit
set_option linter.unusedVariables false

/-- A rune, or what stands for one that may not be. -/
def fixZ (z : Int) : Int := if mayB z = true then z else 65533
theorem fixZ_may {z : Int} (h : mayB z = true) : fixZ z = z := by unfold fixZ; rw [if_pos h]
theorem fixZ_not {z : Int} (h : ¬ mayB z = true) : fixZ z = 65533 := by unfold fixZ; rw [if_neg h]
theorem u8_nat (n : Nat) (h : n < 256) : (n.toUInt8).toNat = n := by
  simp [Nat.toUInt8, UInt8.toNat_ofNat']; omega
theorem enc_nat (n : Nat) : Lib.encodeRune (n : Int) = (if n ≤ 127 then [n.toUInt8] else if n ≤ 2047 then [(192 + n / 64).toUInt8, (128 + n % 64).toUInt8] else if n < 55296 ∨ (57343 < n ∧ n ≤ 65535) then [(224 + n / 4096).toUInt8, (128 + n / 64 % 64).toUInt8, (128 + n % 64).toUInt8] else if 65536 ≤ n ∧ n ≤ 1114111 then [(240 + n / 262144).toUInt8, (128 + n / 4096 % 64).toUInt8, (128 + n / 64 % 64).toUInt8, (128 + n % 64).toUInt8] else [239, 191, 189]) := by
  unfold Lib.encodeRune
  by_cases h1 : n ≤ 127
  · rw [if_pos h1, Lib.encodeRuneZ_one (by omega) (by omega)]; simp
  · rw [if_neg h1]
    by_cases h2 : n ≤ 2047
    · rw [if_pos h2, Lib.encodeRuneZ_two (by omega) (by omega)]
      have e1 : (192 + (n : Int) / 64).toNat = 192 + n / 64 := by omega
      have e2 : (128 + (n : Int) % 64).toNat = 128 + n % 64 := by omega
      simp only [List.map_cons, List.map_nil, e1, e2]
    · rw [if_neg h2]
      by_cases h3 : n < 55296 ∨ (57343 < n ∧ n ≤ 65535)
      · rw [if_pos h3, Lib.encodeRuneZ_three (by omega)]
        have e1 : (224 + (n : Int) / 4096).toNat = 224 + n / 4096 := by omega
        have e2 : (128 + (n : Int) / 64 % 64).toNat = 128 + n / 64 % 64 := by omega
        have e3 : (128 + (n : Int) % 64).toNat = 128 + n % 64 := by omega
        simp only [List.map_cons, List.map_nil, e1, e2, e3]
      · rw [if_neg h3]
        by_cases h4 : 65536 ≤ n ∧ n ≤ 1114111
        · rw [if_pos h4, Lib.encodeRuneZ_four (by omega) (by omega)]
          have e1 : (240 + (n : Int) / 262144).toNat = 240 + n / 262144 := by omega
          have e2 : (128 + (n : Int) / 4096 % 64).toNat = 128 + n / 4096 % 64 := by omega
          have e3 : (128 + (n : Int) / 64 % 64).toNat = 128 + n / 64 % 64 := by omega
          have e4 : (128 + (n : Int) % 64).toNat = 128 + n % 64 := by omega
          simp only [List.map_cons, List.map_nil, e1, e2, e3, e4]
        · rw [if_neg h4, Lib.encodeRuneZ_bad (by omega)]; rfl
theorem enc_bad {z : Int} (h : ¬ mayB z = true) : Lib.encodeRune z = [239, 191, 189] := by
  rw [mayB_iff] at h
  unfold Lib.encodeRune
  rw [Lib.encodeRuneZ_bad (by omega)]; rfl
theorem enc_fix (z : Int) : Lib.encodeRune (fixZ z) = Lib.encodeRune z := by
  by_cases h : mayB z = true
  · rw [fixZ_may h]
  · rw [fixZ_not h, enc_bad h, show (65533 : Int) = ((65533 : Nat) : Int) from rfl, enc_nat]; rfl
theorem by0 (a : UInt8) (l : List UInt8) : by' (a :: l) 0 = a.toNat := rfl
theorem byS (a : UInt8) (l : List UInt8) (k : Nat) : by' (a :: l) (k + 1) = by' l k := rfl
/-- What is encoded is decoded, whatever stands behind. -/
theorem dec_enc_nat (n : Nat) (h : n ≤ 1114111 ∧ (n < 55296 ∨ 57343 < n)) (rest : List UInt8) : W (Lib.encodeRune (n : Int) ++ rest) = (Lib.encodeRune (n : Int)).length ∧ rune (Lib.encodeRune (n : Int) ++ rest) = n := by
  rw [enc_nat]
  by_cases h1 : n ≤ 127
  · rw [if_pos h1]
    have b0 : by' ([n.toUInt8] ++ rest) 0 = n := u8_nat n (by omega)
    have hw : W ([n.toUInt8] ++ rest) = 1 := by unfold W; rw [wd_1, b0]; omega
    refine ⟨hw, ?_⟩
    unfold rune
    rw [hw, b0]; rfl
  · rw [if_neg h1]
    by_cases h2 : n ≤ 2047
    · rw [if_pos h2]
      generalize hl : [(192 + n / 64).toUInt8, (128 + n % 64).toUInt8] ++ rest = l
      have b0 : by' l 0 = 192 + n / 64 := by rw [← hl]; exact u8_nat _ (by omega)
      have b1 : by' l 1 = 128 + n % 64 := by rw [← hl]; exact u8_nat _ (by omega)
      have hw : W l = 2 := by unfold W; rw [wd_2, need2, b0, b1]; omega
      refine ⟨hw, ?_⟩
      unfold rune
      rw [hw, b0, b1]
      simp only [num]
      simp
      omega
    · rw [if_neg h2]
      by_cases h3 : n < 55296 ∨ (57343 < n ∧ n ≤ 65535)
      · rw [if_pos h3]
        generalize hl : [(224 + n / 4096).toUInt8, (128 + n / 64 % 64).toUInt8, (128 + n % 64).toUInt8] ++ rest = l
        have b0 : by' l 0 = 224 + n / 4096 := by rw [← hl]; exact u8_nat _ (by omega)
        have b1 : by' l 1 = 128 + n / 64 % 64 := by rw [← hl]; exact u8_nat _ (by omega)
        have b2 : by' l 2 = 128 + n % 64 := by rw [← hl]; exact u8_nat _ (by omega)
        have hw : W l = 3 := by unfold W; rw [wd_3, need3, b0, b1, b2]; omega
        refine ⟨hw, ?_⟩
        unfold rune
        rw [hw, b0, b1, b2]
        simp only [num]
        simp
        omega
      · rw [if_neg h3]
        have h4 : 65536 ≤ n ∧ n ≤ 1114111 := by omega
        rw [if_pos h4]
        generalize hl : [(240 + n / 262144).toUInt8, (128 + n / 4096 % 64).toUInt8, (128 + n / 64 % 64).toUInt8, (128 + n % 64).toUInt8] ++ rest = l
        have b0 : by' l 0 = 240 + n / 262144 := by rw [← hl]; exact u8_nat _ (by omega)
        have b1 : by' l 1 = 128 + n / 4096 % 64 := by rw [← hl]; exact u8_nat _ (by omega)
        have b2 : by' l 2 = 128 + n / 64 % 64 := by rw [← hl]; exact u8_nat _ (by omega)
        have b3 : by' l 3 = 128 + n % 64 := by rw [← hl]; exact u8_nat _ (by omega)
        have hw : W l = 4 := by unfold W; rw [wd_4, need4, b0, b1, b2, b3]; omega
        refine ⟨hw, ?_⟩
        unfold rune
        rw [hw, b0, b1, b2, b3]
        simp only [num]
        simp
        omega
theorem dec_enc (z : Int) (rest : List UInt8) : W (Lib.encodeRune z ++ rest) = (Lib.encodeRune z).length ∧ (rune (Lib.encodeRune z ++ rest) : Int) = fixZ z := by
  rw [← enc_fix z]
  have hm : 0 ≤ fixZ z ∧ fixZ z ≤ 1114111 ∧ (fixZ z < 55296 ∨ 57343 < fixZ z) := by
    by_cases h : mayB z = true
    · rw [fixZ_may h]; exact mayB_iff.1 h
    · rw [fixZ_not h]; omega
  generalize fixZ z = y at *
  obtain ⟨n, rfl⟩ : ∃ n : Nat, y = (n : Int) := ⟨y.toNat, by omega⟩
  obtain ⟨h1, h2⟩ := dec_enc_nat n (by omega) rest
  exact ⟨h1, by rw [h2]⟩
theorem enc_pos (z : Int) : 1 ≤ (Lib.encodeRune z).length := by
  have := Lib.runeCells_le z
  rw [Lib.runeCells_length] at this
  exact this.1
theorem Cs_enc (a : Nat) (z : Int) (rest : List UInt8) : Cs a (Lib.encodeRune z ++ rest) = (a, (fixZ z).toNat, (Lib.encodeRune z).length) :: Cs (a + (Lib.encodeRune z).length) rest := by
  have hp := enc_pos z
  obtain ⟨h1, h2⟩ := dec_enc z rest
  have hne : Lib.encodeRune z ++ rest ≠ [] := fun h => by
    have := congrArg List.length h
    rw [List.length_append, List.length_nil] at this
    omega
  have hcw : cw (Lib.encodeRune z ++ rest) = (Lib.encodeRune z).length := by rw [cw_W (by omega), h1]
  rw [Cs_cons a _ hne, hcw, List.drop_left, ← h2, Int.toNat_natCast]
theorem fixZ_nn (z : Int) : 0 ≤ fixZ z := by
  by_cases h : mayB z = true
  · rw [fixZ_may h]; exact (mayB_iff.1 h).1
  · rw [fixZ_not h]; decide
/-- A right sequence is the one that its number is encoded as. -/
theorem enc_dec (l : List UInt8) (hl : l ≠ []) (h : W l ≠ 0) : Lib.encodeRune (rune l : Int) = l.take (W l) := by
  have hlen := W_len l hl
  have hu : ∀ (a : UInt8) (n : Nat), n = a.toNat → n.toUInt8 = a := fun a n e => by subst e; exact UInt8.ofNat_toNat
  have hwc := wd_cases (by' l 0) (by' l 1) (by' l 2) (by' l 3)
  have h256 : ∀ k, by' l k < 256 := by'_lt l
  rw [enc_nat]
  match l, hl, hlen, h with
  | [], hl, _, _ => exact absurd rfl hl
  | a :: l1, hl, hlen, h =>
  by_cases w1 : W (a :: l1) = 1
  · have hr := rune_1 w1
    have e0 : rune (a :: l1) = a.toNat := by unfold rune; rw [w1]; rfl
    rw [if_pos (by omega), w1, hu a _ e0]; rfl
  · match l1, hlen, h, w1 with
    | [], hlen, h, w1 => exact absurd hlen (by simp; omega)
    | b :: l2, hlen, h, w1 =>
    by_cases w2 : W (a :: b :: l2) = 2
    · have hn : need a.toNat b.toNat = 2 := wd_2.1 w2
      rw [need2] at hn
      have e0 : rune (a :: b :: l2) = a.toNat % 32 * 64 + b.toNat % 64 := by unfold rune; rw [w2]; rfl
      rw [if_neg (by omega), if_pos (by omega), w2, hu a _ (by omega), hu b _ (by omega)]; rfl
    · match l2, hlen, h, w1, w2 with
      | [], hlen, h, w1, w2 => exact absurd hlen (by simp; omega)
      | c :: l3, hlen, h, w1, w2 =>
      by_cases w3 : W (a :: b :: c :: l3) = 3
      · have hn : need a.toNat b.toNat = 3 ∧ 128 ≤ c.toNat ∧ c.toNat ≤ 191 := wd_3.1 w3
        rw [need3] at hn
        have e0 : rune (a :: b :: c :: l3) = a.toNat % 16 * 4096 + b.toNat % 64 * 64 + c.toNat % 64 := by unfold rune; rw [w3]; rfl
        rw [if_neg (by omega), if_neg (by omega), if_pos (by omega), w3, hu a _ (by omega), hu b _ (by omega), hu c _ (by omega)]; rfl
      · match l3, hlen, h, w1, w2, w3 with
        | [], hlen, h, w1, w2, w3 => exact absurd hlen (by simp; omega)
        | d :: l4, hlen, h, w1, w2, w3 =>
        have h4 := W_le4 (a :: b :: c :: d :: l4)
        have w4 : W (a :: b :: c :: d :: l4) = 4 := by omega
        have hn : need a.toNat b.toNat = 4 ∧ 128 ≤ c.toNat ∧ c.toNat ≤ 191 ∧ 128 ≤ d.toNat ∧ d.toNat ≤ 191 := wd_4.1 w4
        rw [need4] at hn
        have e0 : rune (a :: b :: c :: d :: l4) = a.toNat % 8 * 262144 + b.toNat % 64 * 4096 + c.toNat % 64 * 64 + d.toNat % 64 := by unfold rune; rw [w4]; rfl
        rw [if_neg (by omega), if_neg (by omega), if_neg (by omega), if_pos (by omega), w4, hu a _ (by omega), hu b _ (by omega), hu c _ (by omega), hu d _ (by omega)]; rfl

/-- A text with its right characters folded. -/
def fd1 (l : List UInt8) : List UInt8 := if W l ≠ 0 then Lib.encodeRune (foldK (rune l : Nat)) else l.take 1
def fdF : Nat → List UInt8 → List UInt8
  | 0, _ => []
  | f + 1, l => if l = [] then [] else fd1 l ++ fdF f (l.drop (cw l))
def fdV (l : List UInt8) : List UInt8 := fdF l.length l
theorem fdF_eq : ∀ (f g : Nat) (l : List UInt8), l.length ≤ f → l.length ≤ g → fdF f l = fdF g l := by
  intro f
  induction f with
  | zero => intro g l h _; have e : l = [] := List.length_eq_zero_iff.1 (by omega); subst e; cases g <;> simp [fdF]
  | succ f ih =>
    intro g l hf hg
    by_cases e : l = []
    · subst e; cases g <;> simp [fdF]
    · cases g with
      | zero => exact absurd (List.length_eq_zero_iff.1 (by omega)) e
      | succ g =>
        have h1 := cw_pos l
        have hp := List.length_pos_iff.2 e
        simp only [fdF, if_neg e]
        rw [ih g (l.drop (cw l)) (by rw [List.length_drop]; omega) (by rw [List.length_drop]; omega)]
theorem fdV_nil : fdV [] = [] := rfl
theorem fdV_cons {l : List UInt8} (h : l ≠ []) : fdV l = fd1 l ++ fdV (l.drop (cw l)) := by
  have hp := List.length_pos_iff.2 h
  have h1 := cw_pos l
  unfold fdV
  obtain ⟨n, hn⟩ : ∃ n, l.length = n + 1 := ⟨l.length - 1, by omega⟩
  rw [hn]
  simp only [fdF, if_neg h]
  rw [fdF_eq n _ (l.drop (cw l)) (by rw [List.length_drop]; omega) (Nat.le_refl _)]
theorem rune_may {l : List UInt8} (hl : l ≠ []) (h : W l ≠ 0) : mayB (rune l : Int) = true := by
  have h4 := W_le4 l
  have h1 := (okB_iff l (W l) (by omega) h4 (W_len l hl)).2 rfl
  unfold okB at h1
  rw [Bool.and_eq_true, Bool.and_eq_true] at h1
  have h2 := h1.1.1
  rw [numV_rune l (W l) (by omega) rfl] at h2
  exact h2
theorem fold_may {r : Int} (h : mayB r = true) : mayB (foldK r) = true := by
  rcases fold_plain r with e | ⟨_, h2⟩
  · rw [e]; exact h
  · rw [mayB_iff]
    unfold plainR at h2
    omega
/-- The first byte of an encoded rune goes on nothing. -/
theorem enc_head (z : Int) : ∃ b t, Lib.encodeRune z = b :: t ∧ ¬ Co b.toNat := by
  have hp := enc_pos z
  have hc := dec_enc z []
  rw [List.append_nil] at hc
  cases he : Lib.encodeRune z with
  | nil => rw [he] at hp; simp at hp
  | cons b t =>
    refine ⟨b, t, rfl, fun hco => ?_⟩
    have h0 : Co (by' (Lib.encodeRune z) 0) := by rw [he]; exact hco
    have := W_of_co _ h0
    rw [hc.1] at this
    omega
/-- As many bytes that go on something as a text begins with. -/
def cp : List UInt8 → List UInt8
  | [] => []
  | b :: t => if 128 ≤ b.toNat ∧ b.toNat ≤ 191 then b :: cp t else []
theorem cp_fd (l : List UInt8) : cp (fdV l) = cp l := by
  have key : ∀ n, ∀ l : List UInt8, l.length ≤ n → cp (fdV l) = cp l := by
    intro n
    induction n with
    | zero => intro l h; have e : l = [] := List.length_eq_zero_iff.1 (by omega); subst e; rfl
    | succ n ih =>
      intro l h
      cases l with
      | nil => rfl
      | cons b t =>
        rw [fdV_cons (by simp)]
        by_cases hb : 128 ≤ b.toNat ∧ b.toNat ≤ 191
        · have hw : W (b :: t) = 0 := W_of_co _ (show Co (by' (b :: t) 0) from hb)
          have e1 : fd1 (b :: t) = [b] := by unfold fd1; rw [if_neg (by rw [hw]; simp)]; rfl
          rw [e1, cw_0 hw]
          show cp (b :: fdV t) = _
          simp only [cp, if_pos hb]
          rw [ih t (by simp at h; omega)]
        · have e2 : cp (b :: t) = [] := by simp only [cp, if_neg hb]
          rw [e2]
          by_cases hw : W (b :: t) = 0
          · have e1 : fd1 (b :: t) = [b] := by unfold fd1; rw [if_neg (by rw [hw]; simp)]; rfl
            rw [e1]
            show cp (b :: _) = _
            simp only [cp, if_neg hb]
          · have e1 : fd1 (b :: t) = Lib.encodeRune (foldK (rune (b :: t) : Nat)) := by unfold fd1; rw [if_pos hw]
            obtain ⟨c, u, hc, hco⟩ := enc_head (foldK (rune (b :: t) : Nat))
            rw [e1, hc]
            show cp (c :: _) = _
            simp only [cp]
            exact if_neg (show ¬ (128 ≤ c.toNat ∧ c.toNat ≤ 191) from hco)
  exact key l.length l (Nat.le_refl _)
theorem cp_by (l m : List UInt8) (h : cp l = cp m) : ∀ k, (∀ j, j ≤ k → Co (by' l j)) → by' m k = by' l k := by
  induction l generalizing m with
  | nil =>
    intro k hk
    have h0 := hk 0 (by omega)
    unfold Co by' at h0
    simp at h0
  | cons b t ih =>
    intro k hk
    have hb : 128 ≤ b.toNat ∧ b.toNat ≤ 191 := hk 0 (by omega)
    simp only [cp, if_pos hb] at h
    cases m with
    | nil => simp [cp] at h
    | cons c u =>
      simp only [cp] at h
      by_cases hc : 128 ≤ c.toNat ∧ c.toNat ≤ 191
      · rw [if_pos hc] at h
        injection h with h1 h2
        cases k with
        | zero => subst h1; rfl
        | succ k =>
          show by' u k = by' t k
          exact ih u h2 k (fun j hj => hk (j + 1) (by omega))
      · rw [if_neg hc] at h; cases h
theorem W_same (b : UInt8) (l m : List UInt8) (h : cp l = cp m) (hw : W (b :: l) ≠ 0) : W (b :: m) = W (b :: l) := by
  obtain ⟨n, hn⟩ : ∃ n, W (b :: l) = n := ⟨_, rfl⟩
  have h4 := W_le4 (b :: l)
  have hco : ∀ j, j + 1 < n → Co (by' l j) := fun j hj => by
    have := W_co (b :: l) (j + 1) (by omega) (by rw [hn]; exact hj)
    exact this
  have hs : ∀ k, k + 1 < n → by' m k = by' l k := fun k hk => cp_by l m h k (fun j hj => hco j (by omega))
  rw [hn] at hw h4 ⊢
  have e0 : ∀ x : List UInt8, by' (b :: x) 0 = b.toNat := fun x => rfl
  have eS : ∀ (x : List UInt8) k, by' (b :: x) (k + 1) = by' x k := fun x k => rfl
  unfold W at hn ⊢
  rw [e0, eS, eS, eS] at hn ⊢
  rcases (by omega : n = 1 ∨ n = 2 ∨ n = 3 ∨ n = 4) with rfl | rfl | rfl | rfl
  · rw [wd_1] at hn ⊢; exact hn
  · rw [wd_2] at hn ⊢; rw [hs 0 (by omega)]; exact hn
  · rw [wd_3] at hn ⊢; rw [hs 0 (by omega), hs 1 (by omega)]; exact hn
  · rw [wd_4] at hn ⊢; rw [hs 0 (by omega), hs 1 (by omega), hs 2 (by omega)]; exact hn
/-- A text is alike to what it is folded. -/
theorem Ks_fd (l : List UInt8) : Ks (fdV l) = Ks l := by
  refine byChars (P := fun l => Ks (fdV l) = Ks l) rfl (fun l hl ih => ?_) l
  rw [fdV_cons hl, Ks_cons hl]
  by_cases hw : W l = 0
  · cases l with
    | nil => exact absurd rfl hl
    | cons b t =>
      have e1 : fd1 (b :: t) = [b] := by unfold fd1; rw [if_neg (by rw [hw]; simp)]; rfl
      rw [cw_0 hw] at ih ⊢
      have ih' : Ks (fdV t) = Ks t := ih
      rw [e1]
      show Ks (b :: fdV t) = key (b :: t) :: Ks t
      have hw2 : W (b :: fdV t) = 0 := by
        by_cases h0 : W (b :: fdV t) = 0
        · exact h0
        · have := W_same b (fdV t) t (cp_fd t) h0
          omega
      rw [Ks_cons (by simp), cw_0 hw2]
      show key (b :: fdV t) :: Ks (fdV t) = _
      rw [ih']
      congr 1
      unfold key
      rw [if_neg (by rw [hw2]; simp), if_neg (by rw [hw]; simp)]
      rfl
  · have e1 : fd1 l = Lib.encodeRune (foldK (rune l : Nat)) := by unfold fd1; rw [if_pos hw]
    rw [e1]
    have hm := rune_may hl hw
    have hfm := fold_may hm
    obtain ⟨h1, h2⟩ := dec_enc (foldK (rune l : Nat)) (fdV (l.drop (cw l)))
    have hp := enc_pos (foldK (rune l : Nat))
    have hne : Lib.encodeRune (foldK (rune l : Nat)) ++ fdV (l.drop (cw l)) ≠ [] := fun h => by
      have := congrArg List.length h
      rw [List.length_append, List.length_nil] at this
      omega
    have hcw : cw (Lib.encodeRune (foldK (rune l : Nat)) ++ fdV (l.drop (cw l))) = (Lib.encodeRune (foldK (rune l : Nat))).length := by rw [cw_W (by omega), h1]
    have hW : W (Lib.encodeRune (foldK (rune l : Nat)) ++ fdV (l.drop (cw l))) ≠ 0 := by omega
    rw [fixZ_may hfm] at h2
    have hk : key (Lib.encodeRune (foldK (rune l : Nat)) ++ fdV (l.drop (cw l))) = key l := by
      have e2 : key l = (true, foldK (rune l : Nat)) := by unfold key; rw [if_pos hw]
      have e3 : key (Lib.encodeRune (foldK (rune l : Nat)) ++ fdV (l.drop (cw l))) = (true, foldK (rune (Lib.encodeRune (foldK (rune l : Nat)) ++ fdV (l.drop (cw l))) : Nat)) := by
        generalize Lib.encodeRune (foldK (rune l : Nat)) ++ fdV (l.drop (cw l)) = m at hW
        unfold key; rw [if_pos hW]
      rw [e2, e3, h2, fold_fold]
    rw [Ks_cons hne, hcw, List.drop_left, ih, hk]
theorem fd1_len (l : List UInt8) : (fd1 l).length ≤ 4 := by
  unfold fd1
  split
  · have := Lib.runeCells_le (foldK (rune l : Nat))
    rw [Lib.runeCells_length] at this
    exact this.2
  · rw [List.length_take]; omega
theorem rows_wide : ∀ x ∈ foldRows, (x.2.1 + x.2.2.2 ≤ 127) ∨ (128 ≤ x.1 ∧ x.2.1 + x.2.2.2 ≤ 2047) ∨ (2048 ≤ x.1 ∧ x.2.1 + x.2.2.2 ≤ 65535) ∨ 65536 ≤ x.1 := by decide
theorem enc_upto (z : Int) (h : mayB z = true) : (z ≤ 127 → (Lib.encodeRune z).length = 1) ∧ (128 ≤ z → z ≤ 2047 → (Lib.encodeRune z).length = 2) ∧ (2048 ≤ z → z ≤ 65535 → (Lib.encodeRune z).length = 3) ∧ (65536 ≤ z → (Lib.encodeRune z).length = 4) := by
  rw [mayB_iff] at h
  obtain ⟨n, rfl⟩ : ∃ n : Nat, z = (n : Int) := ⟨z.toNat, by omega⟩
  rw [enc_nat]
  refine ⟨fun h1 => ?_, fun h1 h2 => ?_, fun h1 h2 => ?_, fun h1 => ?_⟩
  · rw [if_pos (by omega)]; rfl
  · rw [if_neg (by omega), if_pos (by omega)]; rfl
  · rw [if_neg (by omega), if_neg (by omega), if_pos (by omega)]; rfl
  · rw [if_neg (by omega), if_neg (by omega), if_neg (by omega), if_pos (by omega)]; rfl
/-- What is folded takes no more bytes. -/
theorem fold_wide (r : Int) (h : mayB r = true) : (Lib.encodeRune (foldK r)).length ≤ (Lib.encodeRune r).length := by
  have hf := fold_may h
  have e1 := enc_upto r h
  have e2 := enc_upto (foldK r) hf
  rcases fold_cases r with e | ⟨x, hx, ⟨g1, g2, _⟩, e⟩
  · rw [e]; exact Nat.le_refl _
  · have hw := rows_wide x hx
    have hp := enc_pos r
    have h4 := Lib.runeCells_le (foldK r)
    rw [Lib.runeCells_length] at h4
    generalize (Lib.encodeRune (foldK r)).length = L2 at *
    generalize (Lib.encodeRune r).length = L1 at *
    rw [mayB_iff] at h hf
    rw [e] at e2 hf
    rcases (by omega : r ≤ 127 ∨ (128 ≤ r ∧ r ≤ 2047) ∨ (2048 ≤ r ∧ r ≤ 65535) ∨ 65536 ≤ r) with a | ⟨a, b⟩ | ⟨a, b⟩ | a
    · have := e1.1 a
      have := e2.1 (by omega)
      omega
    · have := e1.2.1 a b
      rcases (by omega : r + x.2.2.2 ≤ 127 ∨ 128 ≤ r + x.2.2.2) with c | c
      · have := e2.1 c; omega
      · have := e2.2.1 c (by omega); omega
    · have := e1.2.2.1 a b
      rcases (by omega : r + x.2.2.2 ≤ 127 ∨ (128 ≤ r + x.2.2.2 ∧ r + x.2.2.2 ≤ 2047) ∨ 2048 ≤ r + x.2.2.2) with c | ⟨c, d⟩ | c
      · have := e2.1 c; omega
      · have := e2.2.1 c d; omega
      · have := e2.2.2.1 c (by omega); omega
    · have := e1.2.2.2 a; omega
theorem fd1_cw {l : List UInt8} (hl : l ≠ []) : (fd1 l).length ≤ cw l := by
  by_cases hw : W l = 0
  · unfold fd1
    rw [if_neg (by rw [hw]; simp), List.length_take, cw_0 hw]
    omega
  · unfold fd1
    rw [if_pos hw, cw_W hw]
    refine Nat.le_trans (fold_wide _ (rune_may hl hw)) ?_
    rw [enc_dec l hl hw, List.length_take]
    omega
/-- A text, a bar and another: nothing is cut. -/
theorem Ks_bar (l m : List UInt8) : Ks (l ++ 124 :: m) = Ks l ++ Ks (124 :: m) := by
  refine byChars (P := fun l => Ks (l ++ 124 :: m) = Ks l ++ Ks (124 :: m)) rfl (fun l hl ih => ?_) l
  have hc := cw_len l hl
  have hWW : W (l ++ 124 :: m) = W l ∧ rune (l ++ 124 :: m) = rune l := by
    have hlen := W_len l hl
    have hpos := List.length_pos_iff.2 hl
    have hst : St (l ++ 124 :: m) l.length := St_of_not_co _ _ (by simp) (by
      have : by' (l ++ 124 :: m) l.length = 124 := by simp [by']
      rw [this]; unfold Co; omega)
    have hw1 : W (l ++ 124 :: m) ≤ l.length := by
      by_cases hle : W (l ++ 124 :: m) ≤ l.length
      · exact hle
      · exfalso
        have hco := W_co (l ++ 124 :: m) l.length hpos (by omega)
        have : by' (l ++ 124 :: m) l.length = 124 := by simp [by']
        rw [this] at hco
        unfold Co at hco
        omega
    have e1 := W_take_le (l := l ++ 124 :: m) (j := l.length) (by omega) hw1
    have e2 := rune_take (l := l ++ 124 :: m) (j := l.length) (by omega) hw1
    rw [List.take_left] at e1 e2
    exact ⟨e1.symm, e2.symm⟩
  have hcw : cw (l ++ 124 :: m) = cw l := by unfold cw; rw [hWW.1]
  have hk : key (l ++ 124 :: m) = key l := by
    unfold key
    rw [hWW.1, hWW.2]
    have : by' (l ++ 124 :: m) 0 = by' l 0 := by
      cases l with
      | nil => exact absurd rfl hl
      | cons b t => rfl
    rw [this]
  rw [Ks_cons (by simp), hcw, hk, Ks_cons hl, List.drop_append_of_le_length hc, ih]
  rfl
theorem Ks_length (l : List UInt8) : (Ks l).length = (Cs 0 l).length := by
  have key : ∀ a, (Ks l).length = (Cs a l).length := by
    refine byChars (P := fun l => ∀ a, (Ks l).length = (Cs a l).length) (fun a => rfl) (fun l hl ih a => ?_) l
    rw [Ks_cons hl, Cs_cons a l hl, List.length_cons, List.length_cons, ih (a + cw l)]
  exact key 0
end Go.Proofs.Ytdjkbldbihpocaa
