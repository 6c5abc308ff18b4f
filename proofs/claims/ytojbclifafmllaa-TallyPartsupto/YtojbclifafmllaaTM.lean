/- Plain Lean: characters and line ends of a text, and what a seam does to them. -/
import Derived.Test.YtojbclifafmllaaUSeam
namespace Go.Proofs.Ytojbclifafmllaa
set_option linter.unusedVariables false

/-- Is a rune a line end, or a part of one? -/
def endR (r : Nat) : Bool := decide (r = 10) || decide (r = 13) || decide (r = 133) || decide (r = 8232) || decide (r = 8233)
/-- What a rune adds to the line ends, behind the rune a. -/
def oneR (a r : Nat) : Nat := if endR r = true ∧ ¬ (a = 13 ∧ r = 10) then 1 else 0
def linR : Nat → List Nat → Nat
  | _, [] => 0
  | a, r :: rs => oneR a r + linR r rs
def lastR : Nat → List Nat → Nat
  | a, [] => a
  | _, r :: rs => lastR r rs
/-- How many characters, how many line ends a text has. -/
def chn (l : List UInt8) : Nat := (runesV l).length
def lin (l : List UInt8) : Nat := linR 0 (runesV l)

theorem linR_append (x y : List Nat) : ∀ a, linR a (x ++ y) = linR a x + linR (lastR a x) y := by
  induction x with
  | nil => intro a; simp [linR, lastR]
  | cons r rs ih => intro a; simp only [List.cons_append, linR, lastR, ih]; omega
theorem linR_le (x : List Nat) : ∀ a, linR a x ≤ x.length := by
  induction x with
  | nil => intro a; simp [linR]
  | cons r rs ih => intro a; have := ih r; simp only [linR, List.length_cons, oneR]; split <;> omega
theorem linR_behind (y : List Nat) (a : Nat) : linR a y + (if a = 13 ∧ y.head? = some 10 then 1 else 0) = linR 0 y := by
  cases y with
  | nil => simp [linR]
  | cons r rs =>
    simp only [linR, oneR, List.head?_cons, Option.some.injEq]
    by_cases h : a = 13 ∧ r = 10
    · obtain ⟨rfl, rfl⟩ := h
      simp [endR]; omega
    · rw [if_neg h]
      have : (endR r = true ∧ ¬ (0 = 13 ∧ r = 10)) ↔ (endR r = true ∧ ¬ (a = 13 ∧ r = 10)) := ⟨fun k => ⟨k.1, h⟩, fun k => ⟨k.1, by omega⟩⟩
      simp only [this]; omega
theorem lin_join (A B : List Nat) : linR 0 (A ++ B) + (if lastR 0 A = 13 ∧ B.head? = some 10 then 1 else 0) = linR 0 A + linR 0 B := by
  rw [linR_append, Nat.add_assoc, linR_behind]
theorem linR_wrong (n : Nat) : ∀ a, linR a (List.replicate n 65533) = 0 := by
  induction n with
  | zero => intro a; simp [linR]
  | succ n ih => intro a; simp [List.replicate_succ, linR, ih, oneR, endR]
theorem linR_other {a : Nat} (h : a ≠ 13) (y : List Nat) : linR a y = linR 0 y := by
  have := linR_behind y a
  rw [if_neg (fun k => h k.1)] at this
  exact this
theorem lastR_wrong (n : Nat) (h : 0 < n) : ∀ a, lastR a (List.replicate n 65533) = 65533 := by
  intro a
  obtain ⟨m, rfl⟩ : ∃ m, n = m + 1 := ⟨n - 1, by omega⟩
  rw [List.replicate_succ]
  show lastR 65533 (List.replicate m 65533) = 65533
  clear h
  induction m with
  | zero => rfl
  | succ m ih => rw [List.replicate_succ]; exact ih
theorem lastR_append (x y : List Nat) : ∀ a, lastR a (x ++ y) = lastR (lastR a x) y := by
  induction x with
  | nil => intro a; rfl
  | cons r rs ih => intro a; exact ih r

/-- The last byte of a text; 0 of none. -/
def lst (l : List UInt8) : Nat := by' l (l.length - 1)
theorem rune_big {l : List UInt8} (h : 2 ≤ W l) : 128 ≤ rune l := by
  have hn2 : need (by' l 0) (by' l 1) = 2 → 128 ≤ by' l 0 % 32 * 64 := by
    intro h
    unfold need at h
    split at h
    · omega
    · split at h
      · omega
      · split at h
        · omega
        · split at h <;> omega
  have hn3 : need (by' l 0) (by' l 1) = 3 → 128 ≤ by' l 0 % 16 * 4096 + by' l 1 % 64 * 64 := by
    intro h
    unfold need at h
    split at h
    · omega
    · split at h
      · omega
      · split at h
        · omega
        · split at h <;> omega
  have hn4 : need (by' l 0) (by' l 1) = 4 → 128 ≤ by' l 0 % 8 * 262144 + by' l 1 % 64 * 4096 := by
    intro h
    unfold need at h
    split at h
    · omega
    · split at h
      · omega
      · split at h
        · omega
        · split at h <;> omega
  unfold rune num
  unfold W at h ⊢
  rcases wd_cases (by' l 0) (by' l 1) (by' l 2) (by' l 3) with g | g | g | g | g
  · omega
  · rw [g.1, if_neg (by decide), if_pos rfl]; have := hn2 g.2.1; omega
  · rw [g.1, if_neg (by decide), if_neg (by decide), if_pos rfl]; exact Nat.le_trans (hn3 g.2.1) (Nat.le_add_right _ _)
  · rw [g.1, if_neg (by decide), if_neg (by decide), if_neg (by decide), if_pos rfl]; exact Nat.le_trans (hn4 g.2.1) (Nat.le_trans (Nat.le_add_right _ _) (Nat.le_add_right _ _))
  · omega
theorem rune_low {l : List UInt8} (h : rune l < 128) : W l = 1 ∧ rune l = by' l 0 := by
  have h4 := W_le4 l
  have h1 : W l = 1 := by
    by_cases h0 : W l = 0
    · have := rune_0 h0; omega
    · by_cases h2 : 2 ≤ W l
      · have := rune_big h2; omega
      · omega
  refine ⟨h1, ?_⟩
  unfold rune num
  rw [h1, if_pos rfl]
theorem rune_of_low {l : List UInt8} (h : by' l 0 < 128) : W l = 1 ∧ rune l = by' l 0 := by
  have h1 : W l = 1 := by
    have hn : need (by' l 0) (by' l 1) = 1 := by unfold need; rw [if_pos h]
    unfold W wd
    rw [if_pos hn]
  refine ⟨h1, ?_⟩
  unfold rune num
  rw [h1, if_pos rfl]
theorem rune_iff (l : List UInt8) (b : Nat) (hb : b < 128) : rune l = b ↔ by' l 0 = b := by
  constructor
  · intro h; subst h; exact (rune_low hb).2.symm
  · intro h; subst h; exact (rune_of_low hb).2
theorem head_runes (l : List UInt8) : (runesV l).head? = some 10 ↔ by' l 0 = 10 := by
  by_cases h : l = []
  · subst h; simp [runesV_nil, by']
  · rw [runesV_cons l h, List.head?_cons, Option.some.injEq]
    exact rune_iff l 10 (by decide)
theorem lst_drop {l : List UInt8} {k : Nat} (h : k < l.length) : lst (l.drop k) = lst l := by
  unfold lst
  rw [by'_drop, List.length_drop]
  congr 1
  omega
theorem last_runes (l : List UInt8) : ∀ a, l ≠ [] → (lastR a (runesV l) = 13 ↔ lst l = 13) := by
  induction l using byChars with
  | h0 => intro a h; exact absurd rfl h
  | h1 l hl ih =>
    intro a _
    have hc := cw_len l hl
    rw [runesV_cons l hl]
    show lastR (rune l) (runesV (l.drop (cw l))) = 13 ↔ _
    by_cases hr : cw l = l.length
    · rw [List.drop_of_length_le (by omega), runesV_nil]
      show rune l = 13 ↔ _
      rw [rune_iff l 13 (by decide)]
      unfold lst
      by_cases h1 : cw l = 1
      · rw [← hr, h1]
      · have hp := cw_pos l
        have hW := cw_big (l := l) (by omega)
        have hco := W_co l (l.length - 1) (by omega) (by omega)
        have hle := W_lead l (by omega)
        have := hco.1
        omega
    · have hne : l.drop (cw l) ≠ [] := fun e => by have := congrArg List.length e; rw [List.length_drop] at this; simp at this; omega
      rw [ih (rune l) hne, lst_drop (by omega)]
theorem lst_13 (l : List UInt8) : lastR 0 (runesV l) = 13 ↔ lst l = 13 := by
  by_cases h : l = []
  · subst h; simp [runesV_nil, lastR, lst, by']
  · exact last_runes l 0 h

theorem chn_le (l : List UInt8) : chn l ≤ l.length ∧ l.length ≤ 4 * chn l := by
  induction l using byChars with
  | h0 => simp [chn, runesV_nil]
  | h1 l hl ih =>
    unfold chn at *
    rw [runesV_cons l hl, List.length_cons]
    have h1 := cw_pos l
    have h4 := cw_le4 l
    have hc := cw_len l hl
    rw [List.length_drop] at ih
    omega
theorem lin_le (l : List UInt8) : lin l ≤ chn l := linR_le _ _
theorem chn_nil : chn [] = 0 := rfl
theorem lin_nil : lin [] = 0 := rfl
theorem chn_step (l : List UInt8) (h : l ≠ []) : chn l = 1 + chn (l.drop (cw l)) := by
  unfold chn; rw [runesV_cons l h, List.length_cons]; omega

/-- What the first character adds to the line ends, as a look ahead tells it. -/
def refOne (l : List UInt8) : Nat := if by' l 0 = 10 ∨ (by' l 0 = 13 ∧ by' l 1 ≠ 10) ∨ (W l ≠ 0 ∧ (rune l = 133 ∨ rune l = 8232 ∨ rune l = 8233)) then 1 else 0
theorem lin_step (l : List UInt8) (h : l ≠ []) : lin l = refOne l + lin (l.drop (cw l)) := by
  unfold lin
  have hb := linR_behind (runesV (l.drop (cw l))) (rune l)
  simp only [head_runes, by'_drop, Nat.add_zero] at hb
  rw [runesV_cons l h]
  show oneR 0 (rune l) + linR (rune l) _ = _
  unfold oneR refOne
  by_cases h13 : rune l = 13
  · have hw := rune_low (l := l) (by omega)
    have hc : cw l = 1 := by rw [cw_W (by omega)]; exact hw.1
    rw [if_pos ⟨by rw [h13]; rfl, by omega⟩]
    rw [hc] at hb ⊢
    by_cases h10 : by' l 1 = 10
    · rw [if_pos ⟨h13, h10⟩] at hb
      rw [if_neg (by omega)]
      omega
    · rw [if_neg (fun k => h10 k.2)] at hb
      rw [if_pos (by omega)]
      omega
  · rw [if_neg (fun k => h13 k.1)] at hb
    have h13' : by' l 0 ≠ 13 := fun k => h13 ((rune_iff l 13 (by decide)).2 k)
    have h10 := rune_iff l 10 (by decide)
    have hW : W l = 0 → rune l = 65533 := rune_0
    have : (endR (rune l) = true ∧ ¬ (0 = 13 ∧ rune l = 10)) ↔ (by' l 0 = 10 ∨ (by' l 0 = 13 ∧ by' l 1 ≠ 10) ∨ (W l ≠ 0 ∧ (rune l = 133 ∨ rune l = 8232 ∨ rune l = 8233))) := by
      unfold endR
      simp only [Bool.or_eq_true, decide_eq_true_eq]
      omega
    simp only [this]
    omega
/-- What the first character adds, as a look back tells it (behind the rune a). -/
theorem linR_step (l : List UInt8) (h : l ≠ []) (a : Nat) : linR a (runesV l) = oneR a (rune l) + linR (rune l) (runesV (l.drop (cw l))) := by
  rw [runesV_cons l h]; rfl

theorem seam_two (la lb : List UInt8) : ∃ n k : Nat, n = pendingV la ∧ k = closesV (la.drop (la.length - n)) lb ∧ n ≤ 3 ∧ n ≤ la.length ∧ k ≤ lb.length ∧ n + k ≤ 4 ∧ (n = 0 → k = 0) ∧
    ((k = 0 ∧ runesV (la ++ lb) = runesV la ++ runesV lb) ∨
     (0 < k ∧ ∃ R S : List Nat, runesV la = R ++ List.replicate n 65533 ∧ runesV lb = List.replicate k 65533 ++ S ∧ runesV (la ++ lb) = R ++ rune (la.drop (la.length - n) ++ lb.take k) :: S ∧
       W (la.drop (la.length - n) ++ lb.take k) = n + k)) := by
  obtain ⟨n, k, hn, hk, h3, hni, hkb, hnk, h0, hb, hcase⟩ := seam (la ++ lb) la.length (by rw [List.length_append]; omega)
  have hcut : ((la ++ lb).drop (la.length - n)).take (n + k) = la.drop (la.length - n) ++ lb.take k := by
    have := cut_eq (la ++ lb) la.length (la.length - n) (by omega) (by rw [List.length_append]; omega) k
    rw [List.take_left, List.drop_left, show la.length - (la.length - n) + k = n + k by omega] at this
    exact this.symm
  rw [List.take_left] at hn hk
  rw [List.drop_left] at hk hkb
  rw [List.take_left, List.drop_left, hcut] at hcase
  refine ⟨n, k, hn, hk, h3, hni, hkb, hnk, h0, ?_⟩
  rcases hcase with h | ⟨h, R, S, e1, e2, e3, e4, e5, e6⟩
  · exact .inl h
  · exact .inr ⟨h, R, S, e1, e2, e3, e4⟩

/-- The character that comes about at a seam, and its width; 0, 0, if none does. -/
def pnd (t : List UInt8) : List UInt8 := t.drop (t.length - pendingV t)
def acrossV (t h : List UInt8) : Nat × Nat := if closesV (pnd t) h = 0 then (0, 0) else (rune (pnd t ++ h.take (closesV (pnd t) h)), cw (pnd t ++ h.take (closesV (pnd t) h)))
/-- What two texts have more together than each for itself: characters, line ends. -/
def seamV (t h : List UInt8) : Int × Int :=
  if 0 < (acrossV t h).2 then (1 - ((acrossV t h).2 : Int), if endR (acrossV t h).1 = true then 1 else 0)
  else if lst t = 13 ∧ by' h 0 = 10 then (0, -1) else (0, 0)

theorem seam_counts (a b : List UInt8) : (chn (a ++ b) : Int) = chn a + chn b + (seamV a b).1 ∧ (lin (a ++ b) : Int) = lin a + lin b + (seamV a b).2 ∧
    -3 ≤ (seamV a b).1 ∧ (seamV a b).1 ≤ 0 ∧ -1 ≤ (seamV a b).2 ∧ (seamV a b).2 ≤ 1 := by
  obtain ⟨n, k, hn, hk, h3, hni, hkb, hnk, h0, hcase⟩ := seam_two a b
  have hp : pnd a = a.drop (a.length - n) := by unfold pnd; rw [hn]
  rw [← hp] at hk hcase
  unfold seamV acrossV chn lin
  rw [← hk]
  rcases hcase with ⟨hk0, e⟩ | ⟨hk0, R, S, e1, e2, e3, e4⟩
  · rw [if_pos hk0, if_neg (by simp), e]
    have hj := lin_join (runesV a) (runesV b)
    simp only [lst_13, head_runes] at hj
    rw [List.length_append]
    by_cases hc : lst a = 13 ∧ by' b 0 = 10
    · rw [if_pos hc] at hj ⊢
      dsimp only
      omega
    · rw [if_neg hc] at hj ⊢
      dsimp only
      omega
  · have hcw : cw (pnd a ++ b.take k) = n + k := by rw [cw_W (by omega), e4]
    have hbig := rune_big (l := pnd a ++ b.take k) (by omega)
    rw [if_neg (show ¬ k = 0 by omega), if_pos (show 0 < cw _ by omega)]
    dsimp only
    rw [hcw, e1, e2, e3]
    generalize rune (pnd a ++ b.take k) = r at *
    have l1 : linR 0 (R ++ List.replicate n 65533) = linR 0 R := by rw [linR_append, linR_wrong]; omega
    have l2 : linR 0 (List.replicate k 65533 ++ S) = linR 0 S := by rw [linR_append, linR_wrong, lastR_wrong k hk0, linR_other (by omega)]; omega
    have l3 : linR 0 (R ++ r :: S) = linR 0 R + (if endR r = true then 1 else 0) + linR 0 S := by
      rw [linR_append]
      show linR 0 R + (oneR _ r + linR r S) = _
      rw [linR_other (by omega) S]
      unfold oneR
      have : (endR r = true ∧ ¬ (lastR 0 R = 13 ∧ r = 10)) ↔ endR r = true := ⟨fun k => k.1, fun k => ⟨k, by omega⟩⟩
      simp only [this]
      omega
    rw [l1, l2, l3]
    simp only [List.length_append, List.length_cons, List.length_replicate]
    by_cases he : endR r = true
    · rw [if_pos he, if_pos he]; omega
    · rw [if_neg he, if_neg he]; omega

/-- Of a text that is cut, the last three and the first three bytes tell the seam. -/
def tl3 (l : List UInt8) : List UInt8 := l.drop (l.length - 3)
theorem tl3_len (l : List UInt8) : (tl3 l).length = min 3 l.length := by unfold tl3; rw [List.length_drop]; omega
theorem tl3_drop (l : List UInt8) (n : Nat) (h : n ≤ 3) (hn : n ≤ l.length) : (tl3 l).drop ((tl3 l).length - n) = l.drop (l.length - n) := by
  rw [tl3_len]; unfold tl3; rw [List.drop_drop]; congr 1; omega
theorem pendF_tl3 (l : List UInt8) : ∀ f n, n + f = 4 → pendF (tl3 l) f n = pendF l f n := by
  intro f
  induction f with
  | zero => intro n _; rfl
  | succ f ih =>
    intro n h
    unfold pendF
    rw [tl3_len, ih (n + 1) (by omega)]
    by_cases hn : n ≤ l.length
    · rw [if_pos (by omega), if_pos hn, ← tl3_len, tl3_drop l n (by omega) hn]
    · rw [if_neg (by omega), if_neg hn]
theorem pending_tl3 (l : List UInt8) : pendingV (tl3 l) = pendingV l := pendF_tl3 l 3 1 rfl
theorem pnd_tl3 (l : List UInt8) : pnd (tl3 l) = pnd l := by
  have h := pend_le l
  unfold pnd
  rw [pending_tl3, tl3_drop l _ h.1 h.2]
theorem lst_tl3 (l : List UInt8) : lst (tl3 l) = lst l := by
  by_cases h : l = []
  · subst h; rfl
  · have : 0 < l.length := List.length_pos_iff.2 h
    exact lst_drop (by omega)
theorem closes_take (p q : List UInt8) : closesV p (q.take 3) = closesV p q := by unfold closesV; rw [List.take_take]; rfl
theorem closes_le (p q : List UInt8) : closesV p q ≤ 3 := by
  by_cases h : 0 < closesV p q
  · have := closes_pos h
    have := W_le4 (p ++ q.take 3)
    omega
  · omega
theorem seamV_cut (a b : List UInt8) : seamV (tl3 a) (b.take 3) = seamV a b := by
  have h1 : acrossV (tl3 a) (b.take 3) = acrossV a b := by
    unfold acrossV
    rw [pnd_tl3, closes_take, List.take_take, Nat.min_eq_left (closes_le _ _)]
  have h2 : by' (b.take 3) 0 = by' b 0 := by rw [by'_take, if_pos (by omega)]
  unfold seamV
  rw [h1, h2, lst_tl3]

/-- What stands ahead of the seam, as the document's answer takes it. -/
def refX (t : List UInt8) : List UInt8 := if pendingV t = 0 ∧ lst t = 13 then [13] else pnd t
theorem pending_pnd (t : List UInt8) : pendingV (pnd t) = pendingV t ∧ pnd (pnd t) = pnd t := by
  have hle := pend_le t
  have hl : (pnd t).length = pendingV t := by unfold pnd; rw [List.length_drop]; omega
  have key : pendingV (pnd t) = pendingV t := by
    by_cases h0 : pendingV t = 0
    · have : pnd t = [] := List.eq_nil_of_length_eq_zero (by omega)
      rw [this, h0]; rfl
    · have hp := pend_proper (l := t) (by omega)
      refine pend_eq (l := pnd t) (n := pendingV t) (by omega) hle.1 (by omega) (by rw [hl, Nat.sub_self]; exact hp) ?_
      intro m hm1 hm2
      have hpr := proper_pos hp
      obtain ⟨h1, h3, q, hq⟩ := hpr
      have hco := W_co (t.drop (t.length - pendingV t) ++ q) (pendingV t - m) (by omega) (by rw [List.length_drop] at hq; omega)
      have : by' (t.drop (t.length - pendingV t) ++ q) (pendingV t - m) = by' (pnd t) (pendingV t - m) := by
        unfold by' pnd
        rw [List.getElem?_append_left (by rw [List.length_drop]; omega)]
      rw [this] at hco
      rw [hl]
      exact hco
  refine ⟨key, ?_⟩
  show (pnd t).drop ((pnd t).length - pendingV (pnd t)) = pnd t
  rw [key, hl, Nat.sub_self, List.drop_zero]
theorem across_none {t : List UInt8} (h : pendingV t = 0) (q : List UInt8) : acrossV t q = (0, 0) := by
  have : pnd t = [] := by unfold pnd; rw [h]; simp
  unfold acrossV
  rw [this, if_pos (by unfold closesV; rw [if_pos (.inl rfl)])]
theorem seamV_refX (t h : List UInt8) : seamV (refX t) h = seamV t h := by
  unfold refX
  by_cases hc : pendingV t = 0 ∧ lst t = 13
  · rw [if_pos hc]
    unfold seamV
    rw [across_none hc.1, across_none (t := [13]) (by decide), hc.2]
    rfl
  · rw [if_neg hc]
    by_cases h0 : pendingV t = 0
    · have hp : pnd t = [] := by unfold pnd; rw [h0]; simp
      have h13 : lst t ≠ 13 := fun k => hc ⟨h0, k⟩
      rw [hp]
      unfold seamV
      rw [across_none h0, across_none (t := []) (by decide)]
      have e0 : ¬ 0 < ((0, 0) : Nat × Nat).2 := by decide
      have e1 : ¬ (lst [] = 13 ∧ by' h 0 = 10) := fun k => absurd k.1 (by decide)
      have e2 : ¬ (lst t = 13 ∧ by' h 0 = 10) := fun k => h13 k.1
      rw [if_neg e0, if_neg e0, if_neg e1, if_neg e2]
    · obtain ⟨k1, k2⟩ := pending_pnd t
      have hle := pend_le t
      have hl : lst (pnd t) = lst t := lst_drop (by omega)
      have ha : acrossV (pnd t) h = acrossV t h := by unfold acrossV; rw [k2]
      unfold seamV
      rw [ha, hl]
/-- The document's answer at a seam. -/
theorem ref_seam (t h : List UInt8) : (chn (refX t ++ h) : Int) - chn (refX t) - chn h = (seamV t h).1 ∧ (lin (refX t ++ h) : Int) - lin (refX t) - lin h = (seamV t h).2 := by
  have := seam_counts (refX t) h
  rw [seamV_refX] at this
  omega
end Go.Proofs.Ytojbclifafmllaa
