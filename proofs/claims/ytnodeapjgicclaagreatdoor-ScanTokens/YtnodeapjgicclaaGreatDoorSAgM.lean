/- Tokens printed and read again (no program in it). -/
import Derived.Test.YtnodeapjgicclaaGreatDoorSWrk
import Derived.Test.YtnodeapjgicclaaGreatDoorSNumM
namespace Go.Proofs.YtnodeapjgicclaaGreatDoor
open Go.RowKit Go.Shelf
set_option linter.unusedVariables false

theorem Sc_blank {l : List UInt8} {q : Nat} (acc : List Tk) (hq : q < l.length) (hb : blankC (by' l q) = true) : Sc l q acc = Sc l (q + 1) acc := by
  have hs := skp_step hq hb
  rw [Sc_eq acc (by omega) rfl, Sc_eq acc (show q + 1 ≤ l.length by omega) rfl, hs]
  rw [show q + (skp blankC (l.drop (q + 1)) + 1) = q + 1 + skp blankC (l.drop (q + 1)) by omega]
theorem skp_all (is : Nat → Bool) (l : List UInt8) (h : ∀ b ∈ l, is b.toNat = true) : skp is l = l.length := by
  induction l with
  | nil => rfl
  | cons a t ih =>
    simp only [skp, List.length_cons]
    rw [if_pos (h a List.mem_cons_self), ih (fun b hb => h b (List.mem_cons_of_mem _ hb))]
theorem skp_mem (is : Nat → Bool) (l : List UInt8) (h : skp is l = l.length) : ∀ b ∈ l, is b.toNat = true := by
  induction l with
  | nil => intro b hb; simp at hb
  | cons a t ih =>
    simp only [skp, List.length_cons] at h
    split at h
    · rename_i ha
      intro b hb
      rcases List.mem_cons.1 hb with e | e
      · subst e; exact ha
      · exact ih (by omega) b e
    · omega
theorem skp_app (is : Nat → Bool) (X Y : List UInt8) (h : ∀ b ∈ X, is b.toNat = true) (hY : Y = [] ∨ is (by' Y 0) = false) : skp is (X ++ Y) = X.length := by
  induction X with
  | nil =>
    cases Y with
    | nil => rfl
    | cons y ys =>
      rcases hY with e | e
      · cases e
      · have e' : is y.toNat = false := e
        simp [skp, e']
  | cons a t ih =>
    simp only [List.cons_append, skp, List.length_cons]
    rw [if_pos (h a List.mem_cons_self), ih (fun b hb => h b (List.mem_cons_of_mem _ hb))]
theorem blank_run {c : Nat} (h : blankC c = true) : runC c = false := by
  unfold blankC at h
  simp only [Bool.or_eq_true, beq_iff_eq] at h
  rcases h with rfl | rfl <;> decide
theorem run_blank {c : Nat} (h : runC c = true) : blankC c = false := by
  cases hb : blankC c with
  | false => rfl
  | true => rw [blank_run hb] at h; cases h
theorem run_34 {c : Nat} (h : runC c = true) : c ≠ 34 := fun e => by subst e; exact absurd h (by decide)
theorem digits_run (u : Nat) : ∀ b ∈ Lib.decDigits u, runC b.toNat = true := by
  induction u using Nat.strongRecOn with
  | _ u ih =>
    intro b hb
    have hd : ∀ d, d < 10 → runC (UInt8.ofNat (48 + d)).toNat = true := by
      intro d h
      rw [ofNat_dig d h]
      unfold runC
      rw [decide_eq_true (show 48 ≤ 48 + d by omega), decide_eq_true (show 48 + d ≤ 57 by omega)]
      simp
    by_cases h : u < 10
    · rw [Lib.decDigits_one h] at hb
      simp only [List.mem_cons, List.not_mem_nil, or_false] at hb
      subst hb
      exact hd u h
    · rw [decDigits_rec u h] at hb
      rcases List.mem_append.1 hb with e | e
      · exact ih (u / 10) (by omega) b e
      · simp only [List.mem_cons, List.not_mem_nil, or_false] at e
        subst e
        exact hd (u % 10) (by omega)
/-- A token that some line has. -/
def okT (t : Tk) : Prop := (t.1 = 1 ∧ isRunL t.2.2.1 = true ∧ numK t.2.2.1 = none ∧ t.2.2.2 = 0) ∨ (t.1 = 2 ∧ t.2.2.1 = [] ∧ ∃ m : Nat, t.2.2.2 = (m : Int) ∧ m ≤ 9223372036854775807) ∨ (t.1 = 3 ∧ t.2.2.2 = 0)
/-- How it is printed. -/
def pcT (t : Tk) : List UInt8 := pT (toI t)
theorem isRun_iff {l : List UInt8} : isRunL l = true ↔ l ≠ [] ∧ ∀ b ∈ l, runC b.toNat = true := by
  unfold isRunL
  rw [Bool.and_eq_true, decide_eq_true_eq, decide_eq_true_eq]
  constructor
  · rintro ⟨h1, h2⟩
    exact ⟨fun e => by subst e; simp [skp] at h1, skp_mem _ _ h2⟩
  · rintro ⟨h1, h2⟩
    have := skp_all _ _ h2
    have h0 : 0 < l.length := List.length_pos_iff.2 h1
    exact ⟨by omega, this⟩
/-- A run at a place of a line. -/
theorem Sc_run {L : List UInt8} {q : Nat} (acc : List Tk) {X Y : List UInt8} (hL : L.drop q = X ++ Y) (hq : q ≤ L.length) (hne : X ≠ []) (hX : ∀ b ∈ X, runC b.toNat = true) (hY : Y = [] ∨ blankC (by' Y 0) = true) :
    Sc L q acc = Sc L (q + X.length) (acc ++ [saidT X q]) := by
  have h0 : 0 < X.length := List.length_pos_iff.2 hne
  have hlen : L.length = q + X.length + Y.length := by
    have := congrArg List.length hL
    rw [List.length_drop, List.length_append] at this
    omega
  have hb0 : by' L q = by' (X ++ Y) 0 := by rw [← hL, by'_drop, Nat.add_zero]
  have hr0 : runC (by' L q) = true := by
    rw [hb0]
    cases X with
    | nil => exact absurd rfl hne
    | cons a t => exact hX a List.mem_cons_self
  have hs : skp blankC (L.drop q) = 0 := skp_stop (by omega) (run_blank hr0)
  have hrn : skp runC (L.drop q) = X.length := by
    rw [hL]
    refine skp_app _ X Y hX ?_
    rcases hY with e | e
    · exact .inl e
    · exact .inr (blank_run e)
  rw [Sc_eq acc hq (show q + skp blankC (L.drop q) = q by rw [hs]; rfl), if_neg (by omega), if_neg (run_34 hr0), hrn, if_pos h0]
  rw [if_pos, hL, List.take_left]
  rcases hY with e | e
  · left; rw [hlen, e]; simp
  · right
    rw [show by' L (q + X.length) = by' Y 0 from ?_]
    · exact e
    · have : by' L (q + X.length) = by' (L.drop q) X.length := by rw [by'_drop]
      rw [this, hL]
      unfold by'
      rw [List.getElem?_append_right (Nat.le_refl _), Nat.sub_self]
theorem Sc_tok {L : List UInt8} {q : Nat} (acc : List Tk) {t : Tk} {Y : List UInt8} (ht : okT t) (hL : L.drop q = pcT t ++ Y) (hq : q ≤ L.length) (hY : Y = [] ∨ blankC (by' Y 0) = true) :
    Sc L q acc = Sc L (q + (pcT t).length) (acc ++ [(t.1, q, t.2.2.1, t.2.2.2)]) := by
  obtain ⟨k, a, tx, n⟩ := t
  rcases ht with ⟨h1, h2, h3, h4⟩ | ⟨h1, h2, m, h3, h4⟩ | ⟨h1, h2⟩
  · simp only at h1 h2 h3 h4
    subst h1 h4
    have hp : pcT (1, a, tx, 0) = tx := by unfold pcT pT toI; simp [bl]
    rw [hp] at hL ⊢
    obtain ⟨g1, g2⟩ := isRun_iff.1 h2
    rw [Sc_run acc hL hq g1 g2 hY]
    have : saidT tx q = (1, q, tx, 0) := by unfold saidT; rw [h3]
    rw [this]
  · simp only at h1 h2 h3
    subst h1 h2 h3
    have hp : pcT (2, a, [], (m : Int)) = Lib.decDigits m := by
      unfold pcT pT toI
      rw [if_pos rfl]
      exact Lib.itoa_nonneg m
    rw [hp] at hL ⊢
    rw [Sc_run acc hL hq (digits_ne m) (digits_run m) hY]
    have hk : numK (Lib.decDigits m) = some (m : Int) := (numK_iff _ m).2 ⟨digits_can m, (rn_iff _ 0 m (by omega)).2 ⟨dec_digits m, h4⟩⟩
    have : saidT (Lib.decDigits m) q = (2, q, [], (m : Int)) := by unfold saidT; rw [hk]
    rw [this]
  · simp only at h1 h2
    subst h1 h2
    have hp : pcT (3, a, tx, 0) = 34 :: (qo tx ++ [34]) := by unfold pcT pT toI; simp [bl]
    rw [hp] at hL ⊢
    have hl3 : (34 :: (qo tx ++ [34])).length = (qo tx).length + 2 := by simp
    have hlen : L.length = q + ((qo tx).length + 2) + Y.length := by
      have := congrArg List.length hL
      rw [List.length_drop, List.length_append, hl3] at this
      omega
    have hb0 : by' L q = 34 := by
      have : by' L q = by' (L.drop q) 0 := by rw [by'_drop, Nat.add_zero]
      rw [this, hL]; rfl
    have hs : skp blankC (L.drop q) = 0 := skp_stop (by omega) (by rw [hb0]; decide)
    have hd1 : L.drop (q + 1) = qo tx ++ 34 :: Y := by
      have : L.drop (q + 1) = (L.drop q).drop 1 := by rw [List.drop_drop]
      rw [this, hL]
      simp
    rw [Sc_eq acc hq (show q + skp blankC (L.drop q) = q by rw [hs]; rfl), if_neg (by omega), if_pos hb0, hd1, Qt_qo Y tx]
    simp only [if_true]
    rw [if_pos, hl3, show q + 1 + ((qo tx).length + 1) = q + ((qo tx).length + 2) by omega]
    rcases hY with e | e
    · left; rw [hlen, e]; simp; omega
    · right
      rw [show by' L (q + 1 + ((qo tx).length + 1)) = by' Y 0 from ?_]
      · exact e
      · have : by' L (q + 1 + ((qo tx).length + 1)) = by' (L.drop q) ((qo tx).length + 2) := by rw [by'_drop]; congr 1; omega
        rw [this, hL]
        unfold by'
        rw [List.getElem?_append_right (by rw [hl3]; exact Nat.le_refl _), hl3, Nat.sub_self]
/-- Tokens, but for their places. -/
def strip (t : Tk) : Int × List UInt8 × Int := (t.1, t.2.2.1, t.2.2.2)
theorem Sc_flat (L : List UInt8) (ts : List Tk) (hok : ∀ t ∈ ts, okT t) : ∀ (q : Nat) (acc : List Tk), q ≤ L.length → L.drop q = (ts.map toI).flatMap (fun y => 32 :: pT y) → ∃ us, Sc L q acc = .inl (acc ++ us) ∧ us.map strip = ts.map strip := by
  induction ts with
  | nil =>
    intro q acc hq hL
    have hl : q = L.length := by
      have := congrArg List.length hL
      rw [List.length_drop] at this
      simp at this
      omega
    refine ⟨[], ?_, rfl⟩
    have hL' : L.drop q = [] := hL
    rw [Sc_eq acc hq (show q + skp blankC (L.drop q) = q by rw [hL']; rfl), if_pos hl, List.append_nil]
  | cons t ts ih =>
    intro q acc hq hL
    have hL1 : L.drop q = 32 :: (pcT t ++ (ts.map toI).flatMap (fun y => 32 :: pT y)) := by rw [hL]; simp [pcT]
    have hlt : q < L.length := by
      have := congrArg List.length hL1
      rw [List.length_drop] at this
      simp at this
      omega
    have hb : by' L q = 32 := by
      have : by' L q = by' (L.drop q) 0 := by rw [by'_drop, Nat.add_zero]
      rw [this, hL1]; rfl
    have hd : L.drop (q + 1) = pcT t ++ (ts.map toI).flatMap (fun y => 32 :: pT y) := by
      have : L.drop (q + 1) = (L.drop q).drop 1 := by rw [List.drop_drop]
      rw [this, hL1]; rfl
    have hY : (ts.map toI).flatMap (fun y => (32 : UInt8) :: pT y) = [] ∨ blankC (by' ((ts.map toI).flatMap (fun y => (32 : UInt8) :: pT y)) 0) = true := by
      cases ts with
      | nil => exact .inl rfl
      | cons u us => right; rfl
    rw [Sc_blank acc hlt (by rw [hb]; decide), Sc_tok acc (hok t List.mem_cons_self) hd (by omega) hY]
    have hle : q + 1 + (pcT t).length ≤ L.length := by
      have := congrArg List.length hd
      rw [List.length_drop, List.length_append] at this
      omega
    obtain ⟨us, h1, h2⟩ := ih (fun u hu => hok u (List.mem_cons_of_mem _ hu)) (q + 1 + (pcT t).length) (acc ++ [(t.1, q + 1, t.2.2.1, t.2.2.2)]) hle (by
      have : L.drop (q + 1 + (pcT t).length) = (L.drop (q + 1)).drop (pcT t).length := by rw [List.drop_drop]
      rw [this, hd, List.drop_left])
    refine ⟨(t.1, q + 1, t.2.2.1, t.2.2.2) :: us, ?_, ?_⟩
    · rw [h1]; simp
    · rw [List.map_cons, List.map_cons, h2]; rfl
/-- What is printed is read as the same, but for the places. -/
theorem Sc_printed (ts : List Tk) (hok : ∀ t ∈ ts, okT t) : ∃ us, Sc (prJ (ts.map toI)) 0 [] = .inl us ∧ us.map strip = ts.map strip := by
  cases ts with
  | nil =>
    refine ⟨[], ?_, rfl⟩
    rw [Sc_eq [] (Nat.zero_le _) rfl]
    rfl
  | cons t ts =>
    have hd : (prJ ((t :: ts).map toI)).drop 0 = pcT t ++ (ts.map toI).flatMap (fun y => 32 :: pT y) := rfl
    have hY : (ts.map toI).flatMap (fun y => (32 : UInt8) :: pT y) = [] ∨ blankC (by' ((ts.map toI).flatMap (fun y => (32 : UInt8) :: pT y)) 0) = true := by
      cases ts with
      | nil => exact .inl rfl
      | cons u us => right; rfl
    rw [Sc_tok [] (hok t List.mem_cons_self) hd (Nat.zero_le _) hY]
    have hle : 0 + (pcT t).length ≤ (prJ ((t :: ts).map toI)).length := by
      have := congrArg List.length hd
      rw [List.length_drop, List.length_append] at this
      omega
    obtain ⟨us, h1, h2⟩ := Sc_flat (prJ ((t :: ts).map toI)) ts (fun u hu => hok u (List.mem_cons_of_mem _ hu)) (0 + (pcT t).length) ([] ++ [(t.1, 0, t.2.2.1, t.2.2.2)]) hle (by
      have : (prJ ((t :: ts).map toI)).drop (0 + (pcT t).length) = ((prJ ((t :: ts).map toI)).drop 0).drop (pcT t).length := by rw [List.drop_drop]
      rw [this, hd, List.drop_left])
    refine ⟨(t.1, 0, t.2.2.1, t.2.2.2) :: us, ?_, ?_⟩
    · rw [h1]; simp
    · rw [List.map_cons, List.map_cons, h2]; rfl
end Go.Proofs.YtnodeapjgicclaaGreatDoor
