/- What the tokens of a line are, where they stand, and what each is alone (no program in it). -/
import Derived.Test.YtnodeapjgicclaaDoorSAgL
namespace Go.Proofs.YtnodeapjgicclaaDoor
open Go.RowKit Go.Shelf
set_option linter.unusedVariables false

theorem Sc_blanks {l : List UInt8} {q : Nat} (acc : List Tk) (hq : q ≤ l.length) (h : ∀ b ∈ l.drop q, blankC b.toNat = true) : Sc l q acc = .inl acc := by
  have hs := skp_all _ _ h
  rw [List.length_drop] at hs
  rw [Sc_eq acc hq (show q + skp blankC (l.drop q) = l.length by rw [hs]; omega), if_pos rfl]
theorem blank_head {B : List UInt8} (h : ∀ b ∈ B, blankC b.toNat = true) : B = [] ∨ blankC (by' B 0) = true := by
  cases B with
  | nil => exact .inl rfl
  | cons a t => exact .inr (h a List.mem_cons_self)
theorem alone_run {X B : List UInt8} (hne : X ≠ []) (hX : ∀ b ∈ X, runC b.toNat = true) (hB : ∀ b ∈ B, blankC b.toNat = true) : Sc (X ++ B) 0 [] = .inl [saidT X 0] := by
  rw [Sc_run [] (L := X ++ B) (q := 0) rfl (Nat.zero_le _) hne hX (blank_head hB), Nat.zero_add]
  exact Sc_blanks _ (by rw [List.length_append]; omega) (by rw [List.drop_left]; exact hB)
theorem alone_text {Y B T : List UInt8} {E : Nat} (hQ : Qt Y = (T, E, true)) (hB : ∀ b ∈ B, blankC b.toNat = true) : Sc (34 :: (Y.take E ++ B)) 0 [] = .inl [(3, 0, T, 0)] := by
  have hle := Qt_le Y
  rw [hQ] at hle
  simp only at hle
  have hl := Qt_loc Y.length Y (Nat.le_refl _) T E hQ B
  have hlen : (34 :: (Y.take E ++ B)).length = 1 + E + B.length := by rw [List.length_cons, List.length_append, List.length_take]; omega
  have h0 : 0 + skp blankC ((34 :: (Y.take E ++ B)).drop 0) = 0 := rfl
  have hd : (34 :: (Y.take E ++ B)).drop (0 + 1) = Y.take E ++ B := rfl
  rw [Sc_eq [] (Nat.zero_le _) h0, hlen, if_neg (by omega), if_pos (show by' (34 :: (Y.take E ++ B)) 0 = 34 from rfl), hd, hl]
  simp only [if_true]
  have hd2 : (34 :: (Y.take E ++ B)).drop (0 + 1 + E) = B := by
    rw [show 0 + 1 + E = E + 1 by omega, List.drop_succ_cons, drop_take_app (Nat.le_refl _) hle, Nat.sub_self, List.take_zero, List.nil_append]
  have hb : by' (34 :: (Y.take E ++ B)) (0 + 1 + E) = by' B 0 := by
    have : by' (34 :: (Y.take E ++ B)) (0 + 1 + E) = by' ((34 :: (Y.take E ++ B)).drop (0 + 1 + E)) 0 := by rw [by'_drop _ (0 + 1 + E) 0]; rfl
    rw [this, hd2]
  rw [if_pos]
  · exact Sc_blanks _ (by rw [hlen]; omega) (by rw [hd2]; exact hB)
  · rcases blank_head hB with e | e
    · left; rw [e]; simp
    · right; rw [hb]; exact e
def strip0 (t : Tk) : Tk := (t.1, 0, t.2.2.1, t.2.2.2)
/-- Where the next token begins, or the line ends. -/
def nextAt (l : List UInt8) : List Tk → Nat
  | [] => l.length
  | u :: _ => u.2.1
/-- Tokens as they stand in a line. -/
def Gd (l : List UInt8) : List Tk → Prop
  | [] => True
  | t :: us => okT t ∧ t.2.1 < nextAt l us ∧ nextAt l us ≤ l.length ∧ Sc ((l.drop t.2.1).take (nextAt l us - t.2.1)) 0 [] = .inl [strip0 t] ∧ Gd l us
theorem cut3 (l : List UInt8) {p e N : Nat} (h1 : p ≤ e) (h2 : e ≤ N) : (l.drop p).take (N - p) = (l.drop p).take (e - p) ++ (l.drop e).take (N - e) := by
  rw [show N - p = (e - p) + (N - e) by omega, List.take_add, List.drop_drop, show p + (e - p) = e by omega]
theorem skp_take (is : Nat → Bool) (l : List UInt8) : ∀ b ∈ l.take (skp is l), is b.toNat = true := by
  induction l with
  | nil => intro b hb; simp at hb
  | cons a t ih =>
    simp only [skp]
    split
    · rename_i ha
      intro b hb
      rw [List.take_succ_cons] at hb
      rcases List.mem_cons.1 hb with e | e
      · subst e; exact ha
      · exact ih b e
    · intro b hb; simp at hb
theorem said_ok {X : List UInt8} (p : Nat) (hne : X ≠ []) (hX : ∀ b ∈ X, runC b.toNat = true) : okT (saidT X p) ∧ saidT X 0 = strip0 (saidT X p) ∧ (saidT X p).2.1 = p := by
  unfold saidT strip0
  cases hn : numK X with
  | none => exact ⟨.inl ⟨rfl, isRun_iff.2 ⟨hne, hX⟩, hn, rfl⟩, rfl, rfl⟩
  | some v =>
    obtain ⟨n, rfl⟩ := numK_nonneg hn
    have h2 := ((numK_iff X n).1 hn).2
    exact ⟨.inr (.inl ⟨rfl, rfl, n, rfl, ((rn_iff X 0 n (by omega)).1 h2).2⟩), rfl, rfl⟩
theorem Sc_shape (l : List UInt8) (k : Nat) : ∀ (q : Nat) (acc ts : List Tk), q ≤ l.length → l.length - q ≤ k → Sc l q acc = .inl ts → ∃ us, ts = acc ++ us ∧ Gd l us ∧ nextAt l us = q + skp blankC (l.drop q) := by
  induction k with
  | zero =>
    intro q acc ts hq hk h
    have hqe : q = l.length := by omega
    have hd : l.drop q = [] := List.drop_eq_nil_of_le (by omega)
    have hp : q + skp blankC (l.drop q) = q := by rw [hd]; rfl
    rw [Sc_eq acc hq hp, if_pos hqe] at h
    cases h
    exact ⟨[], by simp, trivial, by rw [hp]; exact hqe.symm⟩
  | succ k ih =>
    intro q acc ts hq hk h
    obtain ⟨p, hp⟩ : ∃ p, q + skp blankC (l.drop q) = p := ⟨_, rfl⟩
    have hsl := skp_le blankC (l.drop q)
    rw [List.length_drop] at hsl
    rw [Sc_eq acc hq hp] at h
    rw [hp]
    by_cases hpe : p = l.length
    · rw [if_pos hpe] at h
      cases h
      exact ⟨[], by simp, trivial, hpe.symm⟩
    · rw [if_neg hpe] at h
      by_cases c34 : by' l p = 34
      · rw [if_pos c34] at h
        obtain ⟨T, E, ok, hQ⟩ : ∃ T E ok, Qt (l.drop (p + 1)) = (T, E, ok) := ⟨_, _, _, rfl⟩
        have hle := Qt_le (l.drop (p + 1))
        rw [hQ, List.length_drop] at hle
        rw [hQ] at h
        simp only at h hle
        cases ok with
        | false => simp at h
        | true =>
          simp only [if_true] at h
          by_cases hc : p + 1 + E = l.length ∨ blankC (by' l (p + 1 + E)) = true
          · rw [if_pos hc] at h
            obtain ⟨us, h1, h2, h3⟩ := ih (p + 1 + E) _ ts (by omega) (by omega) h
            have hs2 := skp_le blankC (l.drop (p + 1 + E))
            rw [List.length_drop] at hs2
            refine ⟨(3, p, T, 0) :: us, by rw [h1]; simp, ⟨.inr (.inr ⟨rfl, rfl⟩), ?_, ?_, ?_, h2⟩, rfl⟩
            · rw [h3]; show p < _; omega
            · rw [h3]; omega
            · rw [h3]
              show Sc ((l.drop p).take (p + 1 + E + skp blankC (l.drop (p + 1 + E)) - p)) 0 [] = _
              rw [cut3 l (show p ≤ p + 1 + E by omega) (by omega), Nat.add_sub_cancel_left]
              have hX : (l.drop p).take (p + 1 + E - p) = 34 :: (l.drop (p + 1)).take E := by
                rw [List.drop_eq_getElem_cons (show p < l.length by omega), show p + 1 + E - p = E + 1 by omega, List.take_succ_cons]
                congr 1
                refine UInt8.toNat_inj.1 ?_
                unfold by' at c34
                rw [List.getElem?_eq_getElem (show p < l.length by omega)] at c34
                exact c34
              rw [hX, List.cons_append]
              exact alone_text hQ (skp_take _ _)
          · rw [if_neg hc] at h; cases h
      · rw [if_neg c34] at h
        have hrl := skp_le runC (l.drop p)
        rw [List.length_drop] at hrl
        by_cases hr : 0 < skp runC (l.drop p)
        · rw [if_pos hr] at h
          by_cases hc : p + skp runC (l.drop p) = l.length ∨ blankC (by' l (p + skp runC (l.drop p))) = true
          · rw [if_pos hc] at h
            obtain ⟨us, h1, h2, h3⟩ := ih (p + skp runC (l.drop p)) _ ts (by omega) (by omega) h
            have hs2 := skp_le blankC (l.drop (p + skp runC (l.drop p)))
            rw [List.length_drop] at hs2
            have hne : (l.drop p).take (skp runC (l.drop p)) ≠ [] := fun e => by
              have h0 := congrArg List.length e
              rw [List.length_take, List.length_drop, List.length_nil] at h0
              omega
            obtain ⟨g1, g2, g3⟩ := said_ok p hne (skp_take runC (l.drop p))
            refine ⟨saidT ((l.drop p).take (skp runC (l.drop p))) p :: us, by rw [h1]; simp, ⟨g1, ?_, ?_, ?_, h2⟩, g3⟩
            · rw [h3, g3]; omega
            · rw [h3]; omega
            · rw [h3, g3, cut3 l (show p ≤ p + skp runC (l.drop p) by omega) (by omega), Nat.add_sub_cancel_left, Nat.add_sub_cancel_left, ← g2]
              exact alone_run hne (skp_take _ _) (skp_take _ _)
          · rw [if_neg hc] at h; cases h
        · rw [if_neg hr] at h; cases h
theorem Sc_good {l : List UInt8} {ts : List Tk} (h : Sc l 0 [] = .inl ts) : Gd l ts := by
  obtain ⟨us, h1, h2, _⟩ := Sc_shape l l.length 0 [] ts (Nat.zero_le _) (by omega) h
  rw [List.nil_append] at h1
  rw [h1]
  exact h2
theorem Gd_ok {l : List UInt8} {ts : List Tk} (h : Gd l ts) : ∀ t ∈ ts, okT t := by
  induction ts with
  | nil => intro t ht; simp at ht
  | cons u us ih =>
    intro t ht
    rcases List.mem_cons.1 ht with e | e
    · subst e; exact h.1
    · exact ih h.2.2.2.2 t e
theorem Gd_at {l : List UInt8} {ts : List Tk} (h : Gd l ts) : ∀ (i : Nat) (t : Tk), ts[i]? = some t → t.2.1 < nextAt l (ts.drop (i + 1)) ∧ nextAt l (ts.drop (i + 1)) ≤ l.length ∧ Sc ((l.drop t.2.1).take (nextAt l (ts.drop (i + 1)) - t.2.1)) 0 [] = .inl [strip0 t] := by
  induction ts with
  | nil => intro i t ht; simp at ht
  | cons u us ih =>
    intro i t ht
    cases i with
    | zero =>
      simp only [List.getElem?_cons_zero, Option.some.injEq] at ht
      subst ht
      exact ⟨h.2.1, h.2.2.1, h.2.2.2.1⟩
    | succ i =>
      simp only [List.getElem?_cons_succ] at ht
      exact ih h.2.2.2.2 i t ht
/-- Tokens of a line may all be. -/
theorem okT_may {t : Tk} (h : okT t) : mayI (toI t) = true := by
  obtain ⟨k, a, tx, n⟩ := t
  rcases h with ⟨h1, h2, h3, h4⟩ | ⟨h1, h2, m, h3, h4⟩ | ⟨h1, h2⟩
  · simp only at h1 h2 h3 h4
    subst h1 h4
    unfold mayI toI
    have e : bl ⟨tx.toArray⟩ = tx := by simp [bl]
    rw [if_pos rfl, e, h2, h3]
    rfl
  · simp only at h1 h2 h3
    subst h1 h2 h3
    simp [mayI, toI, bl]
  · simp only at h1 h2
    subst h1 h2
    simp [mayI, toI]
end Go.Proofs.YtnodeapjgicclaaDoor
