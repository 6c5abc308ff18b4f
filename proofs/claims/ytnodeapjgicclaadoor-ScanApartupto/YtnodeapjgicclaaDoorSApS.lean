/- The tokens of two lines with a blank between (no program in it). -/
import Derived.Test.YtnodeapjgicclaaDoorSApM
namespace Go.Proofs.YtnodeapjgicclaaDoor
open Go.RowKit Go.Shelf
set_option linter.unusedVariables false

theorem skp_le' (is : Nat → Bool) (l : List UInt8) : skp is l ≤ l.length := skp_le is l
theorem skp_drop (is : Nat → Bool) (l : List UInt8) (j : Nat) (h : j ≤ skp is l) : j + skp is (l.drop j) = skp is l := by
  induction j generalizing l with
  | zero => simp
  | succ j ih =>
    cases l with
    | nil => simp [skp] at h
    | cons a t =>
      simp only [skp] at h ⊢
      by_cases ha : is a.toNat = true
      · rw [if_pos ha] at h ⊢
        rw [List.drop_succ_cons]
        have := ih t (by omega)
        omega
      · rw [if_neg ha] at h; omega
/-- Blanks ahead may be passed. -/
theorem Sc_skip {l : List UInt8} {q j : Nat} (acc : List Tk) (hq : q ≤ l.length) (hj : j ≤ skp blankC (l.drop q)) : Sc l q acc = Sc l (q + j) acc := by
  have hs := skp_le blankC (l.drop q)
  rw [List.length_drop] at hs
  have hd := skp_drop blankC (l.drop q) j hj
  rw [List.drop_drop] at hd
  rw [Sc_eq acc hq rfl, Sc_eq acc (show q + j ≤ l.length by omega) (show q + j + skp blankC (l.drop (q + j)) = q + skp blankC (l.drop q) by omega)]
theorem skp_app_lt (is : Nat → Bool) (X Y : List UInt8) (h : skp is X < X.length) : skp is (X ++ Y) = skp is X := by
  induction X with
  | nil => simp at h
  | cons a t ih =>
    simp only [skp, List.cons_append]
    by_cases ha : is a.toNat = true
    · rw [if_pos ha, if_pos ha]
      simp only [skp, if_pos ha, List.length_cons] at h
      rw [ih (by omega)]
    · rw [if_neg ha, if_neg ha]
theorem skp_app_eq (is : Nat → Bool) (X Y : List UInt8) (h : skp is X = X.length) : skp is (X ++ Y) = X.length + skp is Y := by
  induction X with
  | nil => simp
  | cons a t ih =>
    have := skp_le is t
    simp only [skp, List.cons_append]
    by_cases ha : is a.toNat = true
    · rw [if_pos ha]
      simp only [skp, if_pos ha, List.length_cons] at h
      rw [ih (by omega)]
      simp only [List.length_cons]
      omega
    · simp only [skp, if_neg ha, List.length_cons] at h; omega
theorem blank32 : blankC 32 = true := by decide
theorem run32 : runC 32 = false := by decide
theorem skp_run32 (X Z : List UInt8) : skp runC (X ++ 32 :: Z) = skp runC X := by
  have hle := skp_le runC X
  by_cases h : skp runC X < X.length
  · exact skp_app_lt _ _ _ h
  · rw [skp_app_eq _ _ _ (by omega)]
    have : skp runC (32 :: Z) = 0 := by
      simp only [skp]
      rw [if_neg (by show ¬ runC 32 = true; decide)]
    omega
/-- A line whose tokens are known, and a fault of a line, ahead of a blank. -/
theorem Sc_ahead (A B : List UInt8) (k : Nat) : ∀ (q : Nat) (acc : List Tk), q ≤ A.length → A.length - q ≤ k →
    (∀ ts, Sc A q acc = .inl ts → Sc (A ++ 32 :: B) q acc = Sc (A ++ 32 :: B) (A.length + 1) ts) ∧
    (∀ f, Sc A q acc = .inr f → f ≠ (71, A.length) → ∃ g, Sc (A ++ 32 :: B) q acc = .inr g) := by
  induction k with
  | zero =>
    intro q acc hq hk
    have hqe : q = A.length := by omega
    subst hqe
    have hd : A.drop A.length = [] := List.drop_eq_nil_of_le (by omega)
    have hp : A.length + skp blankC (A.drop A.length) = A.length := by rw [hd]; rfl
    rw [Sc_eq acc hq hp, if_pos rfl]
    refine ⟨fun ts h => ?_, fun f h => by cases h⟩
    cases h
    refine Sc_skip acc (by rw [List.length_append]; omega) ?_
    rw [List.drop_left]
    simp only [skp]
    rw [if_pos (show blankC (UInt8.toNat 32) = true from blank32)]
    omega
  | succ k ih =>
    intro q acc hq hk
    obtain ⟨p, hp⟩ : ∃ p, q + skp blankC (A.drop q) = p := ⟨_, rfl⟩
    have hsl := skp_le blankC (A.drop q)
    rw [List.length_drop] at hsl
    have hdq : (A ++ 32 :: B).drop q = A.drop q ++ 32 :: B := List.drop_append_of_le_length hq
    have hlen : (A ++ 32 :: B).length = A.length + 1 + B.length := by rw [List.length_append, List.length_cons]; omega
    rw [Sc_eq acc hq hp]
    by_cases hpe : p = A.length
    · rw [if_pos hpe]
      refine ⟨fun ts h => ?_, fun f h => by cases h⟩
      cases h
      have h1 : skp blankC (A.drop q) = (A.drop q).length := by rw [List.length_drop]; omega
      have := Sc_skip (l := A ++ 32 :: B) (q := q) (j := A.length + 1 - q) acc (by omega) (by
        rw [hdq, skp_app_eq _ _ _ h1, List.length_drop]
        simp only [skp]
        rw [if_pos (show blankC (UInt8.toNat 32) = true from blank32)]
        omega)
      rw [this]
      congr 1
      omega
    · rw [if_neg hpe]
      have hpl : p < A.length := by omega
      have hpL : q + skp blankC ((A ++ 32 :: B).drop q) = p := by
        rw [hdq, skp_app_lt _ _ _ (by rw [List.length_drop]; omega)]
        exact hp
      have hbp : by' (A ++ 32 :: B) p = by' A p := by'_app hpl
      rw [Sc_eq acc (show q ≤ (A ++ 32 :: B).length by omega) hpL, if_neg (show ¬ p = (A ++ 32 :: B).length by omega), hbp]
      by_cases c34 : by' A p = 34
      · rw [if_pos c34, if_pos c34]
        have hdp : (A ++ 32 :: B).drop (p + 1) = A.drop (p + 1) ++ 32 :: B := List.drop_append_of_le_length (by omega)
        rw [hdp]
        obtain ⟨T, E, ok, hQ⟩ : ∃ T E ok, Qt (A.drop (p + 1)) = (T, E, ok) := ⟨_, _, _, rfl⟩
        have hle := Qt_le (A.drop (p + 1))
        rw [hQ, List.length_drop] at hle
        rw [hQ]
        simp only at hle ⊢
        cases ok with
        | false =>
          simp only [Bool.false_eq_true, if_false]
          refine ⟨fun ts h => (by cases h), fun f h hf => ?_⟩
          cases h
          have hlt : E < (A.drop (p + 1)).length := by
            rw [List.length_drop]
            refine Nat.lt_of_le_of_ne hle (fun he => hf ?_)
            rw [he]
            congr 1
            omega
          rw [Qt_bad _ _ (Nat.le_refl _) T E hQ hlt B]
          exact ⟨_, rfl⟩
        | true =>
          have hQL : Qt (A.drop (p + 1) ++ 32 :: B) = (T, E, true) := by
            have := Qt_loc _ _ (Nat.le_refl _) T E hQ ((A.drop (p + 1)).drop E ++ 32 :: B)
            rwa [← List.append_assoc, List.take_append_drop] at this
          rw [hQL]
          simp only [if_true]
          by_cases hc : p + 1 + E = A.length ∨ blankC (by' A (p + 1 + E)) = true
          · rw [if_pos hc, if_pos]
            · exact ih (p + 1 + E) _ (by omega) (by omega)
            · right
              by_cases he : p + 1 + E = A.length
              · rw [he, by'_at]; exact blank32
              · rw [by'_app (by omega)]
                rcases hc with hc | hc
                · exact absurd hc he
                · exact hc
          · rw [if_neg hc, if_neg]
            · exact ⟨fun ts h => (by cases h), fun f h hf => ⟨_, rfl⟩⟩
            · intro c
              have he : p + 1 + E < A.length := by omega
              rcases c with c | c
              · omega
              · rw [by'_app he] at c
                exact hc (.inr c)
      · rw [if_neg c34, if_neg c34]
        have hdp : (A ++ 32 :: B).drop p = A.drop p ++ 32 :: B := List.drop_append_of_le_length (by omega)
        rw [hdp, skp_run32]
        have hrl := skp_le runC (A.drop p)
        rw [List.length_drop] at hrl
        have htk : (A.drop p ++ 32 :: B).take (skp runC (A.drop p)) = (A.drop p).take (skp runC (A.drop p)) := List.take_append_of_le_length (by rw [List.length_drop]; omega)
        rw [htk]
        by_cases hr : 0 < skp runC (A.drop p)
        · rw [if_pos hr, if_pos hr]
          by_cases hc : p + skp runC (A.drop p) = A.length ∨ blankC (by' A (p + skp runC (A.drop p))) = true
          · rw [if_pos hc, if_pos]
            · exact ih _ _ (by omega) (by omega)
            · right
              by_cases he : p + skp runC (A.drop p) = A.length
              · rw [he, by'_at]; exact blank32
              · rw [by'_app (by omega)]
                rcases hc with hc | hc
                · exact absurd hc he
                · exact hc
          · rw [if_neg hc, if_neg]
            · exact ⟨fun ts h => (by cases h), fun f h hf => ⟨_, rfl⟩⟩
            · intro c
              have he : p + skp runC (A.drop p) < A.length := by omega
              rcases c with c | c
              · omega
              · rw [by'_app he] at c
                exact hc (.inr c)
        · rw [if_neg hr, if_neg hr]
          exact ⟨fun ts h => (by cases h), fun f h hf => ⟨_, rfl⟩⟩
/-- A token, so much further on. -/
def shT (n : Nat) (t : Tk) : Tk := (t.1, t.2.1 + n, t.2.2.1, t.2.2.2)
theorem shT_said (X : List UInt8) (p n : Nat) : saidT X (n + p) = shT n (saidT X p) := by
  unfold saidT shT
  split <;> simp [Nat.add_comm]
/-- A line behind others. -/
theorem Sc_behind (X B : List UInt8) (k : Nat) : ∀ (q : Nat) (acc us : List Tk), q ≤ B.length → B.length - q ≤ k →
    (∀ ts, Sc B q us = .inl ts → Sc (X ++ B) (X.length + q) (acc ++ us.map (shT X.length)) = .inl (acc ++ ts.map (shT X.length))) ∧
    (∀ f, Sc B q us = .inr f → ∃ g, Sc (X ++ B) (X.length + q) (acc ++ us.map (shT X.length)) = .inr g) := by
  have hlen : (X ++ B).length = X.length + B.length := List.length_append
  have hdr : ∀ j, (X ++ B).drop (X.length + j) = B.drop j := fun j => by rw [← List.drop_drop, List.drop_left]
  have hby : ∀ j, by' (X ++ B) (X.length + j) = by' B j := fun j => by'_app2 X B j
  induction k with
  | zero =>
    intro q acc us hq hk
    have hqe : q = B.length := by omega
    have hd : B.drop q = [] := List.drop_eq_nil_of_le (by omega)
    have hp : q + skp blankC (B.drop q) = q := by rw [hd]; rfl
    have hpL : X.length + q + skp blankC ((X ++ B).drop (X.length + q)) = X.length + q := by rw [hdr, hd]; rfl
    rw [Sc_eq us hq hp, if_pos hqe, Sc_eq _ (by omega) hpL, if_pos (show X.length + q = (X ++ B).length by omega)]
    exact ⟨fun ts h => (by cases h; rfl), fun f h => by cases h⟩
  | succ k ih =>
    intro q acc us hq hk
    obtain ⟨p, hp⟩ : ∃ p, q + skp blankC (B.drop q) = p := ⟨_, rfl⟩
    have hsl := skp_le blankC (B.drop q)
    rw [List.length_drop] at hsl
    have hpL : X.length + q + skp blankC ((X ++ B).drop (X.length + q)) = X.length + p := by rw [hdr]; omega
    rw [Sc_eq us hq hp, Sc_eq _ (by omega) hpL, hlen, hby]
    by_cases hpe : p = B.length
    · rw [if_pos hpe, if_pos (show X.length + p = X.length + B.length by omega)]
      exact ⟨fun ts h => (by cases h; rfl), fun f h => by cases h⟩
    · rw [if_neg hpe, if_neg (show ¬ X.length + p = X.length + B.length by omega)]
      by_cases c34 : by' B p = 34
      · rw [if_pos c34, if_pos c34, show X.length + p + 1 = X.length + (p + 1) by omega, hdr]
        obtain ⟨T, E, ok, hQ⟩ : ∃ T E ok, Qt (B.drop (p + 1)) = (T, E, ok) := ⟨_, _, _, rfl⟩
        have hle := Qt_le (B.drop (p + 1))
        rw [hQ, List.length_drop] at hle
        rw [hQ]
        simp only at hle ⊢
        cases ok with
        | false =>
          simp only [Bool.false_eq_true, if_false]
          exact ⟨fun ts h => (by cases h), fun f h => ⟨_, rfl⟩⟩
        | true =>
          simp only [if_true]
          rw [show X.length + (p + 1) + E = X.length + (p + 1 + E) by omega, hby]
          by_cases hc : p + 1 + E = B.length ∨ blankC (by' B (p + 1 + E)) = true
          · rw [if_pos hc, if_pos (show X.length + (p + 1 + E) = X.length + B.length ∨ blankC (by' B (p + 1 + E)) = true from hc.imp (fun h => by omega) id)]
            have := ih (p + 1 + E) acc (us ++ [(3, p, T, 0)]) (by omega) (by omega)
            rw [List.map_append, ← List.append_assoc] at this
            simp only [List.map_cons, List.map_nil] at this
            rw [show (3, X.length + p, T, 0) = shT X.length (3, p, T, 0) by unfold shT; simp [Nat.add_comm]]
            exact this
          · rw [if_neg hc, if_neg (show ¬ (X.length + (p + 1 + E) = X.length + B.length ∨ blankC (by' B (p + 1 + E)) = true) from fun c => hc (c.imp (fun h => by omega) id))]
            exact ⟨fun ts h => (by cases h), fun f h => ⟨_, rfl⟩⟩
      · rw [if_neg c34, if_neg c34, hdr]
        have hrl := skp_le runC (B.drop p)
        rw [List.length_drop] at hrl
        by_cases hr : 0 < skp runC (B.drop p)
        · rw [if_pos hr, if_pos hr, show X.length + p + skp runC (B.drop p) = X.length + (p + skp runC (B.drop p)) by omega, hby]
          by_cases hc : p + skp runC (B.drop p) = B.length ∨ blankC (by' B (p + skp runC (B.drop p))) = true
          · rw [if_pos hc, if_pos (show X.length + (p + skp runC (B.drop p)) = X.length + B.length ∨ blankC (by' B (p + skp runC (B.drop p))) = true from hc.imp (fun h => by omega) id)]
            have := ih (p + skp runC (B.drop p)) acc (us ++ [saidT ((B.drop p).take (skp runC (B.drop p))) p]) (by omega) (by omega)
            rw [List.map_append, ← List.append_assoc] at this
            simp only [List.map_cons, List.map_nil] at this
            rw [shT_said]
            exact this
          · rw [if_neg hc, if_neg (show ¬ (X.length + (p + skp runC (B.drop p)) = X.length + B.length ∨ blankC (by' B (p + skp runC (B.drop p))) = true) from fun c => hc (c.imp (fun h => by omega) id))]
            exact ⟨fun ts h => (by cases h), fun f h => ⟨_, rfl⟩⟩
        · rw [if_neg hr, if_neg hr]
          exact ⟨fun ts h => (by cases h), fun f h => ⟨_, rfl⟩⟩
/-- Both together. -/
theorem Sc_apart (A B : List UInt8) :
    (∀ f, Sc A 0 [] = .inr f → f ≠ (71, A.length) → ∃ g, Sc (A ++ 32 :: B) 0 [] = .inr g) ∧
    (∀ ts f, Sc A 0 [] = .inl ts → Sc B 0 [] = .inr f → ∃ g, Sc (A ++ 32 :: B) 0 [] = .inr g) ∧
    (∀ ts us, Sc A 0 [] = .inl ts → Sc B 0 [] = .inl us → Sc (A ++ 32 :: B) 0 [] = .inl (ts ++ us.map (shT (A.length + 1)))) := by
  obtain ⟨h1, h2⟩ := Sc_ahead A B A.length 0 [] (Nat.zero_le _) (by omega)
  have hX : (A ++ [32]) ++ B = A ++ 32 :: B := by simp
  have hl : (A ++ [32]).length = A.length + 1 := by simp
  refine ⟨h2, fun ts f ha hb => ?_, fun ts us ha hb => ?_⟩
  · obtain ⟨_, h4⟩ := Sc_behind (A ++ [32]) B B.length 0 ts [] (Nat.zero_le _) (by omega)
    rw [hX, hl] at h4
    rw [h1 ts ha]
    simpa using h4 f hb
  · obtain ⟨h3, _⟩ := Sc_behind (A ++ [32]) B B.length 0 ts [] (Nat.zero_le _) (by omega)
    rw [hX, hl] at h3
    rw [h1 ts ha]
    simpa using h3 us hb
end Go.Proofs.YtnodeapjgicclaaDoor
