/- Bounds of the tokens of a line (no program in it). -/
import Derived.Test.YtnodeapjgicclaaDoorSAgS
namespace Go.Proofs.YtnodeapjgicclaaDoor
open Go.RowKit Go.Shelf
set_option linter.unusedVariables false

theorem enc_le4 (z : Int) : (Lib.encodeRune z).length ≤ 4 := by
  unfold Lib.encodeRune Lib.encodeRuneZ
  split <;> (try split) <;> (try split) <;> (try split) <;> simp
theorem escL_text (l : List UInt8) : (escL l).1.length ≤ (escL l).2 := by
  unfold escL
  split
  · split
    · simp
    · split
      · simp
      · split
        · simp
        · split
          · simp
          · split
            · simp
            · split
              · split
                · simp only [List.length_cons, List.length_nil]; omega
                · simp
              · split
                · split
                  · split
                    · simp only
                      have := enc_le4 ((dgF 6 0 (l.drop 3)).1 : Int)
                      omega
                    · simp
                  · simp
                · simp
  · simp
theorem Qt_text (k : Nat) : ∀ (l : List UInt8), l.length ≤ k → (Qt l).1.length ≤ (Qt l).2.1 := by
  induction k with
  | zero =>
    intro l hl
    have : l = [] := List.eq_nil_of_length_eq_zero (by omega)
    subst this
    decide +kernel
  | succ k ih =>
    intro l hl
    by_cases h : 0 < l.length ∧ by' l 0 = 34
    · rw [Qt_close h]; simp
    by_cases h2 : (firstV l).1 = 92
    · by_cases h3 : (escL l).2 = 0
      · rw [Qt_none h h2 h3]; simp
      · rw [Qt_esc h h2 h3]
        have h4 := ih (l.drop (escL l).2) (by rw [List.length_drop]; omega)
        have h5 := escL_text l
        simp only [List.length_append]
        omega
    · by_cases h3 : (firstV l).2.2 = true ∧ plainK (firstV l).1 = true
      · rw [Qt_char h h2 h3]
        have hc := cw_pos l
        have h4 := ih (l.drop (cw l)) (by rw [List.length_drop]; omega)
        simp only [List.length_append, List.length_take]
        omega
      · rw [Qt_fault h h2 h3]; simp
theorem Sc_text (l : List UInt8) (k : Nat) : ∀ (q : Nat) (acc ts : List Tk), q ≤ l.length → l.length - q ≤ k → (∀ t ∈ acc, t.2.2.1.length ≤ l.length) → Sc l q acc = .inl ts → ∀ t ∈ ts, t.2.2.1.length ≤ l.length := by
  induction k with
  | zero =>
    intro q acc ts hq hk ha h
    have hqe : q = l.length := by omega
    have hd : l.drop q = [] := List.drop_eq_nil_of_le (by omega)
    have hp : q + skp blankC (l.drop q) = q := by rw [hd]; rfl
    rw [Sc_eq acc hq hp, if_pos hqe] at h
    cases h
    exact ha
  | succ k ih =>
    intro q acc ts hq hk ha h
    obtain ⟨p, hp⟩ : ∃ p, q + skp blankC (l.drop q) = p := ⟨_, rfl⟩
    have hsl := skp_le blankC (l.drop q)
    rw [List.length_drop] at hsl
    rw [Sc_eq acc hq hp] at h
    by_cases hpe : p = l.length
    · rw [if_pos hpe] at h
      cases h
      exact ha
    · rw [if_neg hpe] at h
      by_cases c34 : by' l p = 34
      · rw [if_pos c34] at h
        have hte := Qt_text _ (l.drop (p + 1)) (Nat.le_refl _)
        obtain ⟨T, E, ok, hQ⟩ : ∃ T E ok, Qt (l.drop (p + 1)) = (T, E, ok) := ⟨_, _, _, rfl⟩
        have hle := Qt_le (l.drop (p + 1))
        rw [hQ, List.length_drop] at hle
        rw [hQ] at h hte
        simp only at h hle hte
        cases ok with
        | false => simp at h
        | true =>
          simp only [if_true] at h
          by_cases hc : p + 1 + E = l.length ∨ blankC (by' l (p + 1 + E)) = true
          · rw [if_pos hc] at h
            refine ih (p + 1 + E) _ ts (by omega) (by omega) (fun t ht => ?_) h
            rcases List.mem_append.1 ht with e | e
            · exact ha t e
            · rw [List.mem_singleton] at e
              subst e
              show T.length ≤ _
              omega
          · rw [if_neg hc] at h; cases h
      · rw [if_neg c34] at h
        have hrl := skp_le runC (l.drop p)
        rw [List.length_drop] at hrl
        by_cases hr : 0 < skp runC (l.drop p)
        · rw [if_pos hr] at h
          by_cases hc : p + skp runC (l.drop p) = l.length ∨ blankC (by' l (p + skp runC (l.drop p))) = true
          · rw [if_pos hc] at h
            refine ih (p + skp runC (l.drop p)) _ ts (by omega) (by omega) (fun t ht => ?_) h
            rcases List.mem_append.1 ht with e | e
            · exact ha t e
            · rw [List.mem_singleton] at e
              subst e
              have hX : ((l.drop p).take (skp runC (l.drop p))).length ≤ l.length := by rw [List.length_take, List.length_drop]; omega
              unfold saidT
              split
              · simp
              · exact hX
          · rw [if_neg hc] at h; cases h
        · rw [if_neg hr] at h; cases h
theorem Sc_small {l : List UInt8} {ts : List Tk} (h : Sc l 0 [] = .inl ts) : ∀ t ∈ ts, t.2.2.1.length ≤ l.length :=
  Sc_text l l.length 0 [] ts (Nat.zero_le _) (by omega) (fun t ht => by simp at ht) h
theorem Gd_len {l : List UInt8} {ts : List Tk} (h : Gd l ts) : ts.length + nextAt l ts ≤ l.length ∨ ts = [] := by
  induction ts with
  | nil => exact .inr rfl
  | cons u us ih =>
    left
    obtain ⟨h1, h2, h3, h4, h5⟩ := h
    simp only [List.length_cons, nextAt]
    rcases ih h5 with e | e
    · omega
    · subst e; simp only [List.length_nil]; omega
theorem Gd_count {l : List UInt8} {ts : List Tk} (h : Gd l ts) : ts.length ≤ l.length := by
  rcases Gd_len h with e | e
  · omega
  · subst e; simp
theorem next_some {l : List UInt8} {ts : List Tk} {i : Nat} {u : Tk} (h : ts[i]? = some u) : nextAt l (ts.drop i) = u.2.1 := by
  obtain ⟨h1, h2⟩ := List.getElem?_eq_some_iff.1 h
  rw [List.drop_eq_getElem_cons h1, h2]
  rfl
theorem next_none {l : List UInt8} {ts : List Tk} {i : Nat} (h : ts.length ≤ i) : nextAt l (ts.drop i) = l.length := by
  rw [List.drop_eq_nil_of_le h]
  rfl
theorem ok_range {t : Tk} (h : okT t) : -9223372036854775808 ≤ t.2.2.2 ∧ t.2.2.2 ≤ 9223372036854775807 := by
  rcases h with ⟨_, _, _, h⟩ | ⟨_, _, m, h, h'⟩ | ⟨_, h⟩ <;> rw [h] <;> omega
/-- What the tokens of a line are printed as. -/
theorem prV_ok {ts : List Tk} (h : ∀ t ∈ ts, okT t) : prV (ts.map toI) = if 16384 < (prJ (ts.map toI)).length then ([], 4) else (prJ (ts.map toI), 0) := by
  unfold prV
  rw [if_pos]
  rw [List.all_eq_true]
  intro x hx
  obtain ⟨t, ht, rfl⟩ := List.mem_map.1 hx
  exact okT_may (h t ht)
theorem strip_at {us ts : List Tk} (h : us.map strip = ts.map strip) : us.length = ts.length ∧ ∀ (i : Nat) (t : Tk), ts[i]? = some t → ∃ a, us[i]? = some (t.1, a, t.2.2.1, t.2.2.2) := by
  refine ⟨by simpa using congrArg List.length h, fun i t ht => ?_⟩
  have h1 := congrArg (fun l => l[i]?) h
  simp only [List.getElem?_map, ht] at h1
  obtain ⟨⟨a, b, c, d⟩, hu, hv⟩ := Option.map_eq_some_iff.1 h1
  simp only [strip, Prod.mk.injEq] at hv
  obtain ⟨rfl, rfl, rfl⟩ := hv
  exact ⟨b, hu⟩
end Go.Proofs.YtnodeapjgicclaaDoor
