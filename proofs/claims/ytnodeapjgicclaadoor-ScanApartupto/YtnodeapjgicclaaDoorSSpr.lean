/- Tokens with marked room behind them: spare, sameTokens, kept. -/
import Derived.Test.YtnodeapjgicclaaDoorSWrk
namespace Go.Proofs.YtnodeapjgicclaaDoor
open Go.RowKit Go.Shelf
set_option linter.unusedVariables false

def tcI (x : TkI) : List Value := [.int .i64 x.1, .int .i64 x.2.1, .string x.2.2.1, .int .i64 x.2.2.2]
theorem tcI_len (xs : List TkI) : (xs.flatMap tcI).length = xs.length * 4 := by
  induction xs with
  | nil => rfl
  | cons x xs ih => simp [List.flatMap_cons, ih, tcI]; omega
theorem flatI_get (ts : List TkI) (i j : Nat) (x : TkI) (hx : ts[i]? = some x) (hj : j < 4) : (ts.flatMap tcI)[i * 4 + j]? = (tcI x)[j]? := by
  induction ts generalizing i with
  | nil => simp at hx
  | cons y ys ih =>
    rw [List.flatMap_cons]
    cases i with
    | zero =>
      simp only [List.getElem?_cons_zero, Option.some.injEq] at hx
      subst hx
      rw [List.getElem?_append_left (by simp [tcI]; omega)]
      congr 1
      omega
    | succ i =>
      simp only [List.getElem?_cons_succ] at hx
      rw [List.getElem?_append_right (by simp [tcI]; omega), ← ih i hx]
      congr 1
      simp [tcI]
      omega
theorem flatI_snoc (xs : List TkI) (x : TkI) : (xs ++ [x]).flatMap tcI = xs.flatMap tcI ++ [.int .i64 x.1, .int .i64 x.2.1, .string x.2.2.1, .int .i64 x.2.2.2] := by
  rw [List.flatMap_append]; simp [tcI]
def RowI (W : World) (base : Nat) (v : Value) (ts : List TkI) : Prop := W.ownsRow base 32 4 v ts.length (ts.flatMap tcI)
theorem RowI.slk {W : World} {base : Nat} {v : Value} {ts : List TkI} (h : RowI W base v ts) (h0 : 0 < ts.length) : ∃ g cap, v = .slice (some ⟨g, 0, none⟩) ts.length cap ∧ ts.length ≤ cap ∧ SlK W (some ⟨g, 0, none⟩) ts := by
  rcases h.2 with ⟨h1, h2⟩ | ⟨g, cap, cur, hv, hg, hh, hnc, hcap, hs, hc⟩
  · omega
  · refine ⟨g, cap, hv, hnc, .inr ⟨g, 0, rfl, (Array.getElem?_eq_some_iff.1 hh).1, fun i y hy => ?_⟩⟩
    have hi : i < ts.length := (List.getElem?_eq_some_iff.1 hy).1
    have key : ∀ j (u : Value), j < 4 → (tcI y)[j]? = some u → W.cell? ⟨g, 0 + i * 4 + j, none⟩ = some u := by
      intro j u hj hu
      have h1 := flatI_get ts i j y hy hj
      rw [hu, ← hc, List.getElem?_take, if_pos (by omega)] at h1
      refine celS hh _ _ ?_
      rw [Nat.zero_add]
      simpa using h1
    exact ⟨key 0 _ (by omega) rfl, key 1 _ (by omega) rfl, key 2 _ (by omega) rfl, key 3 _ (by omega) rfl⟩
theorem rowI_start {W : World} {base : Nat} {v : Value} {xs : List TkI} (h : W.ownsRow base 32 4 v (0 + xs.length) ([] ++ xs.flatMap tcI)) : RowI W base v xs := by
  rw [Nat.zero_add, List.nil_append] at h
  exact h
theorem slk_news {W : World} {b off : Nat} {xs : List TkI} (h : SlK W (some ⟨b, off, none⟩) xs) : ∀ j u, (xs.flatMap tcI)[j]? = some u → W.cell? ((⟨b, off, none⟩ : Addr).add j) = some u := by
  intro j u hu
  have hj : j < (xs.flatMap tcI).length := (List.getElem?_eq_some_iff.1 hu).1
  rw [tcI_len] at hj
  have hi : j / 4 < xs.length := by omega
  obtain ⟨b1, off1, ha, c0, c1, c2, c3⟩ := tok_cells h (List.getElem?_eq_getElem hi)
  cases ha
  have hg := flatI_get xs (j / 4) (j % 4) _ (List.getElem?_eq_getElem hi) (by omega)
  rw [show j / 4 * 4 + j % 4 = j by omega, hu] at hg
  have ea : (⟨b, off, none⟩ : Addr).add j = ⟨b, off + j / 4 * 4 + j % 4, none⟩ := by
    rw [show off + j / 4 * 4 + j % 4 = off + j by omega]
    cases j <;> simp [Addr.add]
  rw [ea]
  have h4 : j % 4 = 0 ∨ j % 4 = 1 ∨ j % 4 = 2 ∨ j % 4 = 3 := by omega
  rcases h4 with e | e | e | e
  all_goals
    rw [e] at hg ⊢
    simp only [tcI, List.getElem?_cons_zero, List.getElem?_cons_succ, Option.some.injEq] at hg
    subst hg
    first | exact c0 | exact c1 | exact c2 | exact c3
theorem slk_news' {W : World} {ad : Addr} {xs : List TkI} (h : SlK W (some ad) xs) : ∀ j u, (xs.flatMap tcI)[j]? = some u → W.cell? (ad.add j) = some u := by
  rcases h with h | h
  · subst h
    intro j u hu
    simp at hu
  · obtain ⟨b, off, ha, hb, hc⟩ := h
    cases ha
    exact slk_news (.inr ⟨b, off, rfl, hb, hc⟩)
theorem tcI_one (xs : List TkI) : ∀ u ∈ xs.flatMap tcI, u.oneCell' = true := by
  intro u hu
  obtain ⟨x, _, hx⟩ := List.mem_flatMap.1 hu
  simp only [tcI, List.mem_cons, List.not_mem_nil, or_false] at hx
  rcases hx with rfl | rfl | rfl | rfl <;> rfl
/-- What stands in the room. -/
def marksI : Nat → List TkI
  | 0 => []
  | n + 1 => marksI n ++ [(9, 0, ⟨#[]⟩, (n : Int))]
theorem marks_len (n : Nat) : (marksI n).length = n := by
  induction n with
  | zero => rfl
  | succ n ih => simp [marksI, ih]
theorem marks_at (n : Nat) : ∀ i, i < n → (marksI n)[i]? = some (9, 0, ⟨#[]⟩, (i : Int)) := by
  induction n with
  | zero => intro i h; omega
  | succ n ih =>
    intro i h
    unfold marksI
    by_cases hi : i < n
    · rw [List.getElem?_append_left (by rw [marks_len]; exact hi)]; exact ih i hi
    · have : i = n := by omega
      subst this
      rw [List.getElem?_append_right (by rw [marks_len]; exact Nat.le_refl _), marks_len]
      simp
end Go.Proofs.YtnodeapjgicclaaDoor
