/- What the document's Fold answers, and that the program's rune functions answer the same. -/
import Derived.Test.YtihfnnhfpohakaaKFolds
namespace Go.Proofs.Ytihfnnhfpohakaa
open Go.RowKit
set_option linter.unusedVariables false

/-- Rows of four numbers, the first that speaks of the rune. -/
def foldZ (r : Int) : List Int → Int
  | a :: b :: s :: d :: t => if a ≤ r ∧ r ≤ b ∧ (r - a) % s = 0 then r + d else foldZ r t
  | _ => r
def rowOk (x : Int × Int × Int × Int) : Prop := 0 ≤ x.1 ∧ x.2.1 ≤ 100000 ∧ (x.2.2.1 = 1 ∨ x.2.2.1 = 2) ∧ -100000 ≤ x.2.2.2 ∧ x.2.2.2 ≤ 100000
def flat (l : List (Int × Int × Int × Int)) : List Int := l.flatMap fun x => [x.1, x.2.1, x.2.2.1, x.2.2.2]
theorem flat_cons (x : Int × Int × Int × Int) (l : List (Int × Int × Int × Int)) : flat (x :: l) = x.1 :: x.2.1 :: x.2.2.1 :: x.2.2.2 :: flat l := rfl
theorem rows_flat : foldsZ = flat foldRows := by decide +kernel
theorem rows_ok : ∀ x ∈ foldRows, rowOk x := by unfold rowOk; decide
theorem flat_len (l : List (Int × Int × Int × Int)) : (flat l).length = 4 * l.length := by
  induction l with
  | nil => rfl
  | cons x l ih => rw [flat_cons]; simp only [List.length_cons, ih]; omega
theorem flat_at (l : List (Int × Int × Int × Int)) (k : Nat) (x : Int × Int × Int × Int) (h : l[k]? = some x) : (flat l)[4 * k]? = some x.1 ∧ (flat l)[4 * k + 1]? = some x.2.1 ∧ (flat l)[4 * k + 2]? = some x.2.2.1 ∧ (flat l)[4 * k + 3]? = some x.2.2.2 := by
  induction l generalizing k with
  | nil => simp at h
  | cons y l ih =>
    cases k with
    | zero => simp at h; subst h; rw [flat_cons]; exact ⟨rfl, rfl, rfl, rfl⟩
    | succ k =>
      have := ih k (by simpa using h)
      rw [flat_cons]
      have e : 4 * (k + 1) = 4 * k + 1 + 1 + 1 + 1 := by omega
      rw [e]
      simpa using this
def foldR (r : Int) : List (Int × Int × Int × Int) → Int
  | [] => r
  | x :: t => if x.1 ≤ r ∧ r ≤ x.2.1 ∧ (r - x.1) % x.2.2.1 = 0 then r + x.2.2.2 else foldR r t

/-- What the rows say of a rune is what becomes of it. -/
theorem rows_d : ∀ x ∈ foldRows, x.2.2.2 ≠ 0 := by decide
theorem no_row {r v : Int} (h : ∃ x ∈ foldRows, hit r x ∧ v = r + x.2.2.2) : v ≠ r := by
  obtain ⟨x, hx, -, e⟩ := h
  have := rows_d x hx
  omega
theorem if_stay {c : Bool} {r a b : Int} (h : (if c then a else b) = r) (k : c = true → a ≠ r) : c = false ∧ b = r := by
  cases c with
  | true => exact absurd h (k rfl)
  | false => exact ⟨rfl, h⟩
theorem fold_stay {r : Int} (h : foldK r = r) : (pairsK r = false ∧ inL addL0 r = false ∧ inL addL1 r = false ∧ inL addL2 r = false ∧ inL addL3 r = false ∧ inL addL4 r = false ∧ inL addL5 r = false ∧ inL addL6 r = false ∧ inL addL7 r = false) ∧ singleK r = r := by
  unfold foldK at h
  obtain ⟨h0, h⟩ := if_stay h (fun c => no_row (pair_row c))
  obtain ⟨h1, h⟩ := if_stay h (fun c => no_row (add_row (l := addL0) (by decide) c))
  obtain ⟨h2, h⟩ := if_stay h (fun c => no_row (add_row (l := addL1) (by decide) c))
  obtain ⟨h3, h⟩ := if_stay h (fun c => no_row (add_row (l := addL2) (by decide) c))
  obtain ⟨h4, h⟩ := if_stay h (fun c => no_row (add_row (l := addL3) (by decide) c))
  obtain ⟨h5, h⟩ := if_stay h (fun c => no_row (add_row (l := addL4) (by decide) c))
  obtain ⟨h6, h⟩ := if_stay h (fun c => no_row (add_row (l := addL5) (by decide) c))
  obtain ⟨h7, h⟩ := if_stay h (fun c => no_row (add_row (l := addL6) (by decide) c))
  obtain ⟨h8, h⟩ := if_stay h (fun c => no_row (add_row (l := addL7) (by decide) c))
  exact ⟨⟨h0, h1, h2, h3, h4, h5, h6, h7, h8⟩, h⟩
def oneL : List Int := [376, 383, 902, 908, 962, 7838, 8486, 8490, 8491]
theorem single_stay {r : Int} (h : singleK r = r) : r ∉ oneL := by
  intro hm
  have hd : ∀ v ∈ oneL, singleK v ≠ v := by decide
  exact hd r hm h
theorem inL_of {l : List (Int × Int)} {r : Int} {p : Int × Int} (hp : p ∈ l) (h : p.1 ≤ r ∧ r ≤ p.2) : inL l r = true := by
  unfold inL inB
  rw [List.any_eq_true]
  exact ⟨p, hp, by simp [h]⟩
def addAll : List (Int × Int) := addL0 ++ addL1 ++ addL2 ++ addL3 ++ addL4 ++ addL5 ++ addL6 ++ addL7
theorem rows_kind : ∀ x ∈ foldRows, (x.2.2.1 = 2 ∧ (x.1, x.2.1) ∈ evenL ∧ x.1 % 2 = 0) ∨ (x.2.2.1 = 2 ∧ (x.1, x.2.1) ∈ oddL ∧ x.1 % 2 = 1) ∨ (x.1, x.2.1) ∈ addAll ∨ (x.1 = x.2.1 ∧ x.1 ∈ oneL) := by decide
theorem even_odd : ∀ p ∈ oddL, ∀ q ∈ evenL, q.2 < p.1 ∨ p.2 < q.1 := by decide
theorem fold_hit {r : Int} {x : Int × Int × Int × Int} (hx : x ∈ foldRows) (hh : hit r x) : foldK r ≠ r := by
  intro h
  obtain ⟨⟨h0, h1, h2, h3, h4, h5, h6, h7, h8⟩, hs⟩ := fold_stay h
  obtain ⟨a1, a2, a3⟩ := hh
  have hb := rows_bd x hx
  rcases rows_kind x hx with ⟨e, hm, hp⟩ | ⟨e, hm, hp⟩ | hm | ⟨e, hm⟩
  · have hi : inL evenL r = true := inL_of hm ⟨a1, a2⟩
    unfold pairsK at h0
    rw [if_pos hi, Int.tmod_eq_emod_of_nonneg (by omega)] at h0
    rw [e] at a3
    simp at h0
    omega
  · have hi : inL oddL r = true := inL_of hm ⟨a1, a2⟩
    have hn : ¬ (inL evenL r = true) := by
      intro hc
      obtain ⟨q, hq, q1, q2⟩ := inL_mem hc
      have := even_odd _ hm q hq
      simp only at this
      omega
    unfold pairsK at h0
    rw [if_neg hn, if_pos hi, Int.tmod_eq_emod_of_nonneg (by omega)] at h0
    rw [e] at a3
    simp at h0
    omega
  · have hi : inL addAll r = true := inL_of hm ⟨a1, a2⟩
    unfold addAll inL at hi
    simp only [List.any_append, Bool.or_eq_true] at hi
    unfold inL at h1 h2 h3 h4 h5 h6 h7 h8
    simp [h1, h2, h3, h4, h5, h6, h7, h8] at hi
  · have er : r = x.1 := by omega
    rw [← er] at hm
    exact single_stay hs hm
theorem rows_disj : (foldRows.all fun x => foldRows.all fun y => decide (x = y) || decide (x.2.1 < y.1) || decide (y.2.1 < x.1)) = true := by decide +kernel
theorem fold_row {r : Int} {x : Int × Int × Int × Int} (hx : x ∈ foldRows) (hh : hit r x) : foldK r = r + x.2.2.2 := by
  rcases fold_cases r with h | ⟨y, hy, hk, h⟩
  · exact absurd h (fold_hit hx hh)
  · have hd := rows_disj
    rw [List.all_eq_true] at hd
    have hd := hd x hx
    rw [List.all_eq_true] at hd
    have hd := hd y hy
    simp only [Bool.or_eq_true, decide_eq_true_eq] at hd
    obtain ⟨a1, a2, -⟩ := hh
    obtain ⟨b1, b2, -⟩ := hk
    rcases hd with (e | e) | e
    · rw [e]; exact h
    · omega
    · omega
theorem fold_R (r : Int) : foldR r foldRows = foldK r := by
  have key : ∀ l : List (Int × Int × Int × Int), (∀ x ∈ l, x ∈ foldRows) → foldR r l = foldK r ∨ (foldR r l = r ∧ ∀ x ∈ l, ¬ hit r x) := by
    intro l
    induction l with
    | nil => intro _; exact .inr ⟨rfl, fun x h => by cases h⟩
    | cons y l ih =>
      intro hl
      unfold foldR
      by_cases c : y.1 ≤ r ∧ r ≤ y.2.1 ∧ (r - y.1) % y.2.2.1 = 0
      · rw [if_pos c]; exact .inl (fold_row (hl y List.mem_cons_self) c).symm
      · rw [if_neg c]
        rcases ih (fun x hx => hl x (List.mem_cons_of_mem _ hx)) with h | ⟨h, hn⟩
        · exact .inl h
        · refine .inr ⟨h, fun x hx => ?_⟩
          rcases List.mem_cons.1 hx with rfl | hx
          · exact c
          · exact hn x hx
  rcases key foldRows (fun _ h => h) with h | ⟨h, hn⟩
  · exact h
  · rw [h]
    rcases fold_cases r with h' | ⟨x, hx, hh, -⟩
    · exact h'.symm
    · exact absurd hh (hn x hx)
/-- The lists of the document say what the program's do. -/
theorem inZ_inL (r : Int) (l : List (Int × Int)) : inZ r (l.flatMap fun p => [p.1, p.2]) = inL l r := by
  induction l with
  | nil => rfl
  | cons p l ih => show (inB r p.1 p.2 || inZ r (l.flatMap fun p => [p.1, p.2])) = _; rw [ih]; rfl
theorem any_perm {l m : List (Int × Int)} (h : l.Perm m) (r : Int) : inL l r = inL m r := by
  unfold inL
  rw [Bool.eq_iff_iff, List.any_eq_true, List.any_eq_true]
  exact ⟨fun ⟨p, hp, k⟩ => ⟨p, h.mem_iff.1 hp, k⟩, fun ⟨p, hp, k⟩ => ⟨p, h.mem_iff.2 hp, k⟩⟩
theorem inL_app (l m : List (Int × Int)) (r : Int) : inL (l ++ m) r = (inL l r || inL m r) := by unfold inL; rw [List.any_append]
def pairUp : List Int → List (Int × Int)
  | a :: b :: t => (a, b) :: pairUp t
  | _ => []
theorem inZ_pair (r : Int) : ∀ l : List Int, inZ r l = inL (pairUp l) r
  | [] => rfl
  | [_] => rfl
  | a :: b :: t => by show (inB r a b || inZ r t) = (inB r a b || inL (pairUp t) r); rw [inZ_pair r t]
theorem word_same (r : Int) : inZ r wordZ = wordK r := by
  rw [inZ_pair]
  unfold wordK
  rw [inO_inL, ← inL_app]
  exact any_perm (by decide +kernel) r
theorem width_same (r : Int) : (if inZ r zeroZ then 0 else if inZ r twoZ then 2 else 1 : Int) = widthK r := by
  have e1 : inZ r zeroZ = (inL zeroL r || ((r == 65279) || inL zeroM r)) := by
    rw [inZ_pair, eq_inL, ← inL_app, ← inL_app]
    exact any_perm (by decide +kernel) r
  have e2 : inZ r twoZ = inL twoL r := by rw [inZ_pair]; exact any_perm (by decide +kernel) r
  rw [e1, e2]; rfl
theorem blank_same (r : Int) : inZ r blankZ = blankK r := by
  rw [inZ_pair]
  unfold blankK
  rw [Bool.eq_iff_iff]
  constructor
  · intro h
    obtain ⟨p, hp, h1, h2⟩ := inL_mem h
    have hd : ∀ p ∈ pairUp blankZ, ∀ k : Nat, k ≤ 10 → p.1 + k ≤ p.2 → inO blankL (p.1 + k) = true := by
      intro p hp
      have : ∀ p ∈ pairUp blankZ, ∀ k : Fin 11, p.1 + (k.val : Int) ≤ p.2 → inO blankL (p.1 + (k.val : Int)) = true := by decide +kernel
      exact fun k hk => this p hp ⟨k, by omega⟩
    have hw : ∀ p ∈ pairUp blankZ, p.2 - p.1 ≤ 10 := by decide +kernel
    have hw' := hw p hp
    have := hd p hp (r - p.1).toNat (by omega) (by omega)
    rwa [show p.1 + ((r - p.1).toNat : Int) = r by omega] at this
  · intro h
    have hm := inO_mem h
    have hd : ∀ b ∈ blankL, inL (pairUp blankZ) b = true := by decide +kernel
    exact hd r hm
end Go.Proofs.Ytihfnnhfpohakaa
