/- What opening a row of structs leans on. -/
import Derived.Test.YtheefdplbmneeaaOpen
import Derived.Deep.Slices
namespace Go.Proofs.Ytheefdplbmneeaa
open Go.ChangeShapes Go.WideShapes Go.ChangeAt Go.RowKit
set_option linter.unusedVariables false

theorem gatherQ {α : Type} {Q : Nat → α → Prop} : ∀ n, (∀ i, i < n → ∃ x, Q i x) → ∃ xs : List α, xs.length = n ∧ ∀ i x, xs[i]? = some x → Q i x := by
  intro n
  induction n with
  | zero => intro _; exact ⟨[], rfl, fun i x h => by simp at h⟩
  | succ n ih =>
    intro h
    obtain ⟨xs, hl, hq⟩ := ih (fun i hi => h i (by omega))
    obtain ⟨y, hy⟩ := h n (by omega)
    refine ⟨xs ++ [y], by rw [List.length_append, hl]; rfl, fun i x hx => ?_⟩
    by_cases hi : i < xs.length
    · rw [List.getElem?_append_left hi] at hx
      exact hq i x hx
    · rw [List.getElem?_append_right (by omega)] at hx
      have hlt := (List.getElem?_eq_some_iff.1 hx).1
      simp at hlt
      have e : i - xs.length = 0 := by omega
      rw [e] at hx
      simp at hx
      subst hx
      have : i = n := by omega
      subst this
      exact hy
/-- What a row of so many cells an element holds. -/
def RowW {α : Type} (sz : Nat) (vals : α → List Value) (W : World) (a : Option Addr) (xs : List α) : Prop :=
  xs = [] ∨ ∃ b off, a = some ⟨b, off, none⟩ ∧ b < W.heap.size ∧ ∀ i x, xs[i]? = some x → ∀ j v, (vals x)[j]? = some v → W.cell? ⟨b, off + i * sz + j, none⟩ = some v
theorem RowW.below {α : Type} {sz : Nat} {vals : α → List Value} {W W' : World} {a : Option Addr} {xs : List α} (h : RowW sz vals W a xs) (hB : Below W.heap.size W W') : RowW sz vals W' a xs := by
  rcases h with h | ⟨b, off, e, hb, hc⟩
  · exact .inl h
  · exact .inr ⟨b, off, e, Nat.lt_of_lt_of_le hb hB.size, fun i x hx j v hv => (hB.cell hb).trans (hc i x hx j v hv)⟩
theorem RowW.at {α : Type} {sz : Nat} {vals : α → List Value} {W : World} {a : Option Addr} {xs : List α} (h : RowW sz vals W a xs) {i : Nat} {x : α} (hx : xs[i]? = some x) : ∃ b off, a = some ⟨b, off, none⟩ ∧ b < W.heap.size ∧ ∀ j v, (vals x)[j]? = some v → W.cell? ⟨b, off + i * sz + j, none⟩ = some v := by
  rcases h with h | ⟨b, off, e, hb, hc⟩
  · rw [h] at hx; simp at hx
  · exact ⟨b, off, e, hb, hc i x hx⟩
theorem bulk_appR {H : Type} (l m : List (DataW H)) : Rows.uptoBulkAll (l ++ m) = Rows.uptoBulkAll l + Rows.uptoBulkAll m := by
  induction l with
  | nil => simp [Rows.uptoBulkAll]
  | cons d r ih => simp only [List.cons_append, Rows.uptoBulkAll, ih]; omega
theorem bulk_sumR {H α : Type} (f : α → Nat) (D : Nat → DataW H) (xs : List α) (h : ∀ i x, xs[i]? = some x → f x ≤ Rows.uptoBulk (D i)) : (xs.map f).sum ≤ Rows.uptoBulkAll ((List.range xs.length).map D) := by
  have key : ∀ n, n ≤ xs.length → ((xs.take n).map f).sum ≤ Rows.uptoBulkAll ((List.range n).map D) := by
    intro n
    induction n with
    | zero => intro _; simp
    | succ n ih =>
      intro hn
      have h1 := ih (by omega)
      have h2 := h n _ (List.getElem?_eq_getElem (by omega))
      rw [List.take_succ_eq_append_getElem (by omega), List.map_append, List.sum_append, List.range_succ, List.map_append, bulk_appR]
      simp only [List.map_cons, List.map_nil, List.sum_cons, List.sum_nil, Rows.uptoBulkAll]
      omega
  have := key xs.length (Nat.le_refl _)
  rw [List.take_length] at this
  exact this
set_option maxRecDepth 100000 in
theorem open_row {α H : Type} {enc : TypeId × Value → H} {W : World} {t e : TypeId} {sz fuel : Nat} (vals : α → List Value) (Q : α → DataW H → Prop) (f : α → Nat) (ht : Try.prog.underlying t = some (.slice e)) (hc : Try.prog.cellsOf e = sz) (hsz : 0 < sz) (hvl : ∀ x, (vals x).length = sz)
    (hel : ∀ fuel cs x, DataW.trod enc Try.prog W 0 (fun _ => true) true fuel e cs = some x → ∃ a, cs = vals a ∧ Q a x.1 ∧ f a ≤ Rows.uptoBulk x.1) {a : Option Addr} {len cap : Nat} {x : DataW H × List MemPlace} (h : DataW.trod enc Try.prog W 0 (fun _ => true) true fuel t [.slice a len cap] = some x) :
    ∃ xs : List α, len = xs.length ∧ RowW sz vals W a xs ∧ (∀ x ∈ xs, ∃ d, Q x d) ∧ (xs.map f).sum + 1 ≤ Rows.uptoBulk x.1 ∧ len ≤ cap ∧ cap ≤ maxLen ∧ (a = none → xs = [] ∧ cap = 0) := by
  rcases Go.Deep.open_slice ht h with ⟨hcs, hx0⟩ | ⟨ad, l, c, m, n, D, Pl, hcs, _, hl, hm, hmm, hx, hele⟩
  · simp at hcs
    obtain ⟨rfl, rfl, rfl⟩ := hcs
    subst hx0
    exact ⟨[], rfl, .inl rfl, by simp, by simp [Rows.uptoBulk], Nat.le_refl _, Nat.zero_le _, fun _ => ⟨rfl, rfl⟩⟩
  · simp at hcs
    obtain ⟨rfl, rfl, rfl⟩ := hcs
    have hlm : len ≤ m := by rw [hmm]; simp; exact hl
    rw [hc] at hele
    obtain ⟨xs, hxl, hxq⟩ := gatherQ (Q := fun i x => Q x (D i) ∧ f x ≤ Rows.uptoBulk (D i) ∧ W.cells? 0 (ad.add (i * sz)) sz = some (vals x)) len (fun i hi => by
      obtain ⟨cs', h1, h2⟩ := hele i (by omega)
      obtain ⟨y, rfl, hq, hk⟩ := hel _ _ _ h2
      exact ⟨y, hq, hk, h1⟩)
    refine ⟨xs, hxl.symm, ?_, ?_, ?_, hl, hm, fun h => by cases h⟩
    · by_cases h0 : len = 0
      · exact .inl (List.eq_nil_of_length_eq_zero (by omega))
      · obtain ⟨b, off, spot⟩ := ad
        obtain ⟨x0, hx0⟩ : ∃ x, xs[0]? = some x := ⟨_, List.getElem?_eq_getElem (by omega)⟩
        obtain ⟨v0, hv0⟩ : ∃ v, (vals x0)[0]? = some v := ⟨_, List.getElem?_eq_getElem (by rw [hvl]; exact hsz)⟩
        have hc0 : W.cell? ⟨b, off, spot⟩ = some v0 := by
          obtain ⟨_, _, hcc⟩ := World.cells?_some (hxq 0 x0 hx0).2.2
          have h1 := hcc 0 (by omega)
          have e : ((⟨b, off, spot⟩ : Addr).add (0 * sz)).add 0 = ⟨b, off, spot⟩ := by simp [Addr.add]
          rw [e, hv0] at h1
          exact h1
        have hspot : spot = none := by simpa using World.cell?_spot hc0
        subst hspot
        refine .inr ⟨b, off, rfl, World.block_lt_of_cell? _ _ hc0, fun i x hx j v hv => ?_⟩
        have hj : j < sz := by have := (List.getElem?_eq_some_iff.1 hv).1; rw [hvl] at this; exact this
        obtain ⟨_, _, hcc⟩ := World.cells?_some (hxq i x hx).2.2
        have h1 := hcc j hj
        rw [hv] at h1
        have e1 : (⟨b, off, none⟩ : Addr).add (i * sz) = ⟨b, off + i * sz, none⟩ := by simp [Addr.add]
        have e2 : (⟨b, off + i * sz, none⟩ : Addr).add j = ⟨b, off + i * sz + j, none⟩ := by simp [Addr.add]
        rw [e1, e2] at h1
        exact h1
    · intro y hy
      obtain ⟨i, hi⟩ := List.getElem?_of_mem hy
      exact ⟨_, (hxq i y hi).1⟩
    · have h1 := bulk_sumR f D xs (fun i x hi => (hxq i x hi).2.1)
      rw [hx, ← hxl]
      simp only [Rows.uptoBulk]
      omega
end Go.Proofs.Ytheefdplbmneeaa
