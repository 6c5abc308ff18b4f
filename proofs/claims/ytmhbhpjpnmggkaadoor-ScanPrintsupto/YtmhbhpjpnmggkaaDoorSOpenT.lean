/- What opening a row of tokens that is handed in leans on. -/
import Derived.Test.YtmhbhpjpnmggkaaDoorSOpen
import Derived.Test.YtmhbhpjpnmggkaaDoorSPrn
import Derived.Deep.Slices
namespace Go.Proofs.YtmhbhpjpnmggkaaDoor
open Go.ChangeShapes Go.WideShapes Go.ChangeAt Go.RowKit
set_option linter.unusedVariables false

theorem Tryd.cellsTk : Tryd.prog.cellsOf 46 = 4 := by kernel_rfl
theorem Tryd.cellsI : Tryd.prog.cellsOf 3 = 1 := by kernel_rfl
theorem Tryd.cellsS : Tryd.prog.cellsOf 9 = 1 := by kernel_rfl
set_option maxRecDepth 100000 in
/-- The four cells that a token is read out of. -/
theorem token_cells {H : Type} {enc : TypeId × Value → H} {W : World} {base : Nat} {sp : Bool} {held : Nat → Bool} {fuel : Nat} {cs : List Value} {x : DataW H × List MemPlace}
    (h : DataW.trod enc Tryd.prog W base held sp fuel 46 cs = some x) :
    ∃ (k a : Int) (t : ByteArray) (n : Int), cs = [.int .i64 k, .int .i64 a, .string t, .int .i64 n] ∧ (-9223372036854775808 ≤ n ∧ n ≤ 9223372036854775807) ∧ t.size + 1 ≤ Rows.uptoBulk x.1 := by
  obtain ⟨xs, n, _, hx, hl, hlen, hf⟩ := DataW.trod_struct Tryd.underlying46 h
  rw [Tryd.cellsTk] at hl
  match cs, hl with
  | [c0, c1, c2, c3], _ =>
    match xs, hlen with
    | [y0, y1, y2, y3], _ =>
      have h0 := hf 0 _ rfl
      have h1 := hf 1 _ rfl
      have h2 := hf 2 _ rfl
      have h3 := hf 3 _ rfl
      simp [Tryd.cellsI, Tryd.cellsS] at h0 h1 h2 h3
      obtain ⟨k, e0, _, _⟩ := DataW.trod_int Tryd.underlying3 h0
      obtain ⟨a, e1, _, _⟩ := DataW.trod_int Tryd.underlying3 h1
      obtain ⟨t, e2, d2, _⟩ := DataW.trod_string Tryd.underlying9 h2
      obtain ⟨m, e3, _, w3⟩ := DataW.trod_int Tryd.underlying3 h3
      simp at e0 e1 e2 e3
      subst e0 e1 e2 e3
      refine ⟨k, a, t, m, rfl, bounds_i64 w3, ?_⟩
      subst hx
      subst d2
      have e : t.data.toList.length = t.size := by simp
      simp only [List.map_cons, List.map_nil, Rows.uptoBulk, Rows.uptoBulkAll]
      omega
theorem gatherT {Q : Nat → TkI → Prop} : ∀ n, (∀ i, i < n → ∃ x, Q i x) → ∃ xs : List TkI, xs.length = n ∧ ∀ i x, xs[i]? = some x → Q i x := by
  intro n
  induction n with
  | zero => intro _; exact ⟨[], rfl, fun i x h => by simp at h⟩
  | succ n ih =>
    intro h
    obtain ⟨xs, hl, hq⟩ := ih (fun i hi => h i (by omega))
    obtain ⟨y, hy⟩ := h n (by omega)
    refine ⟨xs ++ [y], by rw [List.length_append, hl]; rfl, fun i x hx => ?_⟩
    by_cases hi : i < xs.length
    · rw [List.getElem?_append_left hi] at hx
      exact hq i x hx
    · rw [List.getElem?_append_right (by omega)] at hx
      have hlt := (List.getElem?_eq_some_iff.1 hx).1
      simp at hlt
      have e : i - xs.length = 0 := by omega
      rw [e] at hx
      simp at hx
      subst hx
      have : i = n := by omega
      subst this
      exact hy
theorem bulk_app {H : Type} (l m : List (DataW H)) : Rows.uptoBulkAll (l ++ m) = Rows.uptoBulkAll l + Rows.uptoBulkAll m := by
  induction l with
  | nil => simp [Rows.uptoBulkAll]
  | cons d r ih => simp only [List.cons_append, Rows.uptoBulkAll, ih]; omega
theorem bulk_sum {H : Type} (D : Nat → DataW H) : ∀ (xs : List TkI), (∀ i x, xs[i]? = some x → x.2.2.1.size + 1 ≤ Rows.uptoBulk (D i)) → (xs.map (fun x => x.2.2.1.size)).sum + xs.length ≤ Rows.uptoBulkAll ((List.range xs.length).map D) := by
  intro xs h
  have key : ∀ n, n ≤ xs.length → ((xs.take n).map (fun x => x.2.2.1.size)).sum + n ≤ Rows.uptoBulkAll ((List.range n).map D) := by
    intro n
    induction n with
    | zero => intro _; simp
    | succ n ih =>
      intro hn
      have h1 := ih (by omega)
      have h2 := h n _ (List.getElem?_eq_getElem (by omega))
      rw [List.take_succ_eq_append_getElem (by omega), List.map_append, List.sum_append, List.range_succ, List.map_append, bulk_app]
      simp only [List.map_cons, List.map_nil, List.sum_cons, List.sum_nil, Rows.uptoBulkAll]
      omega
  have := key xs.length (Nat.le_refl _)
  rw [List.take_length] at this
  exact this
set_option maxRecDepth 100000 in
theorem open_toks {H : Type} {enc : TypeId × Value → H} {W : World} {a : Option Addr} {len cap : Nat} {d : DataW H} {p : List MemPlace} (h : DataW.Trod enc Tryd.prog W 0 (fun _ => true) true 25 (.slice a len cap) d p) :
    ∃ xs : List TkI, len = xs.length ∧ SlK W a xs ∧ (∀ x ∈ xs, -9223372036854775808 ≤ x.2.2.2 ∧ x.2.2.2 ≤ 9223372036854775807) ∧ ((xs.map (fun x => x.2.2.1.size)).sum + xs.length ≤ Rows.uptoBulk d ∧ (a = none → xs.length = 0 ∧ cap = 0)) := by
  obtain ⟨fuel, hf⟩ := h
  rcases Go.Deep.open_slice Tryd.underlying25 hf with ⟨hcs, hx0⟩ | ⟨ad, l, c, m, n, D, Pl, hcs, _, hl, hm, hmm, hx, hel⟩
  · simp [Value.cells] at hcs
    obtain ⟨rfl, rfl, rfl⟩ := hcs
    exact ⟨[], rfl, .inl rfl, by simp, by simp, fun _ => ⟨rfl, rfl⟩⟩
  · simp [Value.cells] at hcs
    obtain ⟨rfl, rfl, rfl⟩ := hcs
    simp only [Prod.mk.injEq] at hx
    have hlm : len ≤ m := by rw [hmm]; simp; exact hl
    rw [Tryd.cellsTk] at hel
    obtain ⟨xs, hxl, hxq⟩ := gatherT (Q := fun i x => (-9223372036854775808 ≤ x.2.2.2 ∧ x.2.2.2 ≤ 9223372036854775807) ∧ x.2.2.1.size + 1 ≤ Rows.uptoBulk (D i) ∧ W.cells? 0 (ad.add (i * 4)) 4 = some [.int .i64 x.1, .int .i64 x.2.1, .string x.2.2.1, .int .i64 x.2.2.2]) len (fun i hi => by
      obtain ⟨cs', h1, h2⟩ := hel i (by omega)
      obtain ⟨k, a0, t, nn, rfl, hb, hk⟩ := token_cells h2
      exact ⟨(k, a0, t, nn), hb, hk, h1⟩)
    refine ⟨xs, hxl.symm, ?_, ?_, ?_, fun h => by cases h⟩
    · by_cases h0 : len = 0
      · exact .inl (List.eq_nil_of_length_eq_zero (by omega))
      · obtain ⟨b, off, spot⟩ := ad
        obtain ⟨x0, hx0⟩ : ∃ x, xs[0]? = some x := ⟨_, List.getElem?_eq_getElem (by omega)⟩
        have hc0 : W.cell? ⟨b, off, spot⟩ = some (.int .i64 x0.1) := by
          obtain ⟨_, _, hc⟩ := World.cells?_some (hxq 0 x0 hx0).2.2
          have h1 := hc 0 (by omega)
          have e : ((⟨b, off, spot⟩ : Addr).add (0 * 4)).add 0 = ⟨b, off, spot⟩ := by simp [Addr.add]
          rw [e] at h1
          exact h1
        have hspot : spot = none := by simpa using World.cell?_spot hc0
        subst hspot
        have key : ∀ i x, xs[i]? = some x → ∀ j (v : Value), j < 4 → [Value.int .i64 x.1, .int .i64 x.2.1, .string x.2.2.1, .int .i64 x.2.2.2][j]? = some v → W.cell? ⟨b, off + i * 4 + j, none⟩ = some v := by
          intro i x hx j v hj hv
          obtain ⟨_, _, hc⟩ := World.cells?_some (hxq i x hx).2.2
          have h1 := hc j hj
          rw [hv] at h1
          have e1 : (⟨b, off, none⟩ : Addr).add (i * 4) = ⟨b, off + i * 4, none⟩ := by simp [Addr.add]
          have e2 : (⟨b, off + i * 4, none⟩ : Addr).add j = ⟨b, off + i * 4 + j, none⟩ := by simp [Addr.add]
          rw [e1, e2] at h1
          exact h1
        refine .inr ⟨b, off, rfl, World.block_lt_of_cell? _ _ hc0, fun i x hx => ?_⟩
        exact ⟨key i x hx 0 _ (by omega) rfl, key i x hx 1 _ (by omega) rfl, key i x hx 2 _ (by omega) rfl, key i x hx 3 _ (by omega) rfl⟩
    · intro x hx
      obtain ⟨i, hi⟩ := List.getElem?_of_mem hx
      exact (hxq i x hi).1
    · have h1 := bulk_sum D xs (fun i x hi => (hxq i x hi).2.1)
      rw [hx.1, ← hxl]
      simp only [Rows.uptoBulk]
      omega
end Go.Proofs.YtmhbhpjpnmggkaaDoor
