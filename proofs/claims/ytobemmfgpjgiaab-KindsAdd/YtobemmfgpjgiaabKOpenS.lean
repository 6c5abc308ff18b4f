/- What opening two texts, a column and a tab that are handed in leans on. -/
import Derived.Test.YtobemmfgpjgiaabKOpen
namespace Go.Proofs.Ytobemmfgpjgiaab
open Go.ChangeShapes Go.WideShapes Go.ChangeAt Go.RowKit
set_option linter.unusedVariables false

theorem Try.cellsSums : Try.prog.cellsOf 28 = 4 := by kernel_rfl
theorem Try.cellsI5 : Try.prog.cellsOf 3 = 1 := by kernel_rfl
theorem Try.cellsS5 : Try.prog.cellsOf 9 = 1 := by kernel_rfl
/-- The four cells that are read. -/
theorem sums_cells {H : Type} {enc : TypeId × Value → H} {W : World} {base : Nat} {sp : Bool} {held : Nat → Bool} {fuel : Nat} {cs : List Value} {x : DataW H × List MemPlace}
    (h : DataW.trod enc Try.prog W base held sp fuel 28 cs = some x) :
    ∃ (a b : ByteArray) (f t : Int), cs = [.string a, .string b, .int .i64 f, .int .i64 t] ∧ x.1 = .agg [.lit (.string a.data.toList), .lit (.string b.data.toList), .lit (.int .i64 f), .lit (.int .i64 t)] ∧ (-9223372036854775808 ≤ f ∧ f ≤ 9223372036854775807) ∧ (-9223372036854775808 ≤ t ∧ t ≤ 9223372036854775807) := by
  obtain ⟨xs, n, _, hx, hl, hlen, hf⟩ := DataW.trod_struct Try.underlying28 h
  rw [Try.cellsSums] at hl
  match cs, hl with
  | [c0, c1, c2, c3], _ =>
    match xs, hlen with
    | [y0, y1, y2, y3], _ =>
      have h0 := hf 0 _ rfl
      have h1 := hf 1 _ rfl
      have h2 := hf 2 _ rfl
      have h3 := hf 3 _ rfl
      simp [Try.cellsI5, Try.cellsS5] at h0 h1 h2 h3
      obtain ⟨a, e0, d0, _⟩ := DataW.trod_string Try.underlying9 h0
      obtain ⟨b, e1, d1, _⟩ := DataW.trod_string Try.underlying9 h1
      obtain ⟨f, e2, d2, w2⟩ := DataW.trod_int Try.underlying3 h2
      obtain ⟨t, e3, d3, w3⟩ := DataW.trod_int Try.underlying3 h3
      simp at e0 e1 e2 e3
      subst e0 e1 e2 e3 d0 d1 d2 d3
      exact ⟨a, b, f, t, rfl, by rw [hx]; rfl, bounds_i64 w2, bounds_i64 w3⟩
theorem open_sums {H : Type} {enc : TypeId × Value → H} {W : World} {r : Reach} {b0 base : Nat} {sp : Bool} {held : Nat → Bool} {v : Value} {d : DataW H} {p : List MemPlace}
    (hv : Value.okWide Try.prog W r b0 28 v) (h : DataW.Trod enc Try.prog W base held sp 28 v d p) :
    ∃ (a b : ByteArray) (f t : Int), v = .agg #[.string a, .string b, .int .i64 f, .int .i64 t] ∧ d = .agg [.lit (.string a.data.toList), .lit (.string b.data.toList), .lit (.int .i64 f), .lit (.int .i64 t)] ∧ (-9223372036854775808 ≤ f ∧ f ≤ 9223372036854775807) ∧ (-9223372036854775808 ≤ t ∧ t ≤ 9223372036854775807) := by
  obtain ⟨cs, rfl, hsz⟩ := okWide_struct Try.underlying28 hv
  obtain ⟨fuel, hf⟩ := h
  obtain ⟨a, b, f, t, e, ed, h1, h2⟩ := sums_cells hf
  refine ⟨a, b, f, t, ?_, ed, h1, h2⟩
  have e' : cs.toList = [.string a, .string b, .int .i64 f, .int .i64 t] := by simpa [Value.cells] using e
  rw [← Array.toArray_toList (xs := cs), e']
/-- Both texts are of a size that a machine has. -/
theorem sized_sums {H : Type} {ts : List TypeId} {ds : List (DataW H)} {a b : List UInt8} {f t : Int} (h : (DataW.weightsEach Try.prog ts ds).all (· ≤ reachBytes) = true) (ht : ts[0]? = some 28)
    (hd : ds[0]? = some (.agg [.lit (.string a), .lit (.string b), .lit (.int .i64 f), .lit (.int .i64 t)])) : a.length ≤ reachBytes ∧ b.length ≤ reachBytes := by
  have hw : ∀ n, n = a.length ∨ n = b.length → n ∈ DataW.weights Try.prog 28 (DataW.agg (H := H) [.lit (.string a), .lit (.string b), .lit (.int .i64 f), .lit (.int .i64 t)]) := by
    intro n hn
    unfold DataW.weights
    rw [Try.underlying28]
    simp [DataW.weightsEach, DataW.weights, hn]
  constructor
  · have := List.all_eq_true.1 h _ (DataW.weights_mem_each ht hd a.length (hw _ (.inl rfl)))
    simpa using this
  · have := List.all_eq_true.1 h _ (DataW.weights_mem_each ht hd b.length (hw _ (.inr rfl)))
    simpa using this
end Go.Proofs.Ytobemmfgpjgiaab
