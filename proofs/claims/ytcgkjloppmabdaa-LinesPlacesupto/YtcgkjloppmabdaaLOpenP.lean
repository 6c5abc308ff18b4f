/- What opening a line and a column that are handed in leans on. -/
import Derived.Test.YtcgkjloppmabdaaLOpen
import Derived.Test.YtcgkjloppmabdaaLUse
namespace Go.Proofs.Ytcgkjloppmabdaa
open Go.ChangeShapes Go.WideShapes Go.ChangeAt Go.RowKit
set_option linter.unusedVariables false

theorem Try.cellsSpot : Try.prog.cellsOf 23 = 2 := by kernel_rfl
theorem Try.cellsI : Try.prog.cellsOf 3 = 1 := by kernel_rfl
theorem spot_cells {H : Type} {enc : TypeId × Value → H} {W : World} {base : Nat} {sp : Bool} {held : Nat → Bool} {fuel : Nat} {cs : List Value} {x : DataW H × List MemPlace}
    (h : DataW.trod enc Try.prog W base held sp fuel 23 cs = some x) :
    ∃ (a c : Int), cs = [.int .i64 a, .int .i64 c] := by
  obtain ⟨xs, n, _, hx, hl, hlen, hf⟩ := DataW.trod_struct Try.underlying23 h
  rw [Try.cellsSpot] at hl
  match cs, hl with
  | [c0, c1], _ =>
    match xs, hlen with
    | [y0, y1], _ =>
      have h0 := hf 0 _ rfl
      have h1 := hf 1 _ rfl
      simp [Try.cellsI] at h0 h1
      obtain ⟨b, e0, _, w0⟩ := DataW.trod_int Try.underlying3 h0
      obtain ⟨c, e1, _, _⟩ := DataW.trod_int Try.underlying3 h1
      simp at e0 e1
      subst e0 e1
      exact ⟨b, c, rfl⟩
theorem open_spot {H : Type} {enc : TypeId × Value → H} {W : World} {r : Reach} {b0 base : Nat} {sp : Bool} {held : Nat → Bool} {v : Value} {d : DataW H} {p : List MemPlace}
    (hv : Value.okWide Try.prog W r b0 23 v) (h : DataW.Trod enc Try.prog W base held sp 23 v d p) :
    ∃ (a c : Int), v = .agg #[.int .i64 a, .int .i64 c] := by
  obtain ⟨cs, rfl, hsz⟩ := okWide_struct Try.underlying23 hv
  obtain ⟨fuel, hf⟩ := h
  obtain ⟨a, c, e⟩ := spot_cells hf
  refine ⟨a, c, ?_⟩
  have e' : cs.toList = [.int .i64 a, .int .i64 c] := by simpa [Value.cells] using e
  rw [← Array.toArray_toList (xs := cs), e']
end Go.Proofs.Ytcgkjloppmabdaa
