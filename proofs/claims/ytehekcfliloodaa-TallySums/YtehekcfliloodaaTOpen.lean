/- What opening a tally that is handed in leans on. -/
import Derived.Test.YtehekcfliloodaaUOpen
import Derived.Test.YtehekcfliloodaaTOf
namespace Go.Proofs.Ytehekcfliloodaa
open Go.ChangeShapes Go.WideShapes Go.ChangeAt Go.RowKit
set_option linter.unusedVariables false

theorem Try.cells24 : Try.prog.cellsOf 24 = 5 := by kernel_rfl
theorem Try.cellsI : Try.prog.cellsOf 3 = 1 := by kernel_rfl
theorem Try.cellsS : Try.prog.cellsOf 9 = 1 := by kernel_rfl
/-- The five cells that a tally is read out of. -/
theorem tally_cells {H : Type} {enc : TypeId × Value → H} {W : World} {base : Nat} {sp : Bool} {held : Nat → Bool} {fuel : Nat} {cs : List Value} {x : DataW H × List MemPlace}
    (h : DataW.trod enc Try.prog W base held sp fuel 24 cs = some x) :
    ∃ (b c l : Int) (hh t : ByteArray), cs = [.int .i64 b, .int .i64 c, .int .i64 l, .string hh, .string t] ∧ b ≤ 9223372036854775807 := by
  obtain ⟨xs, n, _, hx, hl, hlen, hf⟩ := DataW.trod_struct Try.underlying24 h
  rw [Try.cells24] at hl
  match cs, hl with
  | [c0, c1, c2, c3, c4], _ =>
    match xs, hlen with
    | [y0, y1, y2, y3, y4], _ =>
      have h0 := hf 0 _ rfl
      have h1 := hf 1 _ rfl
      have h2 := hf 2 _ rfl
      have h3 := hf 3 _ rfl
      have h4 := hf 4 _ rfl
      simp [Try.cellsI, Try.cellsS] at h0 h1 h2 h3 h4
      obtain ⟨b, e0, _, w0⟩ := DataW.trod_int Try.underlying3 h0
      obtain ⟨c, e1, _, _⟩ := DataW.trod_int Try.underlying3 h1
      obtain ⟨l, e2, _, _⟩ := DataW.trod_int Try.underlying3 h2
      obtain ⟨hh, e3, _, _⟩ := DataW.trod_string Try.underlying9 h3
      obtain ⟨t, e4, _, _⟩ := DataW.trod_string Try.underlying9 h4
      simp at e0 e1 e2 e3 e4
      subst e0 e1 e2 e3 e4
      exact ⟨b, c, l, hh, t, rfl, (bounds_i64 w0).2⟩
theorem open_tally {H : Type} {enc : TypeId × Value → H} {W : World} {r : Reach} {b0 base : Nat} {sp : Bool} {held : Nat → Bool} {v : Value} {d : DataW H} {p : List MemPlace}
    (hv : Value.okWide Try.prog W r b0 24 v) (h : DataW.Trod enc Try.prog W base held sp 24 v d p) :
    ∃ (b c l : Int) (hh t : ByteArray), v = (.agg #[.int .i64 b, .int .i64 c, .int .i64 l, .string hh, .string t]) ∧ b ≤ 9223372036854775807 := by
  obtain ⟨cs, rfl, hsz⟩ := okWide_struct Try.underlying24 hv
  obtain ⟨fuel, hf⟩ := h
  obtain ⟨b, c, l, hh, t, e, hb⟩ := tally_cells hf
  refine ⟨b, c, l, hh, t, ?_, hb⟩
  have e' : cs.toList = [.int .i64 b, .int .i64 c, .int .i64 l, .string hh, .string t] := by simpa [Value.cells] using e
  rw [← Array.toArray_toList (xs := cs), e']
end Go.Proofs.Ytehekcfliloodaa
