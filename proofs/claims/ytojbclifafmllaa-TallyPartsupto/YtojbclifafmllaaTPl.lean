/- What Within and places answer: places of a text, rising. -/
import Derived.Test.YtojbclifafmllaaTSu
import Derived.Laws.AppendOwnNone
namespace Go.Proofs.Ytojbclifafmllaa
open Go.RowKit
set_option linter.unusedVariables false

/-- What a row of numbers holds. -/
def SlI (W : World) (a : Option Addr) (zs : List Int) : Prop := zs = [] ∨ ∃ b off, a = some ⟨b, off, none⟩ ∧ b < W.heap.size ∧ ∀ (i : Nat) (z : Int), zs[i]? = some z → W.cell? ⟨b, off + i, none⟩ = some (.int .i64 z)
theorem SlI.below {W W' : World} {a : Option Addr} {zs : List Int} (h : SlI W a zs) (hB : Below W.heap.size W W') : SlI W' a zs := by
  rcases h with h | ⟨b, off, ha, hb, hc⟩
  · exact .inl h
  · exact .inr ⟨b, off, ha, Nat.lt_of_lt_of_le hb hB.size, fun i x hx => cell_below (hc i x hx) hB hb⟩

/-- Places that rise, from one on, within a text of so many bytes. -/
def Rise (n : Nat) : Nat → List Nat → Prop
  | _, [] => True
  | f, p :: ps => f ≤ p ∧ p ≤ n ∧ Rise n p ps
theorem Rise.snoc {n : Nat} : ∀ {f : Nat} {ps : List Nat} {p : Nat}, Rise n f ps → (ps.getLastD f) ≤ p → p ≤ n → Rise n f (ps ++ [p]) := by
  intro f ps
  induction ps generalizing f with
  | nil => intro p _ h1 h2; exact ⟨h1, h2, trivial⟩
  | cons q qs ih =>
    intro p h h1 h2
    refine ⟨h.1, h.2.1, ih h.2.2 ?_ h2⟩
    cases qs with
    | nil => exact h1
    | cons r rs => exact h1
def I64 (z : Int) : Value := .int .i64 z
theorem Try.info64 : (Try.prog.info? 3).map (fun i => (i.zero, i.size, i.bytes)) = some (some (.int .i64 0), 1, 8) := by kernel_rfl

end Go.Proofs.Ytojbclifafmllaa
