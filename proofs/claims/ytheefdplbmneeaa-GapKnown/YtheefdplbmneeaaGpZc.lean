/- Parts of a text. -/
import Derived.Test.YtheefdplbmneeaaGpW
namespace Go.Proofs.Ytheefdplbmneeaa
open Go.RowKit
set_option linter.unusedVariables false
set_option linter.unusedSimpArgs false

theorem cut_hd (T : ByteArray) (b : Nat) (hb : b ≤ T.size) (W : World) : (Instr.slice 9 (.string T) none (some (.int .i64 (b : Int))) none).run Try.prog W = .ok (.string (T.extract 0 b)) W := by
  have h1 : (0 : Int) ≤ (b : Int) ∧ (b : Int) ≤ (T.size : Int) := by omega
  simp [Instr.slice, Sem.run_bind, run_underlying Try.underlying9, Instr.sliceBounds, Instr.sliceBound, asIntOf, h1, hb]
theorem cut_tl (T : ByteArray) (a : Nat) (ha : a ≤ T.size) (W : World) : (Instr.slice 9 (.string T) (some (.int .i64 (a : Int))) none none).run Try.prog W = .ok (.string (T.extract a T.size)) W := by
  have h1 : (0 : Int) ≤ (a : Int) ∧ (a : Int) ≤ (T.size : Int) := by omega
  simp [Instr.slice, Sem.run_bind, run_underlying Try.underlying9, Instr.sliceBounds, Instr.sliceBound, asIntOf, h1, ha]
end Go.Proofs.Ytheefdplbmneeaa
