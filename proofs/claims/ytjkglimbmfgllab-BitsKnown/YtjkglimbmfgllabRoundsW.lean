/- The road of BitsRounds: it returns true for every two numbers and writes nothing that was there. -/
import Derived.Test.YtjkglimbmfgllabWorks
namespace Go.Proofs.Ytjkglimbmfgllab.bitsRounds
open Go.RowKit Go.Proofs.Ytjkglimbmfgllab
set_option linter.unusedVariables false

set_option maxHeartbeats 400000 in
theorem walk (a0 : Int) (a1 : Int) (w0 : (Lit.int .i64 a0).wf = true) (w1 : (Lit.int .i64 a1).wf = true) (w : World) :
    Calls Try.prog 17 #[.int .i64 a0, .int .i64 a1] w fun e w' => e = .returned (.bool true) ∧ Below w.heap.size w w' := by
  have b0 := bounds_i64 w0
  have b1 := bounds_i64 w1
  have c1 := roundP_any a0 a1 (by omega) (by omega)
  have c2 := roundR_any a0 a1 (by omega) (by omega)
  generalize roundV a0 a1 = v at *
  obtain ⟨v1, v2⟩ := v
  have C1 := hide c1
  have C2 := hide c2
  clear c1 c2
  go_enter Try.func17, Try.ntmps17
  go_wp2_with (first | (go_at_call 22; refine (unhide C1 _).mono ?_; rintro e w' ⟨rfl, rfl⟩) | (go_at_call 25; refine (unhide C2 _).mono ?_; rintro e w' ⟨rfl, rfl⟩) | (go_at_call 11; refine (works_any _).mono ?_; rintro e w' ⟨rfl, hB⟩))
  go_ret
  exact ⟨rfl, hB⟩

end Go.Proofs.Ytjkglimbmfgllab.bitsRounds
