/- The road of UtfSeam: for every two texts of bounded size it returns true, and writes nothing that was there. -/
import Derived.Test.YtcneidhjemcfdabUSm1
namespace Go.Proofs.Ytcneidhjemcfdab
open Go.RowKit
set_option linter.unusedVariables false

namespace utfSeam
theorem walk (a b : ByteArray) (w : World) (hs : a.size + b.size ≤ 1048576) :
    Calls Try.prog 4 #[.string a, .string b] w fun e w' => e = .returned (.bool true) ∧ Below w.heap.size w w' := by
  by_cases h : closesV ((bl a).drop (a.size - pendingV (bl a))) (bl b) = 0
  · exact walk0 a b w hs h
  · exact walk1 a b w hs h
end utfSeam
end Go.Proofs.Ytcneidhjemcfdab
