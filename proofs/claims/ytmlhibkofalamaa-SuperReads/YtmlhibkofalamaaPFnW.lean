/- Package pmem: Fence. -/
import Derived.Test.YtmlhibkofalamaaPFnA
namespace Go.Proofs.Ytmlhibkofalamaa
open Go.RowKit Go.Shelf
set_option linter.unusedVariables false

section
variable {w : World} {b : Nat} {L : Lay} {σ : St}
end
end Go.Proofs.Ytmlhibkofalamaa
