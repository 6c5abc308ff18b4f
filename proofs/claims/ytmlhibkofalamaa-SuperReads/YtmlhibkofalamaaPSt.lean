/- Package pmem: Store8, Store. -/
import Derived.Test.YtmlhibkofalamaaPLd
import Derived.Test.YtmlhibkofalamaaPWr
import Derived.Test.YtmlhibkofalamaaPut
namespace Go.Proofs.Ytmlhibkofalamaa
open Go.RowKit Go.Shelf
set_option linter.unusedVariables false

section
variable {w : World} {b at_ : Nat} {L : Lay} {σ : St}
end
end Go.Proofs.Ytmlhibkofalamaa
