/- Package pmem: Store8, Store. -/
import Derived.Test.YtmljacjbpcgijaaPLd
import Derived.Test.YtmljacjbpcgijaaPWr
import Derived.Test.YtmljacjbpcgijaaPut
namespace Go.Proofs.Ytmljacjbpcgijaa
open Go.RowKit Go.Shelf
set_option linter.unusedVariables false

section
variable {w : World} {b at_ : Nat} {L : Lay} {σ : St}
end
end Go.Proofs.Ytmljacjbpcgijaa
