/- Package pmem: Store8, Store. -/
import Derived.Test.YtjbfbdnibnmfgaaPLd
import Derived.Test.YtjbfbdnibnmfgaaPWr
import Derived.Test.YtjbfbdnibnmfgaaPut
namespace Go.Proofs.Ytjbfbdnibnmfgaa
open Go.RowKit Go.Shelf
set_option linter.unusedVariables false

section
variable {w : World} {b at_ : Nat} {L : Lay} {σ : St}
end
end Go.Proofs.Ytjbfbdnibnmfgaa
