/- Package pmem: bytes are written, word by word. -/
import Derived.Test.YtmlhibkofalamaaPWrB
namespace Go.Proofs.Ytmlhibkofalamaa
open Go.RowKit Go.Shelf
set_option linter.unusedVariables false
attribute [local go_sem] Oper.semAt_some

end Go.Proofs.Ytmlhibkofalamaa
