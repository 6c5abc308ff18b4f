/- Package pmem: a line has one content more. -/
import Derived.Test.YtmlhibkofalamaaPChgA
namespace Go.Proofs.Ytmlhibkofalamaa
open Go.RowKit
set_option linter.unusedVariables false

end Go.Proofs.Ytmlhibkofalamaa
