/- Package pmem: a line has one content more: the first one that it has beside what is seen. -/
import Derived.Test.YtmlhibkofalamaaPChg
namespace Go.Proofs.Ytmlhibkofalamaa
open Go.RowKit
set_option linter.unusedVariables false

end Go.Proofs.Ytmlhibkofalamaa
