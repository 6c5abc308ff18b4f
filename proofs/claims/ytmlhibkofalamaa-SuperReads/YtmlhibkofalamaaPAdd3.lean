/- Package pmem: a content is put behind the others. -/
import Derived.Test.YtmlhibkofalamaaPAdd2
import Derived.Test.YtmlhibkofalamaaPHeld
import Derived.Deep.QuietTactic
import Derived.BigQuiet
namespace Go.Proofs.Ytmlhibkofalamaa
open Go.RowKit
set_option linter.unusedVariables false

end Go.Proofs.Ytmlhibkofalamaa
