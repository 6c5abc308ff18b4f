/- bits.Put of a uint32. -/
import Derived.Test.YtneknpkocjnmjaaPut
namespace Go.Proofs.Ytneknpkocjnmjaa
open Go.RowKit
set_option linter.unusedVariables false

end Go.Proofs.Ytneknpkocjnmjaa
