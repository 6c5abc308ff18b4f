/- The library's contracts on a strings.Builder, at this program's own numbers. -/
import Derived.Shelf.Strings.Builder1
import Derived.Shelf.Strings.Builder2
import Derived.Shelf.Strings.BuilderF
import Derived.Shelf.Strings.BuilderK
import Derived.Test.YtodooppapciegaaGreatDoorProg
namespace Go.Proofs.YtodooppapciegaaGreatDoor
open Go.Shelf Go.RowKit

end Go.Proofs.YtodooppapciegaaGreatDoor
