/- What the document's list of folds is. -/
import Derived.Test.YtihfnnhfpohakaaKRef2
import Derived.Great.BuildSlice
import Derived.WalkKit
import Derived.Deep.Cut
namespace Go.Proofs.Ytihfnnhfpohakaa
open Go.RowKit
set_option linter.unusedVariables false

def foldsZ : List Int := [65, 90, 1, 32, 192, 214, 1, 32, 216, 222, 1, 32, 256, 302, 2, 1, 306, 310, 2, 1, 313, 327, 2, 1, 330, 374, 2, 1, 376, 376, 1, -121, 377, 381, 2, 1, 383, 383, 1, -268, 902, 902, 1, 38, 904, 906, 1, 37, 908, 908, 1, 64, 910, 911, 1, 63, 913, 929, 1, 32, 931, 939, 1, 32, 962, 962, 1, 1, 984, 1006, 2, 1, 1024, 1039, 1, 80, 1040, 1071, 1, 32, 1120, 1152, 2, 1, 1162, 1214, 2, 1, 1217, 1229, 2, 1, 1232, 1326, 2, 1, 1329, 1366, 1, 48, 7680, 7828, 2, 1, 7838, 7838, 1, -7615, 7840, 7934, 2, 1, 8486, 8486, 1, -7517, 8490, 8490, 1, -8383, 8491, 8491, 1, -8262, 8544, 8559, 1, 16, 9398, 9423, 1, 26, 65313, 65338, 1, 32, 66560, 66599, 1, 40]
theorem folds_cells (w : World) : CellsZ (w.alloc (.cells (foldsZ.map fun x => Value.int .i32 x).toArray 21)) w.heap.size foldsZ := cellsZ_new w foldsZ 21

end Go.Proofs.Ytihfnnhfpohakaa
