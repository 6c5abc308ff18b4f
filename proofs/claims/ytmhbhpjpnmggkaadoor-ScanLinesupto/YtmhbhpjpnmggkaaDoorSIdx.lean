/- The library's contracts on strings.IndexByte and utf8.ValidRune, at this program's own numbers. -/
import Derived.Shelf.Small.Strs
import Derived.Shelf.Small.Utf8
import Derived.Test.YtmhbhpjpnmggkaaDoorProg
namespace Go.Proofs.YtmhbhpjpnmggkaaDoor
open Go.Shelf Go.RowKit

def renA_137 : Go.Shelf.Ren := ⟨fun | 137 => 84 | 217 => 94 | 266 => 97 | n => n, fun | 3 => 3 | 5 => 5 | 9 => 9 | n => n, fun  | n => n⟩
theorem lay_Lays_137 : Go.Proofs.Lays.n137 Tryd.prog renA_137 := {
  mixed := by kernel_rfl
  f137 := Tryd.func84.trans (congrArg some (by kernel_rfl))
  f217 := Tryd.func94.trans (congrArg some (by kernel_rfl))
  f266 := Tryd.func97.trans (congrArg some (by kernel_rfl))
  t3 := Tryd.underlying3
  a3 := Tryd.isAgg3
  z3 := Tryd.sizeOf3
  v3 := Tryd.zeroValue3
  t5 := Tryd.underlying5
  a5 := Tryd.isAgg5
  z5 := Tryd.sizeOf5
  v5 := Tryd.zeroValue5
  t9 := Tryd.underlying9
  a9 := Tryd.isAgg9
  z9 := Tryd.sizeOf9
  v9 := Tryd.zeroValue9 }
def renA_119 : Go.Shelf.Ren := ⟨fun | 119 => 72 | n => n, fun | 4 => 4 | 5 => 5 | 21 => 21 | n => n, fun  | n => n⟩
theorem lay_Lays_119 : Go.Proofs.Lays.n119 Tryd.prog renA_119 := {
  mixed := by kernel_rfl
  f119 := Tryd.func72.trans (congrArg some (by kernel_rfl))
  t4 := Tryd.underlying4
  a4 := Tryd.isAgg4
  z4 := Tryd.sizeOf4
  v4 := Tryd.zeroValue4
  t21 := Tryd.underlying21
  a21 := Tryd.isAgg21
  z21 := Tryd.sizeOf21
  v21 := Tryd.zeroValue21 }
end Go.Proofs.YtmhbhpjpnmggkaaDoor
