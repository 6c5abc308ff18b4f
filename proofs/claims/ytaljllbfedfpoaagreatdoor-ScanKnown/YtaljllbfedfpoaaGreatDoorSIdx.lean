/- The library's contracts on strings.IndexByte and utf8.ValidRune, at this program's own numbers. -/
import Derived.Shelf.Small.Strs
import Derived.Shelf.Small.Utf8
import Derived.Test.YtaljllbfedfpoaaGreatDoorProg
namespace Go.Proofs.YtaljllbfedfpoaaGreatDoor
open Go.Shelf Go.RowKit

def renA_137 : Go.Shelf.Ren := ⟨fun | 137 => 95 | 217 => 109 | 266 => 116 | n => n, fun | 3 => 3 | 5 => 5 | 9 => 9 | n => n, fun  | n => n⟩
theorem lay_Lays_137 : Go.Proofs.Lays.n137 Tryz.prog renA_137 := {
  mixed := by kernel_rfl
  f137 := Tryz.func95.trans (congrArg some (by kernel_rfl))
  f217 := Tryz.func109.trans (congrArg some (by kernel_rfl))
  f266 := Tryz.func116.trans (congrArg some (by kernel_rfl))
  t3 := Tryz.underlying3
  a3 := Tryz.isAgg3
  z3 := Tryz.sizeOf3
  v3 := Tryz.zeroValue3
  t5 := Tryz.underlying5
  a5 := Tryz.isAgg5
  z5 := Tryz.sizeOf5
  v5 := Tryz.zeroValue5
  t9 := Tryz.underlying9
  a9 := Tryz.isAgg9
  z9 := Tryz.sizeOf9
  v9 := Tryz.zeroValue9 }
def renA_119 : Go.Shelf.Ren := ⟨fun | 119 => 76 | n => n, fun | 4 => 4 | 5 => 5 | 21 => 21 | n => n, fun  | n => n⟩
theorem lay_Lays_119 : Go.Proofs.Lays.n119 Tryz.prog renA_119 := {
  mixed := by kernel_rfl
  f119 := Tryz.func76.trans (congrArg some (by kernel_rfl))
  t4 := Tryz.underlying4
  a4 := Tryz.isAgg4
  z4 := Tryz.sizeOf4
  v4 := Tryz.zeroValue4
  t21 := Tryz.underlying21
  a21 := Tryz.isAgg21
  z21 := Tryz.sizeOf21
  v21 := Tryz.zeroValue21 }
end Go.Proofs.YtaljllbfedfpoaaGreatDoor
