/- Package seek: pieces begins; the places from which Find looks. -/
import Derived.Test.YtedfnppekikcpaaXPcs
import Derived.Test.YtedfnppekikcpaaLUse
namespace Go.Proofs.Ytedfnppekikcpaa
open Go.RowKit Go.Shelf
set_option linter.unusedVariables false
set_option linter.unusedSimpArgs false

theorem pieces_any (pb : Nat) (s : ByteArray) (f : Int) (w : World) :
    Calls Try.prog 21 #[.pointer (some ⟨pb, 0, none⟩), .string s, .int .i64 f] w fun e w' => e = .returned (.func (.func 41) #[] #[.pointer (some ⟨w.heap.size, 0, none⟩), .pointer (some ⟨w.heap.size + 1, 0, none⟩), .pointer (some ⟨w.heap.size + 1 + 1, 0, none⟩)]) ∧
      w' = ((w.alloc (.cells #[.pointer (some ⟨pb, 0, none⟩)] 25)).alloc (.cells #[.string s] 9)).alloc (.cells #[.int .i64 f] 3) := by
  go_enter Try.func21, Try.ntmps21
  go_wp2
  go_ret
  exact ⟨rfl, rfl⟩
/-- The least place from one on. -/
def nextB (l : List UInt8) : Nat → Nat → Nat
  | 0, p => p
  | k + 1, p => if beginsV l (p : Int) then p else nextB l k (p + 1)
def findV (its : List Kd) (l : List UInt8) (f : Int) : Nat × Nat × Bool :=
  if (l.length : Int) < f then (0, 0, false)
  else if (searchF false its l (nextB l (l.length + 1 - f.toNat) f.toNat) l.length (run0 its.length)).fo then
    ((searchF false its l (nextB l (l.length + 1 - f.toNat) f.toNat) l.length (run0 its.length)).bf, (searchF false its l (nextB l (l.length + 1 - f.toNat) f.toNat) l.length (run0 its.length)).bt, true) else (0, 0, false)
theorem begins_fin (l : List UInt8) : beginsV l (l.length : Int) = true := by
  unfold beginsV
  simp
end Go.Proofs.Ytedfnppekikcpaa
