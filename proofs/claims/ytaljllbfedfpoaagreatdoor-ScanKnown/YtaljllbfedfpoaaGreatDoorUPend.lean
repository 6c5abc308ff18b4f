/- What utf.Closes, proper and Pending answer, of every text. -/
import Derived.Test.YtaljllbfedfpoaaGreatDoorUPlaces
import Derived.WalkLawsBesides
namespace Go.Proofs.YtaljllbfedfpoaaGreatDoor
open Go.RowKit
set_option linter.unusedVariables false

def closesV (p q : List UInt8) : Nat := if p = [] ∨ 4 ≤ p.length then 0 else cw (p ++ q.take 3) - p.length
def properV (p : List UInt8) : Bool := decide (0 < closesV p [128, 128, 128]) || decide (0 < closesV p [191, 191, 191])
def pendF (l : List UInt8) : Nat → Nat → Nat
  | 0, _ => 0
  | f + 1, n => if n ≤ l.length then (if properV (l.drop (l.length - n)) = true then n else pendF l f (n + 1)) else 0
def pendingV (l : List UInt8) : Nat := pendF l 3 1

theorem bl_append (a b : ByteArray) : bl (a ++ b) = bl a ++ bl b := by
  unfold bl
  rw [ByteArray.data_append]; simp

end Go.Proofs.YtaljllbfedfpoaaGreatDoor
