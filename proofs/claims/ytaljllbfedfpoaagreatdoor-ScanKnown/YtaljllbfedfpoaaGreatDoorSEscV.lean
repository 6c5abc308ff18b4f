/- Package scan: what an escape stands for. -/
import Derived.Test.YtaljllbfedfpoaaGreatDoorSEsc
import Derived.Test.YtaljllbfedfpoaaGreatDoorSEscUno
import Derived.Test.YtaljllbfedfpoaaGreatDoorSEscUfew
import Derived.Test.YtaljllbfedfpoaaGreatDoorSEscUopen
import Derived.Test.YtaljllbfedfpoaaGreatDoorSEscUbad
import Derived.Test.YtaljllbfedfpoaaGreatDoorSEscW
namespace Go.Proofs.YtaljllbfedfpoaaGreatDoor
open Go.RowKit Go.Shelf
set_option linter.unusedVariables false
theorem escaped_any (t : ByteArray) (w : World) (ht : 1 ≤ t.size) (hs : t.size ≤ 140737488355328) :
    Calls Tryz.prog 58 #[.string t] w fun e w' => e = .returned (.tuple #[.string ⟨(escL (bl t)).1.toArray⟩, .int .i64 ((escL (bl t)).2 : Int)]) ∧ Below w.heap.size w w' := by
  by_cases c34 : 1 < t.size ∧ by' (bl t) 1 = 34
  · exact esc_34 t w ht hs c34
  by_cases c92 : 1 < t.size ∧ by' (bl t) 1 = 92
  · exact esc_92 t w ht hs c92
  by_cases c110 : 1 < t.size ∧ by' (bl t) 1 = 110
  · exact esc_110 t w ht hs c110
  by_cases c114 : 1 < t.size ∧ by' (bl t) 1 = 114
  · exact esc_114 t w ht hs c114
  by_cases c116 : 1 < t.size ∧ by' (bl t) 1 = 116
  · exact esc_116 t w ht hs c116
  by_cases c120 : 1 < t.size ∧ by' (bl t) 1 = 120
  · exact esc_120 t w ht hs c120
  by_cases c117 : 1 < t.size ∧ by' (bl t) 1 = 117
  · by_cases c123 : 2 < t.size ∧ by' (bl t) 2 = 123
    · by_cases hk : 1 ≤ (dgF 6 0 ((bl t).drop 3)).2
      · by_cases c125 : 3 + (dgF 6 0 ((bl t).drop 3)).2 < t.size ∧ by' (bl t) (3 + (dgF 6 0 ((bl t).drop 3)).2) = 125
        · cases hv : Lib.validRune ((dgF 6 0 ((bl t).drop 3)).1 : Int) with
          | true => exact esc_u_ok t w ht hs c117 c123 hk c125 hv
          | false => exact esc_u_bad t w ht hs c117 c123 hk c125 hv
        · exact esc_u_open t w ht hs c117 c123 hk c125
      · exact esc_u_few t w ht hs c117 c123 hk
    · exact esc_u_no t w ht hs c117 c123
  exact esc_none t w ht hs c34 c92 c110 c114 c116 c120 c117
end Go.Proofs.YtaljllbfedfpoaaGreatDoor
