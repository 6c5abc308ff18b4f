/- The road of SeekQuotes. -/
import Derived.Test.YtnghecdljjbcmaaXWorks
import Derived.Test.YtnghecdljjbcmaaXQuoW
import Derived.Test.YtnghecdljjbcmaaXRQuo
namespace Go.Proofs.Ytnghecdljjbcmaa
open Go.RowKit Go.Shelf
set_option linter.unusedVariables false
set_option linter.unusedSimpArgs false

set_option maxHeartbeats 4000000 in
theorem seekQuotes_walk (s : ByteArray) (w : World) : Calls Try.prog 3 #[.string s] w fun e w' => e = .returned (.bool true) ∧ Below w.heap.size w w' := by
  have kc := xcut_any s 4096 w (by decide)
  have hz : (s.extract 0 4096).size ≤ 4096 := by rw [ByteArray.size_extract]; omega
  generalize s.extract 0 4096 = t at *
  have k1 := fun W => xquote_any t W (by omega)
  have k2 := fun W => rxquote_any t W (by omega)
  generalize (⟨(xqo (bl t)).toArray⟩ : ByteArray) = q at *
  have KC := hide kc
  have K1 := hide k1
  have K2 := hide k2
  clear kc k1 k2 hz
  go_enter Try.func3, Try.ntmps3
  go_wp2_with (first
    | (go_at_call 4; refine (KC.out).mono ?_; rintro e x ⟨rfl, hx⟩; obtain rfl : w = x := hx.symm; clear hx)
    | (go_at_call 5; refine (K1.out _).mono ?_; rintro e x1 ⟨rfl, hb⟩; have HB := hide hb; clear hb)
    | (go_at_call 6; refine (K2.out _).mono ?_; rintro e x2 ⟨rfl, hb⟩; have HB2 := hide (bseq HB.out hb); clear hb)
    | (go_at_call 7; refine (xworks_any _).mono ?_; rintro e x3 ⟨rfl, hb⟩; have HB3 := hide (bseq HB2.out hb); clear hb))
  go_ret
  exact ⟨rfl, HB3.out⟩
end Go.Proofs.Ytnghecdljjbcmaa
