/- ScanQuotes, walked: the one form is the document's. -/
import Derived.Test.YtmhbhpjpnmggkaaDoorSWrk
import Derived.Test.YtmhbhpjpnmggkaaDoorSRQuo
namespace Go.Proofs.YtmhbhpjpnmggkaaDoor
open Go.RowKit Go.Shelf
set_option linter.unusedVariables false

set_option maxRecDepth 100000 in
set_option maxHeartbeats 8000000 in
theorem quotes_road (s : ByteArray) (w : World) (hs : s.size ≤ 1048576) (hL : LaidW w) (hZ : LaidZ w) :
    Calls Tryd.prog 3 #[.string s] w fun e w' => e = .returned (.bool true) ∧ Below w.heap.size w w' := by
  have kq := quote_any s w (by omega) hZ
  have kr := fun W h => rquote_any s W (by omega) h
  generalize (⟨(34 :: (qo (bl s) ++ [34])).toArray⟩ : ByteArray) = Q at *
  have KQ := hide kq
  have KR := hide kr
  have HL := hide hL
  have HZ := hide hZ
  clear kq kr hL hZ
  go_enter Tryd.func3, Tryd.ntmps3
  go_wp2_with (first | (go_at_call 7; refine (KQ.out).mono ?_; rintro e x ⟨rfl, hx⟩; have HX := hide hx; clear hx) | (go_at_call 8; refine (KR.out _ (HZ.out.below HX.out)).mono ?_; rintro e y ⟨rfl, hy⟩; have HY := hide (bseq HX.out hy); clear hy) | (go_at_call 9; refine (works_any _ (HL.out.below HY.out) (HZ.out.below HY.out)).mono ?_; rintro e u ⟨rfl, hu⟩))
  go_ret
  exact ⟨rfl, bseq HY.out hu⟩
end Go.Proofs.YtmhbhpjpnmggkaaDoor
