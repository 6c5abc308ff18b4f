/- What the document's Join answers, of every two tallies. -/
import Derived.Test.YtojbclifafmllaaTRs
import Derived.Test.YtojbclifafmllaaTJn
namespace Go.Proofs.Ytojbclifafmllaa
open Go.RowKit
set_option linter.unusedVariables false

theorem refHead_b (s : ByteArray) (w : World) : Calls Try.prog 22 #[.string s] w fun e w' => e = .returned (.string (hd s)) ∧ Below w.heap.size w w' :=
  (refHead_any s w).mono (by rintro e w' ⟨rfl, rfl⟩; exact ⟨rfl, Below.refl _ _⟩)
theorem refTail_b (s : ByteArray) (w : World) (hs : s.size ≤ 9223372036854775807) : Calls Try.prog 23 #[.string s] w fun e w' => e = .returned (.string (tl s)) ∧ Below w.heap.size w w' :=
  (refTail_any s w hs).mono (by rintro e w' ⟨rfl, rfl⟩; exact ⟨rfl, Below.refl _ _⟩)

set_option maxHeartbeats 1000000 in
theorem refJoin_no (ab ac al : Int) (ah at' : ByteArray) (bb bc bl' : Int) (bh bt : ByteArray) (w : World) (hab : ab ≤ 9223372036854775807) (hbb : bb ≤ 9223372036854775807) (hno : (mayT ab ac al ah at' && mayT bb bc bl' bh bt) = false) :
    Calls Try.prog 25 #[(.agg #[.int .i64 ab, .int .i64 ac, .int .i64 al, .string ah, .string at']), (.agg #[.int .i64 bb, .int .i64 bc, .int .i64 bl', .string bh, .string bt])] w fun e w' => e = .returned (.tuple #[(.agg #[.int .i64 0, .int .i64 0, .int .i64 0, .string ⟨#[]⟩, .string ⟨#[]⟩]), .int .i64 30]) ∧ Below w.heap.size w w' := by
  have KS := hide (fun w => refSeam_no ab ac al ah at' bb bc bl' bh bt w hab hbb hno)
  clear hno hab hbb
  go_enter Try.func25, Try.ntmps25
  go_wp2_with (go_at_call 24; refine (KS.out _).mono ?_; rintro e w1 ⟨rfl, hB⟩; obtain ⟨⟨d0, d1, d2, d3, d4⟩, ⟨f0, f1, f2, f3, f4⟩, R, _, BB⟩ := chain5 (third_row w w1 _ _ _ hB) (.int .i64 0) (.int .i64 0) (.int .i64 0) (.string ⟨#[]⟩) (.string ⟨#[]⟩); replace R := hide R; replace BB := hide BB)
  (try simp only [Exit.inBlock, Exit.then])
  refine bodyPost_ret (results_row_tmp rfl _ _ (w.heap.size + 2) _ _ _ _ rfl R.out Try.underlying24 rfl (by kernel_rfl)) rfl ?_
  exact ⟨rfl, BB.out _ _ (by omega) (bseq ((((Below.refl _ w).alloc (Nat.le_refl _) _).alloc (by simp) _).alloc (by simp; omega) _) hB)⟩

set_option maxHeartbeats 1000000 in
theorem refJoin_big (ab ac al : Int) (ah at' : ByteArray) (bb bc bl' : Int) (bh bt : ByteArray) (w : World) (hab : ab ≤ 9223372036854775807) (hbb : bb ≤ 9223372036854775807) (ha : mayT ab ac al ah at' = true) (hb : mayT bb bc bl' bh bt = true) (hbig : 9223372036854775807 - bb < ab) :
    Calls Try.prog 25 #[(.agg #[.int .i64 ab, .int .i64 ac, .int .i64 al, .string ah, .string at']), (.agg #[.int .i64 bb, .int .i64 bc, .int .i64 bl', .string bh, .string bt])] w fun e w' => e = .returned (.tuple #[(.agg #[.int .i64 0, .int .i64 0, .int .i64 0, .string ⟨#[]⟩, .string ⟨#[]⟩]), .int .i64 2]) ∧ Below w.heap.size w w' := by
  have KS := hide (fun w => refSeam_yes ab ac al ah at' bb bc bl' bh bt w hab hbb ha hb)
  have K2 := hide (fun W hB => two_boxes w W ab ac al ah at' bb bc bl' bh bt hB)
  have h0 := may_sizes hb
  have hw1 : IntKind.i64.wrap (9223372036854775807 - bb) = 9223372036854775807 - bb := by rw [IntKind.wrap_i64]; omega
  have hlo : 0 ≤ bb := by omega
  generalize (seamT at' bh).1 = D at *
  generalize (seamT at' bh).2 = M at *
  clear ha hb h0
  go_enter Try.func25, Try.ntmps25
  go_wp2_with (go_at_call 24; refine (KS.out _).mono ?_; rintro e w1 ⟨rfl, hB⟩; obtain ⟨⟨d0, d1, d2, d3, d4⟩, ⟨f0, f1, f2, f3, f4⟩, R, _, BB⟩ := chain5 (third_row w w1 _ _ _ hB) (.int .i64 0) (.int .i64 0) (.int .i64 0) (.string ⟨#[]⟩) (.string ⟨#[]⟩); replace R := hide R; replace BB := hide BB; obtain ⟨⟨q0, _, _, _, _⟩, ⟨p0, _, _, _, _⟩, _⟩ := K2.out _ (bseq ((Below.refl _ _).alloc (Nat.le_refl _) _) hB))
  (try simp only [Exit.inBlock, Exit.then])
  refine bodyPost_ret (results_row_tmp rfl _ _ (w.heap.size + 2) _ _ _ _ rfl R.out Try.underlying24 rfl (by kernel_rfl)) rfl ?_
  exact ⟨rfl, BB.out _ _ (by omega) (bseq ((((Below.refl _ w).alloc (Nat.le_refl _) _).alloc (by simp) _).alloc (by simp; omega) _) hB)⟩

end Go.Proofs.Ytojbclifafmllaa
