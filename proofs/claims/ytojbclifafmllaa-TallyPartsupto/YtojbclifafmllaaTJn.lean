/- What tally.Join answers, of every two tallies. -/
import Derived.Test.YtojbclifafmllaaTCh
namespace Go.Proofs.Ytojbclifafmllaa
open Go.RowKit
set_option linter.unusedVariables false

/-- The tally of two, if nothing bars it: its numbers, its ends. -/
def jL (al bl' d : Int) : Int := IntKind.i64.wrap (al + bl' + d)
def jH (ah bh : ByteArray) : ByteArray := hd (ah ++ bh)
def jT (at' bt : ByteArray) : ByteArray := tl (at' ++ bt)
/-- The error that Join answers. -/
def jE (ab ac al : Int) (ah at' : ByteArray) (bb bc bl' : Int) (bh bt : ByteArray) : Int :=
  if (mayT ab ac al ah at' && mayT bb bc bl' bh bt) = false then 30 else if 9223372036854775807 - bb < ab then 2
  else if mayT (ab + bb) (ac + bc + (seamT at' bh).1) (jL al bl' (seamT at' bh).2) (jH ah bh) (jT at' bt) = true then 0 else 30

/-- Three variables, one after the other: the third one's row. -/
theorem third_row (w W : World) (o1 o2 o3 : Obj) (hB : Below (((w.alloc o1).alloc o2).alloc o3).heap.size (((w.alloc o1).alloc o2).alloc o3) W) : W.heap[w.heap.size + 2]? = some o3 := by
  rw [hB.block _ (by simp)]
  have := heap_alloc_new ((w.alloc o1).alloc o2) o3
  simp only [World.size_alloc] at this
  exact this

theorem row_after {W W' : World} {o : Obj} (hB : Below (W.alloc o).heap.size (W.alloc o) W') : W'.heap[W.heap.size]? = some o := by
  rw [hB.block _ (by simp)]
  exact heap_alloc_new W o
theorem row_after_drew {W W' : World} {o : Obj} (hB : Below (W.alloc o).drew.heap.size (W.alloc o).drew W') : W'.heap[W.heap.size]? = some o := by
  rw [hB.block _ (by simp)]
  exact heap_alloc_new W o
theorem row_keep {W W' : World} {B : Nat} {o : Obj} (h : W.heap[B]? = some o) (hB : Below W.heap.size W W') : W'.heap[B]? = some o := by
  rw [hB.block _ (Array.getElem?_eq_some_iff.1 h).1]
  exact h

set_option maxHeartbeats 1000000 in
theorem join_no (ab ac al : Int) (ah at' : ByteArray) (bb bc bl' : Int) (bh bt : ByteArray) (w : World) (hab : ab ≤ 9223372036854775807) (hbb : bb ≤ 9223372036854775807) (hno : (mayT ab ac al ah at' && mayT bb bc bl' bh bt) = false) :
    Calls Try.prog 5 #[(.agg #[.int .i64 ab, .int .i64 ac, .int .i64 al, .string ah, .string at']), (.agg #[.int .i64 bb, .int .i64 bc, .int .i64 bl', .string bh, .string bt])] w fun e w' => e = .returned (.tuple #[(.agg #[.int .i64 0, .int .i64 0, .int .i64 0, .string ⟨#[]⟩, .string ⟨#[]⟩]), .int .i64 30]) ∧ Below w.heap.size w w' := by
  have KS := hide (fun w => seam_no ab ac al ah at' bb bc bl' bh bt w hab hbb hno)
  clear hno hab hbb
  go_enter Try.func5, Try.ntmps5
  go_wp2_with (go_at_call 17; refine (KS.out _).mono ?_; rintro e w1 ⟨rfl, hB⟩; obtain ⟨⟨d0, d1, d2, d3, d4⟩, ⟨f0, f1, f2, f3, f4⟩, R, _, BB⟩ := chain5 (third_row w w1 _ _ _ hB) (.int .i64 0) (.int .i64 0) (.int .i64 0) (.string ⟨#[]⟩) (.string ⟨#[]⟩); replace R := hide R; replace BB := hide BB)
  (try simp only [Exit.inBlock, Exit.then])
  refine bodyPost_ret (results_row_tmp rfl _ _ (w.heap.size + 2) _ _ _ _ rfl R.out Try.underlying24 rfl (by kernel_rfl)) rfl ?_
  exact ⟨rfl, BB.out _ _ (by omega) (bseq ((((Below.refl _ w).alloc (Nat.le_refl _) _).alloc (by simp) _).alloc (by simp; omega) _) hB)⟩

set_option maxHeartbeats 1000000 in
theorem join_big (ab ac al : Int) (ah at' : ByteArray) (bb bc bl' : Int) (bh bt : ByteArray) (w : World) (hab : ab ≤ 9223372036854775807) (hbb : bb ≤ 9223372036854775807) (ha : mayT ab ac al ah at' = true) (hb : mayT bb bc bl' bh bt = true) (hbig : 9223372036854775807 - bb < ab) :
    Calls Try.prog 5 #[(.agg #[.int .i64 ab, .int .i64 ac, .int .i64 al, .string ah, .string at']), (.agg #[.int .i64 bb, .int .i64 bc, .int .i64 bl', .string bh, .string bt])] w fun e w' => e = .returned (.tuple #[(.agg #[.int .i64 0, .int .i64 0, .int .i64 0, .string ⟨#[]⟩, .string ⟨#[]⟩]), .int .i64 2]) ∧ Below w.heap.size w w' := by
  have KS := hide (fun w => seam_yes ab ac al ah at' bb bc bl' bh bt w hab hbb ha hb)
  have K2 := hide (fun W hB => two_boxes w W ab ac al ah at' bb bc bl' bh bt hB)
  have h0 := may_sizes hb
  have hw1 : IntKind.i64.wrap (9223372036854775807 - bb) = 9223372036854775807 - bb := by rw [IntKind.wrap_i64]; omega
  have hlo : 0 ≤ bb := by omega
  generalize (seamT at' bh).1 = D at *
  generalize (seamT at' bh).2 = M at *
  clear ha hb h0
  go_enter Try.func5, Try.ntmps5
  go_wp2_with (go_at_call 17; refine (KS.out _).mono ?_; rintro e w1 ⟨rfl, hB⟩; obtain ⟨⟨d0, d1, d2, d3, d4⟩, ⟨f0, f1, f2, f3, f4⟩, R, _, BB⟩ := chain5 (third_row w w1 _ _ _ hB) (.int .i64 0) (.int .i64 0) (.int .i64 0) (.string ⟨#[]⟩) (.string ⟨#[]⟩); replace R := hide R; replace BB := hide BB; obtain ⟨⟨q0, _, _, _, _⟩, ⟨p0, _, _, _, _⟩, _⟩ := K2.out _ (bseq ((Below.refl _ _).alloc (Nat.le_refl _) _) hB))
  (try simp only [Exit.inBlock, Exit.then])
  refine bodyPost_ret (results_row_tmp rfl _ _ (w.heap.size + 2) _ _ _ _ rfl R.out Try.underlying24 rfl (by kernel_rfl)) rfl ?_
  exact ⟨rfl, BB.out _ _ (by omega) (bseq ((((Below.refl _ w).alloc (Nat.le_refl _) _).alloc (by simp) _).alloc (by simp; omega) _) hB)⟩

end Go.Proofs.Ytojbclifafmllaa
