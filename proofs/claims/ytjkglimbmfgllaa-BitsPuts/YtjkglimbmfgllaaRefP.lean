/- What the document's Put answers: the bytes, and behind them the number's. -/
import Derived.Test.YtjkglimbmfgllaaApart
namespace Go.Proofs.Ytjkglimbmfgllaa
open Go.RowKit
set_option linter.unusedVariables false

theorem pair_slr (W : World) (a0 a1 : Option Addr) (c0 c1 : Nat) (x0 x1 : List Nat) (h0 : Sl W a0 x0) (h1 : Sl W a1 x1) (l0 : x0.length ≤ maxLen) (l1 : x1.length ≤ maxLen) :
    SlR (W.alloc (.cells #[.slice a0 x0.length c0, .slice a1 x1.length c1] 22)) (some ⟨W.heap.size, 0, none⟩) [x0, x1] := by
  have hB : Below W.heap.size W (W.alloc (.cells #[.slice a0 x0.length c0, .slice a1 x1.length c1] 22)) := (Below.refl _ _).alloc (Nat.le_refl _) _
  refine .inr ⟨_, _, rfl, by simp, fun i r hx => ?_⟩
  match i, hx with
  | 0, hx => simp at hx; subst hx; exact ⟨a0, c0, by simp, h0.below hB, l0⟩
  | 1, hx => simp at hx; subst hx; exact ⟨a1, c1, by simp, h1.below hB, l1⟩
  | n + 2, hx => simp at hx

theorem two_any (a0 a1 : Option Addr) (c0 c1 : Nat) (x0 x1 : List Nat) (w : World) (h0 : Sl w a0 x0) (h1 : Sl w a1 x1) (hl : x0.length + x1.length ≤ 140737488355328) :
    Calls Try.prog 40 #[.slice a0 x0.length c0, .slice a1 x1.length c1] w fun e w' => ∃ u, e = .returned u ∧ w'.ownsRow w.heap.size 5 1 u (x0.length + x1.length) ((x0 ++ x1).map B8) ∧ Below w.heap.size w w' := by
  have hB : Below w.heap.size w (w.alloc (.cells #[.slice a0 x0.length c0, .slice a1 x1.length c1] 22)) := (Below.refl _ _).alloc (Nat.le_refl _) _
  have hj := join_any (some ⟨w.heap.size, 0, none⟩) 2 [x0, x1] _ (pair_slr w a0 a1 c0 c1 x0 x1 h0 h1 (by unfold maxLen; omega) (by unfold maxLen; omega)) (by simp) (by simpa using hl)
  rw [show [x0, x1].flatten = x0 ++ x1 by simp, show [x0, x1].length = 2 from rfl] at hj
  have HJ := hide hj
  have HB := hide hB
  clear hj hB h0 h1
  go_enter Try.func40, Try.ntmps40
  go_wp2_with (go_at_call 22; refine (unhide HJ).mono ?_; rintro e w' ⟨u, rfl, hO, hB2⟩)
  go_ret
  exact ⟨u, rfl, by simpa using ownsRow_base (base' := w.heap.size) hO (by simp), bseq HB.out hB2⟩

theorem refPut_any (a : Option Addr) (cap : Nat) (bs : List Nat) (v n : Nat) (w : World) (hg : Sl w a bs) (hl : bs.length + n ≤ 140737488355328) (hv : v < 18446744073709551616) (hn1 : 1 ≤ n) (hn : n ≤ 8) :
    Calls Try.prog 11 #[.slice a bs.length cap, .int .u64 v, .int .i64 n] w fun e w' => ∃ g c, e = .returned (.slice (some ⟨g, 0, none⟩) (bs.length + n) c) ∧ w'.ownsRow w.heap.size 5 1 (.slice (some ⟨g, 0, none⟩) (bs.length + n) c) (bs.length + n) ((bs ++ leB n v).map B8) ∧ Below w.heap.size w w' := by
  have HG := hide hg
  clear hg
  go_enter Try.func11, Try.ntmps11
  go_wp2_with (go_at_call 41; refine (little_any v n w hv hn).mono ?_; rintro e w1 ⟨u1, rfl, hO1, hB1⟩)
  have h1 : ∃ a1 c1, u1 = .slice a1 (leB n v).length c1 ∧ Sl w1 a1 (leB n v) := sl_of_owns (by rw [leB_length]; exact hO1) (leB_lt n v)
  rw [leB_length] at h1
  obtain ⟨a1, c1, rfl, hs1⟩ := h1
  have ht := two_any a a1 cap c1 bs (leB n v) w1 (HG.out.below hB1) hs1 (by rw [leB_length]; exact hl)
  rw [leB_length] at ht
  have HT := hide ht
  have HB := hide hB1
  clear ht hs1 hO1 hB1
  go_wp2_with (go_at_call 40; refine (unhide HT).mono ?_; rintro e w2 ⟨u2, rfl, hO2, hB2⟩)
  obtain ⟨g, c, rfl⟩ := owns_cut hO2 (by omega)
  go_ret
  exact ⟨g, c, rfl, ownsRow_base hO2 HB.out.size, bseq HB.out hB2⟩

end Go.Proofs.Ytjkglimbmfgllaa
