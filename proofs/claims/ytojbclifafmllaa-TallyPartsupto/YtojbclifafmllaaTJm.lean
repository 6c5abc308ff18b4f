/- The tally of two texts, one behind the other, is what Join makes of their tallies. -/
import Derived.Test.YtojbclifafmllaaTWk
namespace Go.Proofs.Ytojbclifafmllaa
open Go.RowKit
set_option linter.unusedVariables false

theorem txt_of' (s : ByteArray) (h6 : s.size ≤ 6) : hd s ++ (tl s).extract (2 * (hd s).size - s.size) (hd s).size = s := by
  apply bl_inj
  have h1 : (hd s).size = min 3 s.size := hd_size s
  have h2 : (tl s).size = (hd s).size := by rw [h1]; exact tl_size s
  rw [bl_append, ← h2, bl_from, h2, h1]
  unfold hd tl
  rw [bl_to, bl_from, List.drop_drop]
  by_cases h3 : s.size ≤ 3
  · rw [List.take_of_length_le (by rw [bl_len]; omega), List.drop_of_length_le (by rw [bl_len]; omega), List.append_nil]
  · rw [show s.size - 3 + (2 * min 3 s.size - s.size) = 3 by omega, List.take_append_drop]
theorem may_of' (s : ByteArray) : mayT s.size (chn (bl s)) (lin (bl s)) (hd s) (tl s) = true := by
  have h1 := chn_le (bl s)
  have h2 := lin_le (bl s)
  rw [bl_len] at h1
  unfold mayT cntB edgB isOf
  rw [Bool.and_eq_true, Bool.and_eq_true, Bool.or_eq_true]
  refine ⟨decide_eq_true ⟨by omega, by omega, by omega, by omega⟩, decide_eq_true ⟨by rw [hd_size]; omega, by rw [tl_size]; omega⟩, ?_⟩
  by_cases h6 : 6 < (s.size : Int)
  · exact .inl (decide_eq_true h6)
  · refine .inr (decide_eq_true ?_)
    have e := txt_of' s (by omega)
    rw [show ((s.size : Int)).toNat = s.size from rfl, e]
    exact ⟨rfl, rfl, rfl, rfl, rfl⟩

theorem bl_hd (s : ByteArray) : bl (hd s) = (bl s).take 3 := bl_to s 3
theorem bl_tl (s : ByteArray) : bl (tl s) = tl3 (bl s) := by unfold tl tl3; rw [bl_from, bl_len]
theorem hd_join (a b : ByteArray) : hd (hd a ++ hd b) = hd (a ++ b) := by
  apply bl_inj
  rw [bl_hd, bl_append, bl_hd, bl_hd, bl_hd, bl_append, List.take_append, List.take_append, List.take_take, List.take_take, List.length_take]
  congr 1
  congr 1
  omega
theorem tl_join (a b : ByteArray) : tl (tl a ++ tl b) = tl (a ++ b) := by
  apply bl_inj
  rw [bl_tl, bl_append, bl_tl, bl_tl, bl_tl, bl_append]
  unfold tl3
  generalize bl a = x
  generalize bl b = y
  rw [List.drop_append, List.drop_append, List.drop_drop, List.drop_drop]
  simp only [List.length_append, List.length_drop]
  congr 1
  · by_cases h : 3 ≤ y.length
    · rw [List.drop_of_length_le (by omega), List.drop_of_length_le (by omega)]
    · congr 1; omega
  · congr 1; omega
theorem seam_of (a b : ByteArray) : seamT (tl a) (hd b) = seamV (bl a) (bl b) := by
  unfold seamT
  rw [bl_tl, bl_hd, seamV_cut]
/-- What Seam says of the tallies of two texts adds up. -/
theorem seam_adds (a b : ByteArray) : ((chn (bl (a ++ b)) : Nat) : Int) = chn (bl a) + chn (bl b) + (seamT (tl a) (hd b)).1 ∧ ((lin (bl (a ++ b)) : Nat) : Int) = lin (bl a) + lin (bl b) + (seamT (tl a) (hd b)).2 ∧
    -3 ≤ (seamT (tl a) (hd b)).1 ∧ (seamT (tl a) (hd b)).1 ≤ 0 ∧ -1 ≤ (seamT (tl a) (hd b)).2 ∧ (seamT (tl a) (hd b)).2 ≤ 1 := by
  rw [seam_of, bl_append]
  exact seam_counts (bl a) (bl b)
/-- Join of the tallies of two texts. -/
theorem join_of (a b : ByteArray) (w : World) (hs : a.size + b.size ≤ 9223372036854775807) :
    Calls Try.prog 5 #[.agg #[.int .i64 a.size, .int .i64 (chn (bl a)), .int .i64 (lin (bl a)), .string (hd a), .string (tl a)], .agg #[.int .i64 b.size, .int .i64 (chn (bl b)), .int .i64 (lin (bl b)), .string (hd b), .string (tl b)]] w fun e w' =>
      e = .returned (.tuple #[.agg #[.int .i64 (a ++ b).size, .int .i64 (chn (bl (a ++ b))), .int .i64 (lin (bl (a ++ b))), .string (hd (a ++ b)), .string (tl (a ++ b))], .int .i64 0]) ∧ Below w.heap.size w w' := by
  have h := join_yes a.size (chn (bl a)) (lin (bl a)) (hd a) (tl a) b.size (chn (bl b)) (lin (bl b)) (hd b) (tl b) w (by omega) (by omega) (may_of' a) (may_of' b) (by omega)
  obtain ⟨h1, h2, h3, h4, h5, h6⟩ := seam_adds a b
  have hl := lin_le (bl (a ++ b))
  have hc := (chn_le (bl (a ++ b))).1
  rw [bl_len, ByteArray.size_append] at hc
  have eL : jL (lin (bl a)) (lin (bl b)) (seamT (tl a) (hd b)).2 = ((lin (bl (a ++ b)) : Nat) : Int) := by
    unfold jL
    rw [← h2, IntKind.wrap_i64]
    omega
  have eB : (a.size : Int) + (b.size : Int) = (((a ++ b).size : Nat) : Int) := by rw [ByteArray.size_append]; omega
  have eH : jH (hd a) (hd b) = hd (a ++ b) := hd_join a b
  have eT : jT (tl a) (tl b) = tl (a ++ b) := tl_join a b
  rw [eL, ← h1, eB, eH, eT, may_of', if_pos rfl] at h
  exact h
/-- The tally of the empty text. -/
theorem zero_ty : (.agg #[.int .i64 (ByteArray.size ⟨#[]⟩ : Nat), .int .i64 (chn (bl ⟨#[]⟩) : Nat), .int .i64 (lin (bl ⟨#[]⟩) : Nat), .string (hd ⟨#[]⟩), .string (tl ⟨#[]⟩)] : Value) = (.agg #[.int .i64 0, .int .i64 0, .int .i64 0, .string ⟨#[]⟩, .string ⟨#[]⟩]) := by kernel_rfl
end Go.Proofs.Ytojbclifafmllaa
