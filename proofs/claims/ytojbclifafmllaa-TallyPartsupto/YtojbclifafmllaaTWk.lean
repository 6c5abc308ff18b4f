/- What tally.Join answers, of every two tallies; what works answers. -/
import Derived.Test.YtojbclifafmllaaTJy
namespace Go.Proofs.Ytojbclifafmllaa
open Go.RowKit
set_option linter.unusedVariables false

/-- The value that Join answers. -/
def jV (ab ac al : Int) (ah at' : ByteArray) (bb bc bl' : Int) (bh bt : ByteArray) : Value :=
  if jE ab ac al ah at' bb bc bl' bh bt = 0 then .agg #[.int .i64 (ab + bb), .int .i64 (ac + bc + (seamT at' bh).1), .int .i64 (jL al bl' (seamT at' bh).2), .string (jH ah bh), .string (jT at' bt)] else (.agg #[.int .i64 0, .int .i64 0, .int .i64 0, .string ⟨#[]⟩, .string ⟨#[]⟩])

theorem join_ok (ab ac al : Int) (ah at' : ByteArray) (bb bc bl' : Int) (bh bt : ByteArray) (w : World) (hab : ab ≤ 9223372036854775807) (hbb : bb ≤ 9223372036854775807) :
    Calls Try.prog 5 #[(.agg #[.int .i64 ab, .int .i64 ac, .int .i64 al, .string ah, .string at']), (.agg #[.int .i64 bb, .int .i64 bc, .int .i64 bl', .string bh, .string bt])] w fun e w' => e = .returned (.tuple #[jV ab ac al ah at' bb bc bl' bh bt, .int .i64 (jE ab ac al ah at' bb bc bl' bh bt)]) ∧ Below w.heap.size w w' := by
  cases hno : (mayT ab ac al ah at' && mayT bb bc bl' bh bt)
  · have e1 : jE ab ac al ah at' bb bc bl' bh bt = 30 := by unfold jE; rw [if_pos hno]
    unfold jV
    rw [e1, if_neg (by decide)]
    exact join_no ab ac al ah at' bb bc bl' bh bt w hab hbb hno
  · have hm := hno
    rw [Bool.and_eq_true] at hm
    by_cases hbig : 9223372036854775807 - bb < ab
    · have e1 : jE ab ac al ah at' bb bc bl' bh bt = 2 := by unfold jE; rw [if_neg (by rw [hno]; decide), if_pos hbig]
      unfold jV
      rw [e1, if_neg (by decide)]
      exact join_big ab ac al ah at' bb bc bl' bh bt w hab hbb hm.1 hm.2 hbig
    · have e1 : jE ab ac al ah at' bb bc bl' bh bt = okE (mayT (ab + bb) (ac + bc + (seamT at' bh).1) (jL al bl' (seamT at' bh).2) (jH ah bh) (jT at' bt)) := by
        unfold jE okE; rw [if_neg (by rw [hno]; decide), if_neg hbig]
      have h := join_yes ab ac al ah at' bb bc bl' bh bt w hab hbb hm.1 hm.2 (by omega)
      unfold jV
      rw [e1]
      generalize mayT (ab + bb) (ac + bc + (seamT at' bh).1) (jL al bl' (seamT at' bh).2) (jH ah bh) (jT at' bt) = g at *
      cases g
      · rw [if_neg (by decide)]
        rw [if_neg (by decide)] at h
        exact h
      · rw [if_pos (show okE true = 0 from rfl)]
        rw [if_pos rfl] at h
        exact h

theorem wk1 (w : World) : Calls Try.prog 6 #[.string ⟨#[226]⟩] w fun e w' => e = .returned (.agg #[.int .i64 1, .int .i64 1, .int .i64 0, .string ⟨#[226]⟩, .string ⟨#[226]⟩]) ∧ Below w.heap.size w w' := by
  have h := tof_any ⟨#[226]⟩ w (by decide)
  rw [show tyC (ByteArray.size ⟨#[226]⟩ : Nat) (chn (bl ⟨#[226]⟩) : Nat) (lin (bl ⟨#[226]⟩) : Nat) (hd ⟨#[226]⟩) (tl ⟨#[226]⟩) = #[.int .i64 1, .int .i64 1, .int .i64 0, .string ⟨#[226]⟩, .string ⟨#[226]⟩] from by kernel_rfl] at h
  exact h
theorem wk2 (w : World) : Calls Try.prog 6 #[.string ⟨#[128, 168]⟩] w fun e w' => e = .returned (.agg #[.int .i64 2, .int .i64 2, .int .i64 0, .string ⟨#[128, 168]⟩, .string ⟨#[128, 168]⟩]) ∧ Below w.heap.size w w' := by
  have h := tof_any ⟨#[128, 168]⟩ w (by decide)
  rw [show tyC (ByteArray.size ⟨#[128, 168]⟩ : Nat) (chn (bl ⟨#[128, 168]⟩) : Nat) (lin (bl ⟨#[128, 168]⟩) : Nat) (hd ⟨#[128, 168]⟩) (tl ⟨#[128, 168]⟩) = #[.int .i64 2, .int .i64 2, .int .i64 0, .string ⟨#[128, 168]⟩, .string ⟨#[128, 168]⟩] from by kernel_rfl] at h
  exact h
theorem wk3 (w : World) : Calls Try.prog 6 #[.string ⟨#[97, 13]⟩] w fun e w' => e = .returned (.agg #[.int .i64 2, .int .i64 2, .int .i64 1, .string ⟨#[97, 13]⟩, .string ⟨#[97, 13]⟩]) ∧ Below w.heap.size w w' := by
  have h := tof_any ⟨#[97, 13]⟩ w (by decide)
  rw [show tyC (ByteArray.size ⟨#[97, 13]⟩ : Nat) (chn (bl ⟨#[97, 13]⟩) : Nat) (lin (bl ⟨#[97, 13]⟩) : Nat) (hd ⟨#[97, 13]⟩) (tl ⟨#[97, 13]⟩) = #[.int .i64 2, .int .i64 2, .int .i64 1, .string ⟨#[97, 13]⟩, .string ⟨#[97, 13]⟩] from by kernel_rfl] at h
  exact h
theorem wk4 (w : World) : Calls Try.prog 6 #[.string ⟨#[10, 98]⟩] w fun e w' => e = .returned (.agg #[.int .i64 2, .int .i64 2, .int .i64 1, .string ⟨#[10, 98]⟩, .string ⟨#[10, 98]⟩]) ∧ Below w.heap.size w w' := by
  have h := tof_any ⟨#[10, 98]⟩ w (by decide)
  rw [show tyC (ByteArray.size ⟨#[10, 98]⟩ : Nat) (chn (bl ⟨#[10, 98]⟩) : Nat) (lin (bl ⟨#[10, 98]⟩) : Nat) (hd ⟨#[10, 98]⟩) (tl ⟨#[10, 98]⟩) = #[.int .i64 2, .int .i64 2, .int .i64 1, .string ⟨#[10, 98]⟩, .string ⟨#[10, 98]⟩] from by kernel_rfl] at h
  exact h
theorem wk5 (w : World) : Calls Try.prog 5 #[.agg #[.int .i64 1, .int .i64 1, .int .i64 0, .string ⟨#[226]⟩, .string ⟨#[226]⟩], .agg #[.int .i64 2, .int .i64 2, .int .i64 0, .string ⟨#[128, 168]⟩, .string ⟨#[128, 168]⟩]] w fun e w' => e = .returned (.tuple #[.agg #[.int .i64 3, .int .i64 1, .int .i64 1, .string ⟨#[226, 128, 168]⟩, .string ⟨#[226, 128, 168]⟩], .int .i64 0]) ∧ Below w.heap.size w w' := by
  have h := join_ok 1 1 0 ⟨#[226]⟩ ⟨#[226]⟩ 2 2 0 ⟨#[128, 168]⟩ ⟨#[128, 168]⟩ w (by decide) (by decide)
  rw [show jV 1 1 0 ⟨#[226]⟩ ⟨#[226]⟩ 2 2 0 ⟨#[128, 168]⟩ ⟨#[128, 168]⟩ = .agg #[.int .i64 3, .int .i64 1, .int .i64 1, .string ⟨#[226, 128, 168]⟩, .string ⟨#[226, 128, 168]⟩] from by kernel_rfl, show jE 1 1 0 ⟨#[226]⟩ ⟨#[226]⟩ 2 2 0 ⟨#[128, 168]⟩ ⟨#[128, 168]⟩ = 0 from by kernel_rfl] at h
  exact h
theorem wk6 (w : World) : Calls Try.prog 17 #[.agg #[.int .i64 2, .int .i64 2, .int .i64 1, .string ⟨#[97, 13]⟩, .string ⟨#[97, 13]⟩], .agg #[.int .i64 2, .int .i64 2, .int .i64 1, .string ⟨#[10, 98]⟩, .string ⟨#[10, 98]⟩]] w fun e w' => e = .returned (.tuple #[.int .i64 0, .int .i64 (-1), .int .i64 0]) ∧ Below w.heap.size w w' := by
  have h := seam_yes 2 2 1 ⟨#[97, 13]⟩ ⟨#[97, 13]⟩ 2 2 1 ⟨#[10, 98]⟩ ⟨#[10, 98]⟩ w (by decide) (by decide) (by kernel_rfl) (by kernel_rfl)
  rw [show seamT ⟨#[97, 13]⟩ ⟨#[10, 98]⟩ = (0, -1) from by kernel_rfl] at h
  exact h

set_option maxHeartbeats 1000000 in
theorem works_any (w : World) : Calls Try.prog 11 #[] w fun e w' => e = .returned (.bool true) ∧ Below w.heap.size w w' := by
  have hg := Try.noGuard24
  have heq := fun w => eql_ty 3 1 1 ⟨#[226, 128, 168]⟩ ⟨#[226, 128, 168]⟩ 3 1 1 ⟨#[226, 128, 168]⟩ ⟨#[226, 128, 168]⟩ w
  rw [show sameT 3 1 1 ⟨#[226, 128, 168]⟩ ⟨#[226, 128, 168]⟩ 3 1 1 ⟨#[226, 128, 168]⟩ ⟨#[226, 128, 168]⟩ = true from decide_eq_true ⟨rfl, rfl, rfl, rfl, rfl⟩] at heq
  have M1 := hide trivial
  have M2 := hide trivial
  have M3 := hide trivial
  go_enter Try.func11, Try.ntmps11
  go_wp2_with (first | (go_at_call 6; clear M1; refine (wk1 _).mono ?_; rintro e w1 ⟨rfl, hB1⟩) | (go_at_call 6; clear M2; refine (wk2 _).mono ?_; rintro e w2 ⟨rfl, hB2⟩) | (go_at_call 6; clear M3; refine (wk3 _).mono ?_; rintro e w3 ⟨rfl, hB3⟩) | (go_at_call 6; refine (wk4 _).mono ?_; rintro e w4 ⟨rfl, hB4⟩) | (go_at_call 5; refine (wk5 _).mono ?_; rintro e w5 ⟨rfl, hB5⟩) | (go_at_call 17; refine (wk6 _).mono ?_; rintro e w6 ⟨rfl, hB6⟩; obtain ⟨q0, q1, q2, q3, q4⟩ := box_at (row_keep (row_after hB3) (bseq hB4 hB6))))
  go_ret
  exact ⟨rfl, bseq (bseq (bseq (bseq (bseq (bseq hB1 hB2) hB5) ((Below.refl _ w5).alloc (Nat.le_refl _) _)) hB3) hB4) hB6⟩
end Go.Proofs.Ytojbclifafmllaa
