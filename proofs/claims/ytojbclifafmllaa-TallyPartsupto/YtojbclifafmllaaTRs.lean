/- What the document's Seam answers, of every two tallies. -/
import Derived.Test.YtojbclifafmllaaTRn
namespace Go.Proofs.Ytojbclifafmllaa
open Go.RowKit
set_option linter.unusedVariables false

theorem refSeam_no (ab ac al : Int) (ah at' : ByteArray) (bb bc bl' : Int) (bh bt : ByteArray) (w : World) (hab : ab ≤ 9223372036854775807) (hbb : bb ≤ 9223372036854775807) (hno : (mayT ab ac al ah at' && mayT bb bc bl' bh bt) = false) :
    Calls Try.prog 24 #[(.agg #[.int .i64 ab, .int .i64 ac, .int .i64 al, .string ah, .string at']), (.agg #[.int .i64 bb, .int .i64 bc, .int .i64 bl', .string bh, .string bt])] w fun e w' => e = .returned (.tuple #[.int .i64 0, .int .i64 0, .int .i64 30]) ∧ Below w.heap.size w w' := by
  have KA := hide (fun w => refMay_any ab ac al ah at' w hab)
  have KB := hide (fun w => refMay_any bb bc bl' bh bt w hbb)
  have K2 := hide (fun W hB => two_boxes w W ab ac al ah at' bb bc bl' bh bt hB)
  cases ha : mayT ab ac al ah at'
  · rw [ha] at KA
    clear ha hno KB
    go_enter Try.func24, Try.ntmps24
    go_wp2_with (go_at_call 38; refine (KA.out _).mono ?_; rintro e w1 ⟨rfl, hB⟩)
    go_ret3
    exact ⟨rfl, bseq (((Below.refl _ w).alloc (Nat.le_refl _) _).alloc (by simp) _) hB⟩
  · rw [ha, Bool.true_and] at hno
    rw [ha] at KA
    rw [hno] at KB
    clear ha hno
    have M1 := hide trivial
    go_enter Try.func24, Try.ntmps24
    go_wp2_with (first | (go_at_call 38; clear M1; refine (KA.out _).mono ?_; rintro e w1 ⟨rfl, hB⟩; obtain ⟨_, ⟨q0, q1, q2, q3, q4⟩, _⟩ := K2.out _ hB) | (go_at_call 38; refine (KB.out _).mono ?_; rintro e w2 ⟨rfl, hB2⟩))
    go_ret3
    exact ⟨rfl, bseq (bseq (((Below.refl _ w).alloc (Nat.le_refl _) _).alloc (by simp) _) hB) hB2⟩

/-- The walk of Seam, once what stands ahead of the seam is known. -/
def SeamX (n : Nat) (at' x : ByteArray) : Prop := (n = 0 ∧ 0 < at'.size ∧ lst (bl at') = 13 ∧ x = ⟨#[13]⟩) ∨ (¬ (n = 0 ∧ lst (bl at') = 13) ∧ x = at'.extract (at'.size - n) at'.size)

set_option maxHeartbeats 4000000 in
theorem refSeam_x (x : ByteArray) (ab ac al : Int) (ah at' : ByteArray) (bb bc bl' : Int) (bh bt : ByteArray) (w : World) (hab : ab ≤ 9223372036854775807) (hbb : bb ≤ 9223372036854775807) (ha : mayT ab ac al ah at' = true) (hb : mayT bb bc bl' bh bt = true)
    (n : Nat) (hn : pendingV (bl at') = n) (D M : Int) (hx3 : x.size ≤ 3)
    (hD : (chn (bl x ++ bl bh) : Int) - chn (bl x) - chn (bl bh) = D) (hM : (lin (bl x ++ bl bh) : Int) - lin (bl x) - lin (bl bh) = M) (hcase : SeamX n at' x) :
    Calls Try.prog 24 #[(.agg #[.int .i64 ab, .int .i64 ac, .int .i64 al, .string ah, .string at']), (.agg #[.int .i64 bb, .int .i64 bc, .int .i64 bl', .string bh, .string bt])] w fun e w' => e = .returned (.tuple #[.int .i64 D, .int .i64 M, .int .i64 0]) ∧ Below w.heap.size w w' := by
  have KA := hide (fun w => refMay_any ab ac al ah at' w hab)
  have KB := hide (fun w => refMay_any bb bc bl' bh bt w hbb)
  rw [ha] at KA
  rw [hb] at KB
  have hsa := may_sizes ha
  have hsb := may_sizes hb
  have K2 := hide (fun W hB => two_boxes w W ab ac al ah at' bb bc bl' bh bt hB)
  have kp := fun w => refPending_any at' w (by omega)
  rw [hn] at kp
  have hle := pend_le (bl at')
  rw [hn, bl_len] at hle
  have kxb := fun w => refCounts_any (x ++ bh) w (by rw [ByteArray.size_append]; omega)
  have kx := fun w => refCounts_any x w (by omega)
  have kbh := fun w => refCounts_any bh w (by omega)
  have ad := fun w => run_string_add_sum (P := Try.prog) w x bh (by omega)
  have l1 := (chn_le (bl x ++ bl bh)).1
  have l2 := (chn_le (bl x)).1
  have l3 := (chn_le (bl bh)).1
  have l4 := lin_le (bl x ++ bl bh)
  have l5 := lin_le (bl x)
  have l6 := lin_le (bl bh)
  rw [List.length_append, bl_len, bl_len] at l1
  rw [bl_len] at l2 l3
  rw [bl_append] at kxb
  generalize chn (bl x ++ bl bh) = c1 at *
  generalize chn (bl x) = c2 at *
  generalize chn (bl bh) = c3 at *
  generalize lin (bl x ++ bl bh) = m1 at *
  generalize lin (bl x) = m2 at *
  generalize lin (bl bh) = m3 at *
  have hw1 : IntKind.i64.wrap ((c1 : Int) - (c2 : Int)) = (c1 : Int) - (c2 : Int) := by rw [IntKind.wrap_i64]; omega
  have hw2 : IntKind.i64.wrap ((c1 : Int) - (c2 : Int) - (c3 : Int)) = D := by rw [IntKind.wrap_i64]; omega
  have hw3 : IntKind.i64.wrap ((m1 : Int) - (m2 : Int)) = (m1 : Int) - (m2 : Int) := by rw [IntKind.wrap_i64]; omega
  have hw4 : IntKind.i64.wrap ((m1 : Int) - (m2 : Int) - (m3 : Int)) = M := by rw [IntKind.wrap_i64]; omega
  have hw5 : IntKind.i64.wrap D = D := by rw [IntKind.wrap_i64]; omega
  have hw6 : IntKind.i64.wrap M = M := by rw [IntKind.wrap_i64]; omega
  have e1 : ((at'.size : Int) - (n : Int)).toNat = at'.size - n := by omega
  have i1 : (n : Int) ≤ (at'.size : Int) := by omega
  have i2 : (n : Int) ≤ 3 := by omega
  have i3 : (at'.size : Int) ≤ 3 := by omega
  have KP := hide kp
  have KXB := hide kxb
  have KX := hide kx
  have KBH := hide kbh
  have M1 := hide trivial
  have M2 := hide trivial
  have M3 := hide trivial
  clear kp kxb kx kbh ha hb hsa hsb l1 l2 l3 l4 l5 l6 hle hab hbb hn
  rcases hcase with ⟨hn0, hpos, h13, rfl⟩ | ⟨hno, rfl⟩
  · have n0 : ((n : Int) == 0) = true := by simp [hn0]
    have p0' : (0 : Int) < (at'.size : Int) := by omega
    have hlt : at'.size - 1 < at'.size := by omega
    have e2 : ((at'.size : Int) - 1).toNat = at'.size - 1 := by omega
    have g13 : (((at'[at'.size - 1]'hlt).toNat : Int) == 13) = true := by
      have : lst (bl at') = (at'[at'.size - 1]'hlt).toNat := by unfold lst; rw [bl_len]; exact by'_get at' _ hlt
      rw [this] at h13
      simp; omega
    clear hn0 hpos h13
    go_enter Try.func24, Try.ntmps24
    go_wp2_with (first | (go_at_call 38; clear M1; refine (KA.out _).mono ?_; rintro e w1 ⟨rfl, hB⟩; obtain ⟨_, ⟨q0, q1, q2, q3, q4⟩, _⟩ := K2.out _ hB) | (go_at_call 38; refine (KB.out _).mono ?_; rintro e w2 ⟨rfl, hB2⟩; obtain ⟨⟨p0, p1, p2, p3, p4⟩, ⟨u0, u1, u2, u3, u4⟩, _⟩ := K2.out _ (bseq hB hB2)) | (go_at_call 39; refine (KP.out _).mono ?_; rintro e w3 ⟨rfl, hB3⟩; obtain ⟨⟨v0, v1, v2, v3, v4⟩, ⟨x0, x1, x2, x3, x4⟩, _⟩ := K2.out _ (bseq (bseq hB hB2) hB3)) | (go_at_call 21; clear M2; refine (KXB.out _).mono ?_; rintro e w4 ⟨rfl, hB4⟩) | (go_at_call 21; clear M3; refine (KX.out _).mono ?_; rintro e w5 ⟨rfl, hB5⟩; obtain ⟨⟨y0, y1, y2, y3, y4⟩, ⟨z0, z1, z2, z3, z4⟩, _⟩ := K2.out _ (bseq (bseq (bseq (bseq hB hB2) hB3) hB4) hB5)) | (go_at_call 21; refine (KBH.out _).mono ?_; rintro e w6 ⟨rfl, hB6⟩))
    go_ret3
    exact ⟨rfl, bseq (bseq (bseq (bseq (bseq (bseq (((Below.refl _ w).alloc (Nat.le_refl _) _).alloc (by simp) _) hB) hB2) hB3) hB4) hB5) hB6⟩
  · by_cases hn0 : n = 0
    · have n0 : ((n : Int) == 0) = true := by simp [hn0]
      by_cases hpos : 0 < at'.size
      · have p0' : (0 : Int) < (at'.size : Int) := by omega
        have hlt : at'.size - 1 < at'.size := by omega
        have e2 : ((at'.size : Int) - 1).toNat = at'.size - 1 := by omega
        have g13 : (((at'[at'.size - 1]'hlt).toNat : Int) == 13) = false := by
          have : lst (bl at') = (at'[at'.size - 1]'hlt).toNat := by unfold lst; rw [bl_len]; exact by'_get at' _ hlt
          rw [this] at hno
          simp
          omega
        clear hn0 hpos hno
        go_enter Try.func24, Try.ntmps24
        go_wp2_with (first | (go_at_call 38; clear M1; refine (KA.out _).mono ?_; rintro e w1 ⟨rfl, hB⟩; obtain ⟨_, ⟨q0, q1, q2, q3, q4⟩, _⟩ := K2.out _ hB) | (go_at_call 38; refine (KB.out _).mono ?_; rintro e w2 ⟨rfl, hB2⟩; obtain ⟨⟨p0, p1, p2, p3, p4⟩, ⟨u0, u1, u2, u3, u4⟩, _⟩ := K2.out _ (bseq hB hB2)) | (go_at_call 39; refine (KP.out _).mono ?_; rintro e w3 ⟨rfl, hB3⟩; obtain ⟨⟨v0, v1, v2, v3, v4⟩, ⟨x0, x1, x2, x3, x4⟩, _⟩ := K2.out _ (bseq (bseq hB hB2) hB3)) | (go_at_call 21; clear M2; refine (KXB.out _).mono ?_; rintro e w4 ⟨rfl, hB4⟩) | (go_at_call 21; clear M3; refine (KX.out _).mono ?_; rintro e w5 ⟨rfl, hB5⟩; obtain ⟨⟨y0, y1, y2, y3, y4⟩, ⟨z0, z1, z2, z3, z4⟩, _⟩ := K2.out _ (bseq (bseq (bseq (bseq hB hB2) hB3) hB4) hB5)) | (go_at_call 21; refine (KBH.out _).mono ?_; rintro e w6 ⟨rfl, hB6⟩))
        go_ret3
        exact ⟨rfl, bseq (bseq (bseq (bseq (bseq (bseq (((Below.refl _ w).alloc (Nat.le_refl _) _).alloc (by simp) _) hB) hB2) hB3) hB4) hB5) hB6⟩
      · have p0' : decide ((0 : Int) < (at'.size : Int)) = false := decide_eq_false (by omega)
        have p1' : (at'.size : Int) ≤ 0 := by omega
        clear hn0 hpos hno
        go_enter Try.func24, Try.ntmps24
        go_wp2_with (first | (go_at_call 38; clear M1; refine (KA.out _).mono ?_; rintro e w1 ⟨rfl, hB⟩; obtain ⟨_, ⟨q0, q1, q2, q3, q4⟩, _⟩ := K2.out _ hB) | (go_at_call 38; refine (KB.out _).mono ?_; rintro e w2 ⟨rfl, hB2⟩; obtain ⟨⟨p0, p1, p2, p3, p4⟩, ⟨u0, u1, u2, u3, u4⟩, _⟩ := K2.out _ (bseq hB hB2)) | (go_at_call 39; refine (KP.out _).mono ?_; rintro e w3 ⟨rfl, hB3⟩; obtain ⟨⟨v0, v1, v2, v3, v4⟩, ⟨x0, x1, x2, x3, x4⟩, _⟩ := K2.out _ (bseq (bseq hB hB2) hB3)) | (go_at_call 21; clear M2; refine (KXB.out _).mono ?_; rintro e w4 ⟨rfl, hB4⟩) | (go_at_call 21; clear M3; refine (KX.out _).mono ?_; rintro e w5 ⟨rfl, hB5⟩; obtain ⟨⟨y0, y1, y2, y3, y4⟩, ⟨z0, z1, z2, z3, z4⟩, _⟩ := K2.out _ (bseq (bseq (bseq (bseq hB hB2) hB3) hB4) hB5)) | (go_at_call 21; refine (KBH.out _).mono ?_; rintro e w6 ⟨rfl, hB6⟩))
        go_ret3
        exact ⟨rfl, bseq (bseq (bseq (bseq (bseq (bseq (((Below.refl _ w).alloc (Nat.le_refl _) _).alloc (by simp) _) hB) hB2) hB3) hB4) hB5) hB6⟩
    · have n0 : ((n : Int) == 0) = false := by simp [hn0]
      clear hn0 hno
      go_enter Try.func24, Try.ntmps24
      go_wp2_with (first | (go_at_call 38; clear M1; refine (KA.out _).mono ?_; rintro e w1 ⟨rfl, hB⟩; obtain ⟨_, ⟨q0, q1, q2, q3, q4⟩, _⟩ := K2.out _ hB) | (go_at_call 38; refine (KB.out _).mono ?_; rintro e w2 ⟨rfl, hB2⟩; obtain ⟨⟨p0, p1, p2, p3, p4⟩, ⟨u0, u1, u2, u3, u4⟩, _⟩ := K2.out _ (bseq hB hB2)) | (go_at_call 39; refine (KP.out _).mono ?_; rintro e w3 ⟨rfl, hB3⟩; obtain ⟨⟨v0, v1, v2, v3, v4⟩, ⟨x0, x1, x2, x3, x4⟩, _⟩ := K2.out _ (bseq (bseq hB hB2) hB3)) | (go_at_call 21; clear M2; refine (KXB.out _).mono ?_; rintro e w4 ⟨rfl, hB4⟩) | (go_at_call 21; clear M3; refine (KX.out _).mono ?_; rintro e w5 ⟨rfl, hB5⟩; obtain ⟨⟨y0, y1, y2, y3, y4⟩, ⟨z0, z1, z2, z3, z4⟩, _⟩ := K2.out _ (bseq (bseq (bseq (bseq hB hB2) hB3) hB4) hB5)) | (go_at_call 21; refine (KBH.out _).mono ?_; rintro e w6 ⟨rfl, hB6⟩))
      go_ret3
      exact ⟨rfl, bseq (bseq (bseq (bseq (bseq (bseq (((Below.refl _ w).alloc (Nat.le_refl _) _).alloc (by simp) _) hB) hB2) hB3) hB4) hB5) hB6⟩

theorem refSeam_yes (ab ac al : Int) (ah at' : ByteArray) (bb bc bl' : Int) (bh bt : ByteArray) (w : World) (hab : ab ≤ 9223372036854775807) (hbb : bb ≤ 9223372036854775807) (ha : mayT ab ac al ah at' = true) (hb : mayT bb bc bl' bh bt = true) :
    Calls Try.prog 24 #[(.agg #[.int .i64 ab, .int .i64 ac, .int .i64 al, .string ah, .string at']), (.agg #[.int .i64 bb, .int .i64 bc, .int .i64 bl', .string bh, .string bt])] w fun e w' => e = .returned (.tuple #[.int .i64 (seamT at' bh).1, .int .i64 (seamT at' bh).2, .int .i64 0]) ∧ Below w.heap.size w w' := by
  have hr := ref_seam (bl at') (bl bh)
  have hsa := may_sizes ha
  have hle := pend_le (bl at')
  rw [bl_len] at hle
  unfold refX at hr
  by_cases hc : pendingV (bl at') = 0 ∧ lst (bl at') = 13
  · rw [if_pos hc] at hr
    have hpos : 0 < at'.size := by
      apply Nat.pos_of_ne_zero
      intro h
      have := hc.2
      rw [bl_nil h] at this
      exact absurd this (by decide)
    exact refSeam_x ⟨#[13]⟩ ab ac al ah at' bb bc bl' bh bt w hab hbb ha hb _ rfl _ _ (by decide) hr.1 hr.2 (.inl ⟨hc.1, hpos, hc.2, rfl⟩)
  · rw [if_neg hc] at hr
    have hp : bl (at'.extract (at'.size - pendingV (bl at')) at'.size) = pnd (bl at') := by rw [bl_from]; unfold pnd; rw [bl_len]
    rw [← hp] at hr
    exact refSeam_x (at'.extract (at'.size - pendingV (bl at')) at'.size) ab ac al ah at' bb bc bl' bh bt w hab hbb ha hb _ rfl _ _ (by rw [ByteArray.size_extract]; omega) hr.1 hr.2 (.inr ⟨hc, rfl⟩)
end Go.Proofs.Ytojbclifafmllaa
