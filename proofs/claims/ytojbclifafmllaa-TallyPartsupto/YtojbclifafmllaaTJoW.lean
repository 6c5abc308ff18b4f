/- The road of TallyJoins: for every two tallies it returns true, and writes nothing that was there. -/
import Derived.Test.YtojbclifafmllaaTWk
import Derived.Test.YtojbclifafmllaaTRy
namespace Go.Proofs.Ytojbclifafmllaa
open Go.RowKit
set_option linter.unusedVariables false

theorem refJoin_ok (ab ac al : Int) (ah at' : ByteArray) (bb bc bl' : Int) (bh bt : ByteArray) (w : World) (hab : ab ≤ 9223372036854775807) (hbb : bb ≤ 9223372036854775807) :
    Calls Try.prog 25 #[(.agg #[.int .i64 ab, .int .i64 ac, .int .i64 al, .string ah, .string at']), (.agg #[.int .i64 bb, .int .i64 bc, .int .i64 bl', .string bh, .string bt])] w fun e w' => e = .returned (.tuple #[jV ab ac al ah at' bb bc bl' bh bt, .int .i64 (jE ab ac al ah at' bb bc bl' bh bt)]) ∧ Below w.heap.size w w' := by
  cases hno : (mayT ab ac al ah at' && mayT bb bc bl' bh bt)
  · have e1 : jE ab ac al ah at' bb bc bl' bh bt = 30 := by unfold jE; rw [if_pos hno]
    unfold jV
    rw [e1, if_neg (by decide)]
    exact refJoin_no ab ac al ah at' bb bc bl' bh bt w hab hbb hno
  · have hm := hno
    rw [Bool.and_eq_true] at hm
    by_cases hbig : 9223372036854775807 - bb < ab
    · have e1 : jE ab ac al ah at' bb bc bl' bh bt = 2 := by unfold jE; rw [if_neg (by rw [hno]; decide), if_pos hbig]
      unfold jV
      rw [e1, if_neg (by decide)]
      exact refJoin_big ab ac al ah at' bb bc bl' bh bt w hab hbb hm.1 hm.2 hbig
    · have e1 : jE ab ac al ah at' bb bc bl' bh bt = okE (mayT (ab + bb) (ac + bc + (seamT at' bh).1) (jL al bl' (seamT at' bh).2) (jH ah bh) (jT at' bt)) := by
        unfold jE okE; rw [if_neg (by rw [hno]; decide), if_neg hbig]
      have h := refJoin_yes ab ac al ah at' bb bc bl' bh bt w hab hbb hm.1 hm.2 (by omega)
      unfold jV
      rw [e1]
      generalize mayT (ab + bb) (ac + bc + (seamT at' bh).1) (jL al bl' (seamT at' bh).2) (jH ah bh) (jT at' bt) = g at *
      cases g
      · rw [if_neg (by decide)]
        rw [if_neg (by decide)] at h
        exact h
      · rw [if_pos (show okE true = 0 from rfl)]
        rw [if_pos rfl] at h
        exact h

/-- What Seam answers, of two tallies, the program's and the document's. -/
theorem seam_both (ab ac al : Int) (ah at' : ByteArray) (bb bc bl' : Int) (bh bt : ByteArray) (hab : ab ≤ 9223372036854775807) (hbb : bb ≤ 9223372036854775807) :
    ∃ D M E : Int, (∀ w, Calls Try.prog 17 #[(.agg #[.int .i64 ab, .int .i64 ac, .int .i64 al, .string ah, .string at']), (.agg #[.int .i64 bb, .int .i64 bc, .int .i64 bl', .string bh, .string bt])] w fun e w' => e = .returned (.tuple #[.int .i64 D, .int .i64 M, .int .i64 E]) ∧ Below w.heap.size w w') ∧
      (∀ w, Calls Try.prog 24 #[(.agg #[.int .i64 ab, .int .i64 ac, .int .i64 al, .string ah, .string at']), (.agg #[.int .i64 bb, .int .i64 bc, .int .i64 bl', .string bh, .string bt])] w fun e w' => e = .returned (.tuple #[.int .i64 D, .int .i64 M, .int .i64 E]) ∧ Below w.heap.size w w') := by
  cases hno : (mayT ab ac al ah at' && mayT bb bc bl' bh bt)
  · exact ⟨0, 0, 30, fun w => seam_no ab ac al ah at' bb bc bl' bh bt w hab hbb hno, fun w => refSeam_no ab ac al ah at' bb bc bl' bh bt w hab hbb hno⟩
  · rw [Bool.and_eq_true] at hno
    exact ⟨_, _, _, fun w => seam_yes ab ac al ah at' bb bc bl' bh bt w hab hbb hno.1 hno.2, fun w => refSeam_yes ab ac al ah at' bb bc bl' bh bt w hab hbb hno.1 hno.2⟩

theorem jV_agg (ab ac al : Int) (ah at' : ByteArray) (bb bc bl' : Int) (bh bt : ByteArray) : ∃ (b c l : Int) (h t : ByteArray), jV ab ac al ah at' bb bc bl' bh bt = (.agg #[.int .i64 b, .int .i64 c, .int .i64 l, .string h, .string t]) := by
  unfold jV
  split
  · exact ⟨_, _, _, _, _, rfl⟩
  · exact ⟨_, _, _, _, _, rfl⟩

theorem joins_any (ab ac al : Int) (ah at' : ByteArray) (bb bc bl' : Int) (bh bt : ByteArray) (w : World) (hab : ab ≤ 9223372036854775807) (hbb : bb ≤ 9223372036854775807) :
    Calls Try.prog 8 #[(.agg #[.int .i64 ab, .int .i64 ac, .int .i64 al, .string ah, .string at']), (.agg #[.int .i64 bb, .int .i64 bc, .int .i64 bl', .string bh, .string bt])] w fun e w' => e = .returned (.bool true) ∧ Below w.heap.size w w' := by
  obtain ⟨D, M, E, ks, kr⟩ := seam_both ab ac al ah at' bb bc bl' bh bt hab hbb
  have kj := fun w => join_ok ab ac al ah at' bb bc bl' bh bt w hab hbb
  have kq := fun w => refJoin_ok ab ac al ah at' bb bc bl' bh bt w hab hbb
  obtain ⟨b, c, l, h, t, hv⟩ := jV_agg ab ac al ah at' bb bc bl' bh bt
  rw [hv] at kj kq
  generalize jE ab ac al ah at' bb bc bl' bh bt = F at *
  have heq := fun w => eql_ty b c l h t b c l h t w
  rw [show sameT b c l h t b c l h t = true from decide_eq_true ⟨rfl, rfl, rfl, rfl, rfl⟩] at heq
  have K2 := hide (fun W hB => two_boxes w W ab ac al ah at' bb bc bl' bh bt hB)
  have KS := hide ks
  have KR := hide kr
  have KJ := hide kj
  have KQ := hide kq
  have hg := Try.noGuard24
  have e1 : (D == D) = true := by simp
  have e2 : (M == M) = true := by simp
  have e3 : (E == E) = true := by simp
  have e4 : (F == F) = true := by simp
  clear ks kr kj kq hv
  go_enter Try.func8, Try.ntmps8
  go_wp2_with (first | (go_at_call 17; refine (KS.out _).mono ?_; rintro e w1 ⟨rfl, hB1⟩; have hW1 := hB1; obtain ⟨⟨p0, p1, p2, p3, p4⟩, ⟨u0, u1, u2, u3, u4⟩, _⟩ := K2.out _ hB1) | (go_at_call 24; refine (KR.out _).mono ?_; rintro e w2 ⟨rfl, hB2⟩; obtain ⟨⟨v0, v1, v2, v3, v4⟩, ⟨x0, x1, x2, x3, x4⟩, _⟩ := K2.out _ (bseq hB1 hB2)) | (go_at_call 5; refine (KJ.out _).mono ?_; rintro e w3 ⟨rfl, hB3⟩; obtain ⟨⟨y0, y1, y2, y3, y4⟩, ⟨z0, z1, z2, z3, z4⟩, _⟩ := K2.out _ ((bseq (bseq hB1 hB2) hB3).alloc (bseq (bseq hB1 hB2) hB3).size (.cells #[.int .i64 b, .int .i64 c, .int .i64 l, .string h, .string t] 24))) | (go_at_call 25; refine (KQ.out _).mono ?_; rintro e w4 ⟨rfl, hB4⟩; obtain ⟨r0, r1, r2, r3, r4⟩ := box_at (row_after hB4); have hlt4 : w3.heap.size < w4.heap.size := (by have := hB4.size; simp at this; omega)) | (go_at_call 11; refine (works_any _).mono ?_; rintro e w5 ⟨rfl, hB5⟩))
  go_ret
  exact ⟨rfl, bseq (bseq (bseq (bseq (bseq (bseq (bseq (((Below.refl _ w).alloc (Nat.le_refl _) _).alloc (by simp) _) hB1) hB2) hB3) ((Below.refl _ w3).alloc (Nat.le_refl _) _)) hB4) ((Below.refl _ w4).alloc (Nat.le_refl _) _)) hB5⟩
end Go.Proofs.Ytojbclifafmllaa
