/- What tally.Check answers, of every tally; what tally.across and Seam answer. -/
import Derived.Test.YtojbclifafmllaaTCk
namespace Go.Proofs.Ytojbclifafmllaa
open Go.RowKit
set_option linter.unusedVariables false

/-- Do the ends of a tally fit? -/
def edgB (b c l : Int) (h t : ByteArray) : Bool := decide ((h.size : Int) = min 3 b ∧ (t.size : Int) = min 3 b) && (decide (6 < b) || isOf b c l h t (h ++ t.extract (2 * h.size - b.toNat) h.size))
/-- May a tally be? -/
def mayT (b c l : Int) (h t : ByteArray) : Bool := cntB b c l && edgB b c l h t

theorem edges_any (b c l : Int) (h t : ByteArray) (w : World) (h0 : 0 ≤ b) :
    Calls Try.prog 29 #[(.agg #[.int .i64 b, .int .i64 c, .int .i64 l, .string h, .string t])] w fun e w' => e = .returned (.bool (edgB b c l h t)) ∧ Below w.heap.size w w' := by
  by_cases hh : (h.size : Int) = min 3 b ∧ (t.size : Int) = min 3 b
  · by_cases h6 : 6 < b
    · have : edgB b c l h t = true := by unfold edgB; rw [decide_eq_true hh, decide_eq_true h6]; rfl
      rw [this]
      exact edges_many b c l h t w h6 (by omega) (by omega)
    · have : edgB b c l h t = isOf b c l h t (h ++ t.extract (2 * h.size - b.toNat) h.size) := by unfold edgB; rw [decide_eq_true hh, decide_eq_false h6]; simp
      rw [this]
      obtain ⟨n, rfl⟩ : ∃ n : Nat, b = (n : Int) := ⟨b.toNat, by omega⟩
      exact edges_of n h.size (2 * h.size - (n : Int).toNat) (2 * h.size) c l h t w (by omega) (by omega) (by omega) (by omega) rfl (by omega)
  · have : edgB b c l h t = false := by unfold edgB; rw [decide_eq_false hh]; rfl
    rw [this]
    exact edges_no b c l h t w _ rfl hh

def okE (g : Bool) : Int := if g = true then 0 else 30
theorem check_any (b c l : Int) (h t : ByteArray) (w : World) (hb : b ≤ 9223372036854775807) :
    Calls Try.prog 10 #[(.agg #[.int .i64 b, .int .i64 c, .int .i64 l, .string h, .string t])] w fun e w' => e = .returned (.int .i64 (okE (mayT b c l h t))) ∧ Below w.heap.size w w' := by
  have KC := hide (fun w => counts_any b c l h t w hb)
  cases hc : cntB b c l
  · have hm : okE (mayT b c l h t) = 30 := by unfold mayT; rw [hc]; rfl
    rw [hm]
    rw [hc] at KC
    clear hc hm
    go_enter Try.func10, Try.ntmps10
    go_wp2_with (go_at_call 28; refine (KC.out _).mono ?_; rintro e w1 ⟨rfl, hB⟩)
    go_ret
    exact ⟨rfl, bseq ((Below.refl _ w).alloc (Nat.le_refl _) _) hB⟩
  · have h0 : 0 ≤ b := by
      unfold cntB at hc
      have := of_decide_eq_true hc
      omega
    have KE := hide (fun w => edges_any b c l h t w h0)
    have hcel : ∀ W : World, Below (w.alloc (.cells #[.int .i64 b, .int .i64 c, .int .i64 l, .string h, .string t] 24)).heap.size (w.alloc (.cells #[.int .i64 b, .int .i64 c, .int .i64 l, .string h, .string t] 24)) W →
        (W.cell? ⟨w.heap.size, 0, none⟩ = some (.int .i64 b) ∧ W.cell? ⟨w.heap.size, 1, none⟩ = some (.int .i64 c) ∧ W.cell? ⟨w.heap.size, 2, none⟩ = some (.int .i64 l) ∧ W.cell? ⟨w.heap.size, 3, none⟩ = some (.string h) ∧ W.cell? ⟨w.heap.size, 4, none⟩ = some (.string t)) :=
      fun W hB => box_below (box_at (heap_alloc_new w _)) hB (by simp)
    have HCL := hide hcel
    have hm : mayT b c l h t = edgB b c l h t := by unfold mayT; rw [hc]; rfl
    rw [hm]
    rw [hc] at KC
    clear hc hm hcel
    cases he : edgB b c l h t
    all_goals
      rw [he] at KE
      clear he
      go_enter Try.func10, Try.ntmps10
      go_wp2_with (first | (go_at_call 28; refine (KC.out _).mono ?_; rintro e w1 ⟨rfl, hB⟩; obtain ⟨q0, q1, q2, q3, q4⟩ := HCL.out _ hB) | (go_at_call 29; refine (KE.out _).mono ?_; rintro e w2 ⟨rfl, hB2⟩))
      go_ret
      exact ⟨rfl, bseq (bseq ((Below.refl _ w).alloc (Nat.le_refl _) _) hB) hB2⟩

set_option maxHeartbeats 400000 in
theorem across_any (s q : ByteArray) (w : World) (hs : s.size ≤ 9223372036854775807) (hq : q.size ≤ 9223372036854775807) :
    Calls Try.prog 31 #[.string s, .string q] w fun e w' => e = .returned (.tuple #[.int .i32 ((acrossV (bl s) (bl q)).1 : Nat), .int .i64 ((acrossV (bl s) (bl q)).2 : Nat)]) ∧ Below w.heap.size w w' := by
  have hle := pend_le (bl s)
  rw [bl_len] at hle
  have kp := fun w => pending_any s w hs
  have hcl := closes_le (pnd (bl s)) (bl q)
  have kc := fun w => closes_any (s.extract (s.size - pendingV (bl s)) s.size) q w hq
  have hp : bl (s.extract (s.size - pendingV (bl s)) s.size) = pnd (bl s) := by rw [bl_from]; unfold pnd; rw [bl_len]
  have hclq : closesV (pnd (bl s)) (bl q) ≤ q.size := by
    obtain ⟨n, k, hn, hk, h3, hni, hkb, _⟩ := seam_two (bl s) (bl q)
    have : pnd (bl s) = (bl s).drop ((bl s).length - n) := by unfold pnd; rw [hn]
    rw [this, ← hk, ← bl_len]
    exact hkb
  rw [hp] at kc
  unfold acrossV
  generalize hk : closesV (pnd (bl s)) (bl q) = k at *
  have hfq : bl (q.extract 0 k) = (bl q).take k := bl_to q k
  have hsz : (s.extract (s.size - pendingV (bl s)) s.size ++ q.extract 0 k).size ≤ 9223372036854775807 := by rw [ByteArray.size_append, ByteArray.size_extract, ByteArray.size_extract]; omega
  have kf := fun w => first_any (s.extract (s.size - pendingV (bl s)) s.size ++ q.extract 0 k) w hsz
  rw [bl_append, hp, hfq] at kf
  have hadd3 : (s.extract (s.size - pendingV (bl s)) s.size).size + (q.extract 0 k).size ≤ 9223372036854775807 := by rw [ByteArray.size_extract, ByteArray.size_extract]; omega
  have hadd2 := fun w => run_string_add_sum (P := Try.prog) w _ _ hadd3
  generalize hn : pendingV (bl s) = n at *
  have e1 : ((s.size : Int) - (n : Int)).toNat = s.size - n := by omega
  have i1 : (n : Int) ≤ (s.size : Int) := by omega
  have i2 : (k : Int) ≤ (q.size : Int) := by omega
  have KP := hide kp
  have KC := hide kc
  by_cases h0 : k = 0
  · have h0' : ((k : Int) == 0) = true := by simp [h0]
    rw [if_pos h0]
    clear kp kc kf hp hfq hsz hadd2 hadd3 hk hn h0
    go_enter Try.func31, Try.ntmps31
    go_wp2_with (first | (go_at_call 41; refine (KP.out _).mono ?_; rintro e w1 ⟨rfl, hB⟩) | (go_at_call 42; refine (KC.out _).mono ?_; rintro e w2 ⟨rfl, hB2⟩))
    go_ret2
    exact ⟨rfl, bseq hB hB2⟩
  · have h0' : ((k : Int) == 0) = false := by simp; omega
    rw [if_neg h0]
    have hne : pnd (bl s) ++ (bl q).take k ≠ [] := by
      have := closes_pos (p := pnd (bl s)) (q := bl q) (by omega)
      intro e
      have h2 := congrArg List.length (List.append_eq_nil_iff.1 e).1
      rw [List.length_nil] at h2
      omega
    rw [firstV_ne hne] at kf
    have KF := hide kf
    clear kp kc kf hp hfq hsz hadd3 hk hn h0 hne
    go_enter Try.func31, Try.ntmps31
    go_wp2_with (first | (go_at_call 41; refine (KP.out _).mono ?_; rintro e w1 ⟨rfl, hB⟩) | (go_at_call 42; refine (KC.out _).mono ?_; rintro e w2 ⟨rfl, hB2⟩) | (go_at_call 43; refine (KF.out _).mono ?_; rintro e w3 ⟨rfl, hB3⟩))
    go_ret2
    exact ⟨rfl, bseq (bseq hB hB2) hB3⟩

/-- What Seam answers, of two tallies that may be. -/
def seamT (ta hb : ByteArray) : Int × Int := seamV (bl ta) (bl hb)
theorem hasSuffix_13 (s : ByteArray) : Lib.hasSuffix s.data.toList [13] = decide (lst (bl s) = 13) := by
  unfold Lib.hasSuffix lst by' bl
  rw [Bool.eq_iff_iff, List.isSuffixOf_iff_suffix, decide_eq_true_eq]
  generalize s.data.toList = l
  constructor
  · rintro ⟨q, rfl⟩
    rw [List.length_append, List.getElem?_append_right (by simp)]
    simp
  · intro h
    rcases List.eq_nil_or_concat l with rfl | ⟨q, x, rfl⟩
    · simp at h
    · refine ⟨q, ?_⟩
      have h1 : x = 13 := UInt8.toNat_inj.1 (by simpa using h)
      rw [h1, List.concat_eq_append]
theorem hasPrefix_10 (s : ByteArray) : Lib.hasPrefix s.data.toList [10] = decide (by' (bl s) 0 = 10) := by
  unfold Lib.hasPrefix by' bl
  generalize s.data.toList = l
  cases l with
  | nil => rfl
  | cons x xs =>
    rw [Bool.eq_iff_iff, decide_eq_true_eq]
    simp only [List.isPrefixOf, List.getElem?_cons_zero, Option.getD_some, Bool.and_true, beq_iff_eq]
    constructor
    · intro h; rw [← h]; rfl
    · intro h; exact (UInt8.toNat_inj.1 h).symm

theorem may_sizes {b c l : Int} {h t : ByteArray} (hm : mayT b c l h t = true) : h.size ≤ 3 ∧ t.size ≤ 3 ∧ 0 ≤ l ∧ l ≤ c ∧ c ≤ b ∧ b ≤ 4 * c := by
  unfold mayT at hm
  rw [Bool.and_eq_true] at hm
  obtain ⟨h1, h2⟩ := hm
  unfold cntB at h1
  have h1 := of_decide_eq_true h1
  unfold edgB at h2
  rw [Bool.and_eq_true] at h2
  have h3 := of_decide_eq_true h2.1
  omega

/-- Two variables that were laid one after the other hold their tallies behind what wrote only what is newer. -/
theorem two_boxes (w W : World) (b c l : Int) (h t : ByteArray) (b' c' l' : Int) (h' t' : ByteArray)
    (hB : Below ((w.alloc (.cells #[.int .i64 b, .int .i64 c, .int .i64 l, .string h, .string t] 24)).alloc (.cells #[.int .i64 b', .int .i64 c', .int .i64 l', .string h', .string t'] 24)).heap.size ((w.alloc (.cells #[.int .i64 b, .int .i64 c, .int .i64 l, .string h, .string t] 24)).alloc (.cells #[.int .i64 b', .int .i64 c', .int .i64 l', .string h', .string t'] 24)) W) :
    (W.cell? ⟨w.heap.size, 0, none⟩ = some (.int .i64 b) ∧ W.cell? ⟨w.heap.size, 1, none⟩ = some (.int .i64 c) ∧ W.cell? ⟨w.heap.size, 2, none⟩ = some (.int .i64 l) ∧ W.cell? ⟨w.heap.size, 3, none⟩ = some (.string h) ∧ W.cell? ⟨w.heap.size, 4, none⟩ = some (.string t)) ∧
    (W.cell? ⟨w.heap.size + 1, 0, none⟩ = some (.int .i64 b') ∧ W.cell? ⟨w.heap.size + 1, 1, none⟩ = some (.int .i64 c') ∧ W.cell? ⟨w.heap.size + 1, 2, none⟩ = some (.int .i64 l') ∧ W.cell? ⟨w.heap.size + 1, 3, none⟩ = some (.string h') ∧ W.cell? ⟨w.heap.size + 1, 4, none⟩ = some (.string t')) ∧ w.heap.size + 1 < W.heap.size := by
  have hs := hB.size
  simp at hs
  refine ⟨box_below (box_at (ty := 24) ?_) hB (by simp; omega), box_below (box_at (ty := 24) (heap_alloc2_new w _ _)) hB (by simp), by omega⟩
  rw [Below.heap_alloc _ _ _ (by simp)]
  exact heap_alloc_new w _

theorem seam_no (ab ac al : Int) (ah at' : ByteArray) (bb bc bl' : Int) (bh bt : ByteArray) (w : World) (hab : ab ≤ 9223372036854775807) (hbb : bb ≤ 9223372036854775807) (hno : (mayT ab ac al ah at' && mayT bb bc bl' bh bt) = false) :
    Calls Try.prog 17 #[(.agg #[.int .i64 ab, .int .i64 ac, .int .i64 al, .string ah, .string at']), (.agg #[.int .i64 bb, .int .i64 bc, .int .i64 bl', .string bh, .string bt])] w fun e w' => e = .returned (.tuple #[.int .i64 0, .int .i64 0, .int .i64 30]) ∧ Below w.heap.size w w' := by
  have KA := hide (fun w => check_any ab ac al ah at' w hab)
  have KB := hide (fun w => check_any bb bc bl' bh bt w hbb)
  have K2 := hide (fun W hB => two_boxes w W ab ac al ah at' bb bc bl' bh bt hB)
  cases ha : mayT ab ac al ah at'
  · rw [ha] at KA
    clear ha hno KB
    have e1 : okE false = 30 := rfl
    go_enter Try.func17, Try.ntmps17
    go_wp2_with (go_at_call 10; refine (KA.out _).mono ?_; rintro e w1 ⟨rfl, hB⟩)
    go_ret3
    exact ⟨rfl, bseq (((Below.refl _ w).alloc (Nat.le_refl _) _).alloc (by simp) _) hB⟩
  · rw [ha, Bool.true_and] at hno
    rw [ha] at KA
    rw [hno] at KB
    clear ha hno
    have e1 : okE false = 30 := rfl
    have e2 : okE true = 0 := rfl
    have M1 := hide trivial
    go_enter Try.func17, Try.ntmps17
    go_wp2_with (first | (go_at_call 10; clear M1; refine (KA.out _).mono ?_; rintro e w1 ⟨rfl, hB⟩; obtain ⟨_, ⟨q0, q1, q2, q3, q4⟩, _⟩ := K2.out _ hB) | (go_at_call 10; refine (KB.out _).mono ?_; rintro e w2 ⟨rfl, hB2⟩))
    go_ret3
    exact ⟨rfl, bseq (bseq (((Below.refl _ w).alloc (Nat.le_refl _) _).alloc (by simp) _) hB) hB2⟩

set_option maxHeartbeats 1000000 in
theorem seam_yes (ab ac al : Int) (ah at' : ByteArray) (bb bc bl' : Int) (bh bt : ByteArray) (w : World) (hab : ab ≤ 9223372036854775807) (hbb : bb ≤ 9223372036854775807) (ha : mayT ab ac al ah at' = true) (hb : mayT bb bc bl' bh bt = true) :
    Calls Try.prog 17 #[(.agg #[.int .i64 ab, .int .i64 ac, .int .i64 al, .string ah, .string at']), (.agg #[.int .i64 bb, .int .i64 bc, .int .i64 bl', .string bh, .string bt])] w fun e w' => e = .returned (.tuple #[.int .i64 (seamT at' bh).1, .int .i64 (seamT at' bh).2, .int .i64 0]) ∧ Below w.heap.size w w' := by
  have KA := hide (fun w => check_any ab ac al ah at' w hab)
  have KB := hide (fun w => check_any bb bc bl' bh bt w hbb)
  have hsa := may_sizes ha
  have hsb := may_sizes hb
  rw [ha] at KA
  rw [hb] at KB
  have K2 := hide (fun W hB => two_boxes w W ab ac al ah at' bb bc bl' bh bt hB)
  have KX := hide (fun w => across_any at' bh w (by omega) (by omega))
  have hx4 : (acrossV (bl at') (bl bh)).2 ≤ 4 := by unfold acrossV; split; exact Nat.zero_le _; exact cw_le4 _
  have kp := fun w => hasPrefix_any bh ⟨#[10]⟩ w
  have ks := fun w => hasSuffix_any at' ⟨#[13]⟩ w (by omega)
  have e10 : bh.data.toList = bl bh := rfl
  rw [show ((⟨#[10]⟩ : ByteArray).data.toList) = [10] from rfl, hasPrefix_10] at kp
  rw [show ((⟨#[13]⟩ : ByteArray).data.toList) = [13] from rfl, hasSuffix_13] at ks
  unfold seamT seamV
  generalize acrossV (bl at') (bl bh) = x at *
  obtain ⟨r, x2⟩ := x
  dsimp only at *
  have KR := hide (fun w => ends_any r w)
  have e2 : okE true = 0 := rfl
  have M1 := hide trivial
  clear ha hb hsa hsb hab hbb e10
  by_cases hx : 0 < x2
  · rw [if_pos hx]
    have hx' : (0 : Int) < (x2 : Int) := by omega
    have hx5 : (x2 : Int) ≤ 4 := by omega
    clear hx hx4 kp ks
    cases he : endR r
    all_goals
      rw [he] at KR
      clear he
      go_enter Try.func17, Try.ntmps17
      go_wp2_with (first | (go_at_call 10; clear M1; refine (KA.out _).mono ?_; rintro e w1 ⟨rfl, hB⟩; obtain ⟨_, ⟨q0, q1, q2, q3, q4⟩, _⟩ := K2.out _ hB) | (go_at_call 10; refine (KB.out _).mono ?_; rintro e w2 ⟨rfl, hB2⟩; obtain ⟨⟨p0, p1, p2, p3, p4⟩, ⟨u0, u1, u2, u3, u4⟩, _⟩ := K2.out _ (bseq hB hB2)) | (go_at_call 31; refine (KX.out _).mono ?_; rintro e w3 ⟨rfl, hB3⟩) | (go_at_call 20; refine (KR.out _).mono ?_; rintro e w4 ⟨rfl, rfl⟩))
      go_ret3
      exact ⟨rfl, bseq (bseq (bseq (((Below.refl _ w).alloc (Nat.le_refl _) _).alloc (by simp) _) hB) hB2) hB3⟩
  · rw [if_neg hx]
    have hx0 : x2 = 0 := by omega
    subst hx0
    clear hx hx4 KR
    have KP := hide kp
    have KS := hide ks
    clear kp ks
    have hif : (if lst (bl at') = 13 ∧ by' (bl bh) 0 = 10 then ((0, -1) : Int × Int) else (0, 0)) = (0, if (decide (lst (bl at') = 13) && decide (by' (bl bh) 0 = 10)) = true then -1 else 0) := by
      by_cases h1 : lst (bl at') = 13 <;> by_cases h2 : by' (bl bh) 0 = 10 <;> simp [h1, h2]
    rw [hif]
    clear hif
    dsimp only
    generalize decide (lst (bl at') = 13) = g1 at *
    generalize decide (by' (bl bh) 0 = 10) = g2 at *
    cases g1
    · go_enter Try.func17, Try.ntmps17
      go_wp2_with (first | (go_at_call 10; clear M1; refine (KA.out _).mono ?_; rintro e w1 ⟨rfl, hB⟩; obtain ⟨_, ⟨q0, q1, q2, q3, q4⟩, _⟩ := K2.out _ hB) | (go_at_call 10; refine (KB.out _).mono ?_; rintro e w2 ⟨rfl, hB2⟩; obtain ⟨⟨p0, p1, p2, p3, p4⟩, ⟨u0, u1, u2, u3, u4⟩, _⟩ := K2.out _ (bseq hB hB2)) | (go_at_call 31; refine (KX.out _).mono ?_; rintro e w3 ⟨rfl, hB3⟩; obtain ⟨⟨v0, v1, v2, v3, v4⟩, ⟨x0, x1, x2, x3, x4⟩, _⟩ := K2.out _ (bseq (bseq hB hB2) hB3)) | (go_at_call 32; refine (KS.out _).mono ?_; rintro e w4 ⟨rfl, rfl⟩))
      go_ret3
      exact ⟨rfl, bseq (bseq (bseq (((Below.refl _ w).alloc (Nat.le_refl _) _).alloc (by simp) _) hB) hB2) hB3⟩
    · cases g2
      all_goals
        go_enter Try.func17, Try.ntmps17
        go_wp2_with (first | (go_at_call 10; clear M1; refine (KA.out _).mono ?_; rintro e w1 ⟨rfl, hB⟩; obtain ⟨_, ⟨q0, q1, q2, q3, q4⟩, _⟩ := K2.out _ hB) | (go_at_call 10; refine (KB.out _).mono ?_; rintro e w2 ⟨rfl, hB2⟩; obtain ⟨⟨p0, p1, p2, p3, p4⟩, ⟨u0, u1, u2, u3, u4⟩, _⟩ := K2.out _ (bseq hB hB2)) | (go_at_call 31; refine (KX.out _).mono ?_; rintro e w3 ⟨rfl, hB3⟩; obtain ⟨⟨v0, v1, v2, v3, v4⟩, ⟨x0, x1, x2, x3, x4⟩, _⟩ := K2.out _ (bseq (bseq hB hB2) hB3)) | (go_at_call 32; refine (KS.out _).mono ?_; rintro e w4 ⟨rfl, rfl⟩) | (go_at_call 33; refine (KP.out _).mono ?_; rintro e w5 ⟨rfl, rfl⟩))
        go_ret3
        exact ⟨rfl, bseq (bseq (bseq (((Below.refl _ w).alloc (Nat.le_refl _) _).alloc (by simp) _) hB) hB2) hB3⟩
end Go.Proofs.Ytojbclifafmllaa
