/- What the document's number and First answer. -/
import Derived.Test.YtfiocfhehofheaaURef
namespace Go.Proofs.Ytfiocfhehofheaa
open Go.RowKit
set_option linter.unusedVariables false

theorem number_1 (s : ByteArray) (w : World) (h : 1 ≤ s.size) (hs : s.size ≤ 9223372036854775807) :
    Calls Try.prog 36 #[.string s, .int .i64 1] w fun e w' => e = .returned (.int .i32 (numV (bl s) 1)) ∧ Below w.heap.size w w' := by
  have h0 : 0 < s.size := by omega
  have hz : (0 : Int) < (s.size : Int) := by omega
  have hb := by'_get s 0 h0
  have hlt : (s[0]'h0).toNat < 256 := UInt8.toNat_lt _
  have HB := hide hb
  clear hb
  go_enter Try.func36, Try.ntmps36
  go_wp2
  go_ret
  refine ⟨ret_int ?_, Below.refl _ _⟩
  show _ = ((by' (bl s) 0 : Nat) : Int)
  unfold bl
  rw [HB.out]


set_option maxRecDepth 100000 in
set_option maxHeartbeats 1000000 in
theorem number_2 (s : ByteArray) (w : World) (h : 2 ≤ s.size) (hs : s.size ≤ 9223372036854775807) :
    Calls Try.prog 36 #[.string s, .int .i64 2] w fun e w' => e = .returned (.int .i32 (numV (bl s) 2)) ∧ Below w.heap.size w w' := by
  have h0 : 0 < s.size := by omega
  have hz : (0 : Int) < (s.size : Int) := by omega
  have g0 : 0 < s.size := by omega
  have z0 : (0 : Int) < (s.size : Int) := by omega
  have b0 := by'_get s 0 g0
  have l0 : (s[0]'g0).toNat < 256 := UInt8.toNat_lt _
  have g1 : 1 < s.size := by omega
  have z1 : (1 : Int) < (s.size : Int) := by omega
  have b1 := by'_get s 1 g1
  have l1 : (s[1]'g1).toNat < 256 := UInt8.toNat_lt _
  have hv : numV (bl s) 2 = (((by' (bl s) 0 : Int) - 192) * 64 + (by' (bl s) 1 : Int) % 64) := rfl
  rw [hv]
  clear hv
  unfold bl
  rw [b0]
  have HB0 := hide b0
  rw [b1]
  have HB1 := hide b1
  clear b0 b1
  go_enter Try.func36, Try.ntmps36
  go_wp2
  go_quiet (fail)
  go_wp2
  go_loopw [5, 6] (fun n i wr => Below w.heap.size w wr ∧ ((i = .int .i64 1 ∧ n = .int .i64 (((s[0]'g0).toNat : Int) - 192)) ∨ (i = .int .i64 2 ∧ n = .int .i64 ((((s[0]'g0).toNat : Int) - 192) * 64 + ((s[1]'g1).toNat : Int) % 64)))) (fun _ i _ => 5 - (intOf i).toNat)
  case atStart => exact ⟨below_drewN (Below.refl _ _) _, .inl ⟨rfl, by go_num⟩⟩
  case round =>
    obtain ⟨hB, ⟨rfl, rfl⟩ | ⟨rfl, rfl⟩⟩ := hrel
    · have HB := hide hB
      clear hB
      go_wp2
      go_roundw
      case rel => exact ⟨HB.out, .inr (⟨rfl, by go_num⟩)⟩
      case measure => simp [intOf]
    · have HB := hide hB
      clear hB
      go_wp2
      go_ret
      exact ⟨rfl, HB.out⟩

set_option maxRecDepth 100000 in
set_option maxHeartbeats 1000000 in
theorem number_3 (s : ByteArray) (w : World) (h : 3 ≤ s.size) (hs : s.size ≤ 9223372036854775807) :
    Calls Try.prog 36 #[.string s, .int .i64 3] w fun e w' => e = .returned (.int .i32 (numV (bl s) 3)) ∧ Below w.heap.size w w' := by
  have h0 : 0 < s.size := by omega
  have hz : (0 : Int) < (s.size : Int) := by omega
  have g0 : 0 < s.size := by omega
  have z0 : (0 : Int) < (s.size : Int) := by omega
  have b0 := by'_get s 0 g0
  have l0 : (s[0]'g0).toNat < 256 := UInt8.toNat_lt _
  have g1 : 1 < s.size := by omega
  have z1 : (1 : Int) < (s.size : Int) := by omega
  have b1 := by'_get s 1 g1
  have l1 : (s[1]'g1).toNat < 256 := UInt8.toNat_lt _
  have g2 : 2 < s.size := by omega
  have z2 : (2 : Int) < (s.size : Int) := by omega
  have b2 := by'_get s 2 g2
  have l2 : (s[2]'g2).toNat < 256 := UInt8.toNat_lt _
  have hv : numV (bl s) 3 = ((((by' (bl s) 0 : Int) - 224) * 64 + (by' (bl s) 1 : Int) % 64) * 64 + (by' (bl s) 2 : Int) % 64) := rfl
  rw [hv]
  clear hv
  unfold bl
  rw [b0]
  have HB0 := hide b0
  rw [b1]
  have HB1 := hide b1
  rw [b2]
  have HB2 := hide b2
  clear b0 b1 b2
  go_enter Try.func36, Try.ntmps36
  go_wp2
  go_quiet (fail)
  go_wp2
  go_loopw [5, 6] (fun n i wr => Below w.heap.size w wr ∧ ((i = .int .i64 1 ∧ n = .int .i64 (((s[0]'g0).toNat : Int) - 224)) ∨ (i = .int .i64 2 ∧ n = .int .i64 ((((s[0]'g0).toNat : Int) - 224) * 64 + ((s[1]'g1).toNat : Int) % 64)) ∨ (i = .int .i64 3 ∧ n = .int .i64 (((((s[0]'g0).toNat : Int) - 224) * 64 + ((s[1]'g1).toNat : Int) % 64) * 64 + ((s[2]'g2).toNat : Int) % 64)))) (fun _ i _ => 5 - (intOf i).toNat)
  case atStart => exact ⟨below_drewN (Below.refl _ _) _, .inl ⟨rfl, by go_num⟩⟩
  case round =>
    obtain ⟨hB, ⟨rfl, rfl⟩ | ⟨rfl, rfl⟩ | ⟨rfl, rfl⟩⟩ := hrel
    · have HB := hide hB
      clear hB
      go_wp2
      go_roundw
      case rel => exact ⟨HB.out, .inr (.inl ⟨rfl, by go_num⟩)⟩
      case measure => simp [intOf]
    · have HB := hide hB
      clear hB
      go_wp2
      go_roundw
      case rel => exact ⟨HB.out, .inr (.inr (⟨rfl, by go_num⟩))⟩
      case measure => simp [intOf]
    · have HB := hide hB
      clear hB
      go_wp2
      go_ret
      exact ⟨rfl, HB.out⟩

set_option maxRecDepth 100000 in
set_option maxHeartbeats 1000000 in
theorem number_4 (s : ByteArray) (w : World) (h : 4 ≤ s.size) (hs : s.size ≤ 9223372036854775807) :
    Calls Try.prog 36 #[.string s, .int .i64 4] w fun e w' => e = .returned (.int .i32 (numV (bl s) 4)) ∧ Below w.heap.size w w' := by
  have h0 : 0 < s.size := by omega
  have hz : (0 : Int) < (s.size : Int) := by omega
  have g0 : 0 < s.size := by omega
  have z0 : (0 : Int) < (s.size : Int) := by omega
  have b0 := by'_get s 0 g0
  have l0 : (s[0]'g0).toNat < 256 := UInt8.toNat_lt _
  have g1 : 1 < s.size := by omega
  have z1 : (1 : Int) < (s.size : Int) := by omega
  have b1 := by'_get s 1 g1
  have l1 : (s[1]'g1).toNat < 256 := UInt8.toNat_lt _
  have g2 : 2 < s.size := by omega
  have z2 : (2 : Int) < (s.size : Int) := by omega
  have b2 := by'_get s 2 g2
  have l2 : (s[2]'g2).toNat < 256 := UInt8.toNat_lt _
  have g3 : 3 < s.size := by omega
  have z3 : (3 : Int) < (s.size : Int) := by omega
  have b3 := by'_get s 3 g3
  have l3 : (s[3]'g3).toNat < 256 := UInt8.toNat_lt _
  have hv : numV (bl s) 4 = (((((by' (bl s) 0 : Int) - 240) * 64 + (by' (bl s) 1 : Int) % 64) * 64 + (by' (bl s) 2 : Int) % 64) * 64 + (by' (bl s) 3 : Int) % 64) := rfl
  rw [hv]
  clear hv
  unfold bl
  rw [b0]
  have HB0 := hide b0
  rw [b1]
  have HB1 := hide b1
  rw [b2]
  have HB2 := hide b2
  rw [b3]
  have HB3 := hide b3
  clear b0 b1 b2 b3
  go_enter Try.func36, Try.ntmps36
  go_wp2
  go_quiet (fail)
  go_wp2
  go_loopw [5, 6] (fun n i wr => Below w.heap.size w wr ∧ ((i = .int .i64 1 ∧ n = .int .i64 (((s[0]'g0).toNat : Int) - 240)) ∨ (i = .int .i64 2 ∧ n = .int .i64 ((((s[0]'g0).toNat : Int) - 240) * 64 + ((s[1]'g1).toNat : Int) % 64)) ∨ (i = .int .i64 3 ∧ n = .int .i64 (((((s[0]'g0).toNat : Int) - 240) * 64 + ((s[1]'g1).toNat : Int) % 64) * 64 + ((s[2]'g2).toNat : Int) % 64)) ∨ (i = .int .i64 4 ∧ n = .int .i64 ((((((s[0]'g0).toNat : Int) - 240) * 64 + ((s[1]'g1).toNat : Int) % 64) * 64 + ((s[2]'g2).toNat : Int) % 64) * 64 + ((s[3]'g3).toNat : Int) % 64)))) (fun _ i _ => 5 - (intOf i).toNat)
  case atStart => exact ⟨below_drewN (Below.refl _ _) _, .inl ⟨rfl, by go_num⟩⟩
  case round =>
    obtain ⟨hB, ⟨rfl, rfl⟩ | ⟨rfl, rfl⟩ | ⟨rfl, rfl⟩ | ⟨rfl, rfl⟩⟩ := hrel
    · have HB := hide hB
      clear hB
      go_wp2
      go_roundw
      case rel => exact ⟨HB.out, .inr (.inl ⟨rfl, by go_num⟩)⟩
      case measure => simp [intOf]
    · have HB := hide hB
      clear hB
      go_wp2
      go_roundw
      case rel => exact ⟨HB.out, .inr (.inr (.inl ⟨rfl, by go_num⟩))⟩
      case measure => simp [intOf]
    · have HB := hide hB
      clear hB
      go_wp2
      go_roundw
      case rel => exact ⟨HB.out, .inr (.inr (.inr (⟨rfl, by go_num⟩)))⟩
      case measure => simp [intOf]
    · have HB := hide hB
      clear hB
      go_wp2
      go_ret
      exact ⟨rfl, HB.out⟩

theorem number_any (s : ByteArray) (k : Nat) (w : World) (h1 : 1 ≤ k) (h4 : k ≤ 4) (h : k ≤ s.size) (hs : s.size ≤ 9223372036854775807) :
    Calls Try.prog 36 #[.string s, .int .i64 k] w fun e w' => e = .returned (.int .i32 (numV (bl s) k)) ∧ Below w.heap.size w w' := by
  have hk : k = 1 ∨ k = 2 ∨ k = 3 ∨ k = 4 := by omega
  rcases hk with rfl | rfl | rfl | rfl
  · exact number_1 s w h hs
  · exact number_2 s w h hs
  · exact number_3 s w h hs
  · exact number_4 s w h hs

theorem refFirst_none (s : ByteArray) (w : World) (h : s.size = 0) :
    Calls Try.prog 26 #[.string s] w fun e w' => e = .returned (.tuple #[.int .i32 0, .int .i64 0, .bool false]) ∧ w' = w := by
  have hz : ((s.size : Int) == 0) = true := by simp [h]
  go_enter Try.func26, Try.ntmps26
  go_wp2
  go_ret3
  exact ⟨rfl, rfl⟩

theorem noj {P k : Nat} (h : ∀ j, 1 ≤ j → j < k → P ≠ j) (h2 : P ≠ k) : ∀ j, 1 ≤ j → j < k + 1 → P ≠ j := by
  intro j h1 h3
  by_cases hj : j = k
  · subst hj; exact h2
  · exact h j h1 (by omega)
theorem okB_may {l : List UInt8} {k : Nat} (h : mayB (numV l k) = false) : okB l k = false := by unfold okB; rw [h]; rfl
theorem okB_beg {l : List UInt8} {k : Nat} (h : begB l (seqV (numV l k).toNat) = false) : okB l k = false := by unfold okB; rw [h, Bool.and_false]; rfl
theorem okB_all {l : List UInt8} {k : Nat} (h : mayB (numV l k) = true) (h2 : begB l (seqV (numV l k).toNat) = true) : okB l k = decide ((seqV (numV l k).toNat).length = k) := by unfold okB; rw [h, h2]; rfl

set_option maxRecDepth 100000 in
set_option maxHeartbeats 1000000 in
theorem refFirst_some (s : ByteArray) (w : World) (h : 0 < s.size) (hs : s.size ≤ 9223372036854775807) :
    Calls Try.prog 26 #[.string s] w fun e w' => e = .returned (.tuple #[.int .i32 (firstV (bl s)).1, .int .i64 (firstV (bl s)).2.1, .bool (firstV (bl s)).2.2]) ∧ Below w.heap.size w w' := by
  have hz : ((s.size : Int) == 0) = false := beq_eq_false_iff_ne.2 (by omega)
  have hW := W_len (bl s) (bl_ne h)
  have hW4 := W_le4 (bl s)
  rw [bl_len] at hW
  have hno : W (bl s) = 0 → firstV (bl s) = (65533, 1, false) := fun h0 => by rw [firstV_ne (bl_ne h), h0, cw_0 h0, rune_0 h0]; rfl
  have hyes : ∀ k, 1 ≤ k → W (bl s) = k → firstV (bl s) = (numV (bl s) k, (k : Int), true) := fun k h1 hk => by
    rw [firstV_ne (bl_ne h), numV_rune (bl s) k h1 hk, cw_W (l := bl s) (by omega), hk, decide_eq_true (p := k ≠ 0) (by omega)]
  have HNO := hide hno
  have HYES := hide hyes
  clear hno hyes
  go_enter Try.func26, Try.ntmps26
  go_wp2
  go_loopw [5] (fun q wr => ∃ k : Nat, 1 ≤ k ∧ k ≤ 5 ∧ q = .int .i64 k ∧ Below w.heap.size w wr ∧ (∀ j, 1 ≤ j → j < k → W (bl s) ≠ j)) (fun q _ => 5 - (intOf q).toNat)
  case atStart => exact ⟨1, by omega, by omega, rfl, Below.refl _ _, fun j h1 h2 => by omega⟩
  case round =>
    obtain ⟨k, hk1, hk5, rfl, hB, hj⟩ := hrel
    have HB := hide hB
    have HJ := hide hj
    clear hB hj
    by_cases h4 : k ≤ 4
    · have h4' : (k : Int) ≤ 4 := by omega
      by_cases hl : k ≤ s.size
      · have hl' : (k : Int) ≤ (s.size : Int) := by omega
        have hnb := numV_bound (bl s) k
        have kn := fun w => number_any s k w hk1 h4 hl hs
        have hok := okB_iff (bl s) k hk1 h4 (by rw [bl_len]; exact hl)
        have km := fun w => may_any (numV (bl s) k) w (by omega) (by omega)
        have hm1 := okB_may (l := bl s) (k := k)
        have hm2 := okB_beg (l := bl s) (k := k)
        have hm3 := okB_all (l := bl s) (k := k)
        have HY := HYES.out k hk1
        have hmz : mayB (numV (bl s) k) = true → 0 ≤ numV (bl s) k ∧ numV (bl s) k ≤ 1114111 := fun h => by have := mayB_iff.1 h; omega
        generalize numV (bl s) k = z at *
        have KN := hide kn
        have KM := hide km
        have HOK := hide hok
        have HYY := hide HY
        clear kn km hok HY
        cases hmay : mayB z with
        | false =>
          have hW' : W (bl s) ≠ k := fun e => by have := HOK.out.2 e; rw [hm1 hmay] at this; cases this
          have HWk := hide hW'
          rw [hmay] at KM
          clear hm1 hm2 hm3 hmz hmay hW'
          go_wp2_with (first | (go_at_call 36; refine (KN.out _).mono ?_; rintro e w1 ⟨rfl, hB1⟩) | (go_at_call 37; refine (KM.out _).mono ?_; rintro e w2 ⟨rfl, rfl⟩))
          go_roundw
          case rel => exact ⟨k + 1, by omega, by omega, by go_num, bseq HB.out hB1, noj HJ.out HWk.out⟩
          case measure => simp [intOf]; omega
        | true =>
          obtain ⟨hz0, hz1⟩ := hmz hmay
          obtain ⟨m, rfl⟩ : ∃ m : Nat, z = (m : Int) := ⟨z.toNat, by omega⟩
          have hm : m ≤ 1114111 := by omega
          rw [Int.toNat_natCast] at hm2 hm3
          have ks := fun w => seq_any m w hm
          have kb : ∀ w a c, SlB w a (seqV m) → Calls Try.prog 38 #[.string s, .slice a (seqV m).length c] w fun e w' => e = .returned (.bool (begB (bl s) (seqV m))) ∧ Below w.heap.size w w' := fun w a c h => begins_any' s a c (seqV m) w h hs
          have ksl := fun w => seq_sl m w
          have hlen := seqV_len m
          rw [hmay] at KM
          generalize hq : seqV m = q at *
          have KS := hide ks
          have KB := hide kb
          have KL := hide ksl
          clear ks kb ksl hq
          generalize hqn : q.length = qn at *
          generalize (q.map B8).toArray = Q at *
          have HQ := hide hqn
          clear hqn
          cases hbeg : begB (bl s) q with
          | false =>
            have hW' : W (bl s) ≠ k := fun e => by have := HOK.out.2 e; rw [hm2 hbeg] at this; cases this
            have HWk := hide hW'
            rw [hbeg] at KB
            clear hm1 hm2 hm3 hmz hmay hW' hbeg
            go_wp2_with (first | (go_at_call 36; refine (KN.out _).mono ?_; rintro e w1 ⟨rfl, hB1⟩) | (go_at_call 37; refine (KM.out _).mono ?_; rintro e w2 ⟨rfl, rfl⟩) | (go_at_call 39; refine (KS.out _).mono ?_; rintro e w3 ⟨rfl, rfl⟩) | (go_at_call 38; refine (KB.out _ _ _ (KL.out _)).mono ?_; rintro e w4 ⟨rfl, hB4⟩))
            go_roundw
            case rel => exact ⟨k + 1, by omega, by omega, by go_num, bseq (bseq HB.out hB1) (bseq ((Below.refl _ _).alloc (Nat.le_refl _) _) hB4), noj HJ.out HWk.out⟩
            case measure => simp [intOf]; omega
          | true =>
            have hall := hm3 hmay hbeg
            rw [hbeg] at KB
            by_cases hlk : qn = k
            · have hWk : W (bl s) = k := HOK.out.1 (by rw [hall]; exact decide_eq_true hlk)
              have hlk' : ((qn : Int) == (k : Int)) = true := by simp [hlk]
              have HV := hide (HYY.out hWk)
              clear hm1 hm2 hm3 hmz hmay hbeg hall hlk hWk
              go_wp2_with (first | (go_at_call 36; refine (KN.out _).mono ?_; rintro e w1 ⟨rfl, hB1⟩) | (go_at_call 37; refine (KM.out _).mono ?_; rintro e w2 ⟨rfl, rfl⟩) | (go_at_call 39; refine (KS.out _).mono ?_; rintro e w3 ⟨rfl, rfl⟩) | (go_at_call 38; refine (KB.out _ _ _ (KL.out _)).mono ?_; rintro e w4 ⟨rfl, hB4⟩))
              go_ret3
              exact ⟨ret_three (by rw [HV.out]) (by rw [HV.out]) (by rw [HV.out]), bseq (bseq (bseq HB.out hB1) (bseq ((Below.refl _ _).alloc (Nat.le_refl _) _) hB4)) ((Below.refl _ _).alloc (Nat.le_refl _) _)⟩
            · have hW' : W (bl s) ≠ k := fun e => by have := HOK.out.2 e; rw [hall, decide_eq_false hlk] at this; cases this
              have HWk := hide hW'
              have hlk' : ((qn : Int) == (k : Int)) = false := by simp; omega
              clear hm1 hm2 hm3 hmz hmay hbeg hall hlk hW'
              go_wp2_with (first | (go_at_call 36; refine (KN.out _).mono ?_; rintro e w1 ⟨rfl, hB1⟩) | (go_at_call 37; refine (KM.out _).mono ?_; rintro e w2 ⟨rfl, rfl⟩) | (go_at_call 39; refine (KS.out _).mono ?_; rintro e w3 ⟨rfl, rfl⟩) | (go_at_call 38; refine (KB.out _ _ _ (KL.out _)).mono ?_; rintro e w4 ⟨rfl, hB4⟩))
              go_roundw
              case rel => exact ⟨k + 1, by omega, by omega, by go_num, bseq (bseq (bseq HB.out hB1) (bseq ((Below.refl _ _).alloc (Nat.le_refl _) _) hB4)) ((Below.refl _ _).alloc (Nat.le_refl _) _), noj HJ.out HWk.out⟩
              case measure => simp [intOf]; omega
      · have hl' : (s.size : Int) < (k : Int) := by omega
        have h0 : W (bl s) = 0 := by
          rcases Nat.eq_zero_or_pos (W (bl s)) with g | g
          · exact g
          · exact absurd rfl (HJ.out (W (bl s)) g (by omega))
        have HV := hide (HNO.out h0)
        clear h0
        go_wp2
        go_ret3
        exact ⟨ret_three (by rw [HV.out]) (by rw [HV.out]) (by rw [HV.out]), HB.out⟩
    · have hk : k = 5 := by omega
      subst hk
      have h0 : W (bl s) = 0 := by
        rcases Nat.eq_zero_or_pos (W (bl s)) with g | g
        · exact g
        · exact absurd rfl (HJ.out (W (bl s)) g (by omega))
      have HV := hide (HNO.out h0)
      clear h0
      go_wp2
      go_ret3
      exact ⟨ret_three (by rw [HV.out]) (by rw [HV.out]) (by rw [HV.out]), HB.out⟩

theorem refFirst_any (s : ByteArray) (w : World) (hs : s.size ≤ 9223372036854775807) :
    Calls Try.prog 26 #[.string s] w fun e w' => e = .returned (.tuple #[.int .i32 (firstV (bl s)).1, .int .i64 (firstV (bl s)).2.1, .bool (firstV (bl s)).2.2]) ∧ Below w.heap.size w w' := by
  by_cases h : s.size = 0
  · rw [bl_nil h]
    refine (refFirst_none s w h).mono ?_
    rintro e w' ⟨rfl, rfl⟩
    exact ⟨rfl, Below.refl _ _⟩
  · exact refFirst_some s w (by omega) hs
end Go.Proofs.Ytfiocfhehofheaa
