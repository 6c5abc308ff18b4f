/- Package seek, the statements' own: the number and the place of an error. -/
import Derived.Test.YtffolokaijdbfaaGreatDoorURefJoined
import Derived.Deep.QuietTactic
import Derived.BigQuiet
import Derived.OwnWalk
import Derived.WalkSmall
import Derived.Lib.OthersKept
import Derived.Test.YtffolokaijdbfaaGreatDoorUOrdM
import Derived.Test.YtffolokaijdbfaaGreatDoorProg
import Derived.WalkKit
import Derived.LaidEql
import Derived.Stop.Asserts
import Derived.RowKitTokens
import Derived.LaidLaws
import Derived.LaidHandle
import Derived.Below
import Derived.Test.YtffolokaijdbfaaGreatDoorXRd
namespace Go.Proofs.YtffolokaijdbfaaGreatDoor
open Go.RowKit
set_option linter.unusedVariables false

theorem number_1 (s : ByteArray) (w : World) (h : 1 ≤ s.size) (hs : s.size ≤ 9223372036854775807) :
    Calls Tryz.prog 80 #[.string s, .int .i64 1] w fun e w' => e = .returned (.int .i32 (numV (bl s) 1)) ∧ Below w.heap.size w w' := by
  have h0 : 0 < s.size := by omega
  have hz : (0 : Int) < (s.size : Int) := by omega
  have hb := by'_get s 0 h0
  have hlt : (s[0]'h0).toNat < 256 := UInt8.toNat_lt _
  have HB := hide hb
  clear hb
  go_enter Tryz.func80, Tryz.ntmps80
  go_wp2
  go_ret
  refine ⟨ret_int ?_, Below.refl _ _⟩
  show _ = ((by' (bl s) 0 : Nat) : Int)
  unfold bl
  rw [HB.out]


set_option maxRecDepth 100000 in
set_option maxHeartbeats 1000000 in
theorem number_2 (s : ByteArray) (w : World) (h : 2 ≤ s.size) (hs : s.size ≤ 9223372036854775807) :
    Calls Tryz.prog 80 #[.string s, .int .i64 2] w fun e w' => e = .returned (.int .i32 (numV (bl s) 2)) ∧ Below w.heap.size w w' := by
  have h0 : 0 < s.size := by omega
  have hz : (0 : Int) < (s.size : Int) := by omega
  have g0 : 0 < s.size := by omega
  have z0 : (0 : Int) < (s.size : Int) := by omega
  have b0 := by'_get s 0 g0
  have l0 : (s[0]'g0).toNat < 256 := UInt8.toNat_lt _
  have g1 : 1 < s.size := by omega
  have z1 : (1 : Int) < (s.size : Int) := by omega
  have b1 := by'_get s 1 g1
  have l1 : (s[1]'g1).toNat < 256 := UInt8.toNat_lt _
  have hv : numV (bl s) 2 = (((by' (bl s) 0 : Int) - 192) * 64 + (by' (bl s) 1 : Int) % 64) := rfl
  rw [hv]
  clear hv
  unfold bl
  rw [b0]
  have HB0 := hide b0
  rw [b1]
  have HB1 := hide b1
  clear b0 b1
  go_enter Tryz.func80, Tryz.ntmps80
  go_wp2
  go_quiet (fail)
  go_wp2
  go_loopw [5, 6] (fun n i wr => Below w.heap.size w wr ∧ ((i = .int .i64 1 ∧ n = .int .i64 (((s[0]'g0).toNat : Int) - 192)) ∨ (i = .int .i64 2 ∧ n = .int .i64 ((((s[0]'g0).toNat : Int) - 192) * 64 + ((s[1]'g1).toNat : Int) % 64)))) (fun _ i _ => 5 - (intOf i).toNat)
  case atStart => exact ⟨below_drewN (Below.refl _ _) _, .inl ⟨rfl, by go_num⟩⟩
  case round =>
    obtain ⟨hB, ⟨rfl, rfl⟩ | ⟨rfl, rfl⟩⟩ := hrel
    · have HB := hide hB
      clear hB
      go_wp2
      go_roundw
      case rel => exact ⟨HB.out, .inr (⟨rfl, by go_num⟩)⟩
      case measure => simp [intOf]
    · have HB := hide hB
      clear hB
      go_wp2
      go_ret
      exact ⟨rfl, HB.out⟩

set_option maxRecDepth 100000 in
set_option maxHeartbeats 1000000 in
theorem number_3 (s : ByteArray) (w : World) (h : 3 ≤ s.size) (hs : s.size ≤ 9223372036854775807) :
    Calls Tryz.prog 80 #[.string s, .int .i64 3] w fun e w' => e = .returned (.int .i32 (numV (bl s) 3)) ∧ Below w.heap.size w w' := by
  have h0 : 0 < s.size := by omega
  have hz : (0 : Int) < (s.size : Int) := by omega
  have g0 : 0 < s.size := by omega
  have z0 : (0 : Int) < (s.size : Int) := by omega
  have b0 := by'_get s 0 g0
  have l0 : (s[0]'g0).toNat < 256 := UInt8.toNat_lt _
  have g1 : 1 < s.size := by omega
  have z1 : (1 : Int) < (s.size : Int) := by omega
  have b1 := by'_get s 1 g1
  have l1 : (s[1]'g1).toNat < 256 := UInt8.toNat_lt _
  have g2 : 2 < s.size := by omega
  have z2 : (2 : Int) < (s.size : Int) := by omega
  have b2 := by'_get s 2 g2
  have l2 : (s[2]'g2).toNat < 256 := UInt8.toNat_lt _
  have hv : numV (bl s) 3 = ((((by' (bl s) 0 : Int) - 224) * 64 + (by' (bl s) 1 : Int) % 64) * 64 + (by' (bl s) 2 : Int) % 64) := rfl
  rw [hv]
  clear hv
  unfold bl
  rw [b0]
  have HB0 := hide b0
  rw [b1]
  have HB1 := hide b1
  rw [b2]
  have HB2 := hide b2
  clear b0 b1 b2
  go_enter Tryz.func80, Tryz.ntmps80
  go_wp2
  go_quiet (fail)
  go_wp2
  go_loopw [5, 6] (fun n i wr => Below w.heap.size w wr ∧ ((i = .int .i64 1 ∧ n = .int .i64 (((s[0]'g0).toNat : Int) - 224)) ∨ (i = .int .i64 2 ∧ n = .int .i64 ((((s[0]'g0).toNat : Int) - 224) * 64 + ((s[1]'g1).toNat : Int) % 64)) ∨ (i = .int .i64 3 ∧ n = .int .i64 (((((s[0]'g0).toNat : Int) - 224) * 64 + ((s[1]'g1).toNat : Int) % 64) * 64 + ((s[2]'g2).toNat : Int) % 64)))) (fun _ i _ => 5 - (intOf i).toNat)
  case atStart => exact ⟨below_drewN (Below.refl _ _) _, .inl ⟨rfl, by go_num⟩⟩
  case round =>
    obtain ⟨hB, ⟨rfl, rfl⟩ | ⟨rfl, rfl⟩ | ⟨rfl, rfl⟩⟩ := hrel
    · have HB := hide hB
      clear hB
      go_wp2
      go_roundw
      case rel => exact ⟨HB.out, .inr (.inl ⟨rfl, by go_num⟩)⟩
      case measure => simp [intOf]
    · have HB := hide hB
      clear hB
      go_wp2
      go_roundw
      case rel => exact ⟨HB.out, .inr (.inr (⟨rfl, by go_num⟩))⟩
      case measure => simp [intOf]
    · have HB := hide hB
      clear hB
      go_wp2
      go_ret
      exact ⟨rfl, HB.out⟩

set_option maxRecDepth 100000 in
set_option maxHeartbeats 1000000 in
theorem number_4 (s : ByteArray) (w : World) (h : 4 ≤ s.size) (hs : s.size ≤ 9223372036854775807) :
    Calls Tryz.prog 80 #[.string s, .int .i64 4] w fun e w' => e = .returned (.int .i32 (numV (bl s) 4)) ∧ Below w.heap.size w w' := by
  have h0 : 0 < s.size := by omega
  have hz : (0 : Int) < (s.size : Int) := by omega
  have g0 : 0 < s.size := by omega
  have z0 : (0 : Int) < (s.size : Int) := by omega
  have b0 := by'_get s 0 g0
  have l0 : (s[0]'g0).toNat < 256 := UInt8.toNat_lt _
  have g1 : 1 < s.size := by omega
  have z1 : (1 : Int) < (s.size : Int) := by omega
  have b1 := by'_get s 1 g1
  have l1 : (s[1]'g1).toNat < 256 := UInt8.toNat_lt _
  have g2 : 2 < s.size := by omega
  have z2 : (2 : Int) < (s.size : Int) := by omega
  have b2 := by'_get s 2 g2
  have l2 : (s[2]'g2).toNat < 256 := UInt8.toNat_lt _
  have g3 : 3 < s.size := by omega
  have z3 : (3 : Int) < (s.size : Int) := by omega
  have b3 := by'_get s 3 g3
  have l3 : (s[3]'g3).toNat < 256 := UInt8.toNat_lt _
  have hv : numV (bl s) 4 = (((((by' (bl s) 0 : Int) - 240) * 64 + (by' (bl s) 1 : Int) % 64) * 64 + (by' (bl s) 2 : Int) % 64) * 64 + (by' (bl s) 3 : Int) % 64) := rfl
  rw [hv]
  clear hv
  unfold bl
  rw [b0]
  have HB0 := hide b0
  rw [b1]
  have HB1 := hide b1
  rw [b2]
  have HB2 := hide b2
  rw [b3]
  have HB3 := hide b3
  clear b0 b1 b2 b3
  go_enter Tryz.func80, Tryz.ntmps80
  go_wp2
  go_quiet (fail)
  go_wp2
  go_loopw [5, 6] (fun n i wr => Below w.heap.size w wr ∧ ((i = .int .i64 1 ∧ n = .int .i64 (((s[0]'g0).toNat : Int) - 240)) ∨ (i = .int .i64 2 ∧ n = .int .i64 ((((s[0]'g0).toNat : Int) - 240) * 64 + ((s[1]'g1).toNat : Int) % 64)) ∨ (i = .int .i64 3 ∧ n = .int .i64 (((((s[0]'g0).toNat : Int) - 240) * 64 + ((s[1]'g1).toNat : Int) % 64) * 64 + ((s[2]'g2).toNat : Int) % 64)) ∨ (i = .int .i64 4 ∧ n = .int .i64 ((((((s[0]'g0).toNat : Int) - 240) * 64 + ((s[1]'g1).toNat : Int) % 64) * 64 + ((s[2]'g2).toNat : Int) % 64) * 64 + ((s[3]'g3).toNat : Int) % 64)))) (fun _ i _ => 5 - (intOf i).toNat)
  case atStart => exact ⟨below_drewN (Below.refl _ _) _, .inl ⟨rfl, by go_num⟩⟩
  case round =>
    obtain ⟨hB, ⟨rfl, rfl⟩ | ⟨rfl, rfl⟩ | ⟨rfl, rfl⟩ | ⟨rfl, rfl⟩⟩ := hrel
    · have HB := hide hB
      clear hB
      go_wp2
      go_roundw
      case rel => exact ⟨HB.out, .inr (.inl ⟨rfl, by go_num⟩)⟩
      case measure => simp [intOf]
    · have HB := hide hB
      clear hB
      go_wp2
      go_roundw
      case rel => exact ⟨HB.out, .inr (.inr (.inl ⟨rfl, by go_num⟩))⟩
      case measure => simp [intOf]
    · have HB := hide hB
      clear hB
      go_wp2
      go_roundw
      case rel => exact ⟨HB.out, .inr (.inr (.inr (⟨rfl, by go_num⟩)))⟩
      case measure => simp [intOf]
    · have HB := hide hB
      clear hB
      go_wp2
      go_ret
      exact ⟨rfl, HB.out⟩

theorem number_any (s : ByteArray) (k : Nat) (w : World) (h1 : 1 ≤ k) (h4 : k ≤ 4) (h : k ≤ s.size) (hs : s.size ≤ 9223372036854775807) :
    Calls Tryz.prog 80 #[.string s, .int .i64 k] w fun e w' => e = .returned (.int .i32 (numV (bl s) k)) ∧ Below w.heap.size w w' := by
  have hk : k = 1 ∨ k = 2 ∨ k = 3 ∨ k = 4 := by omega
  rcases hk with rfl | rfl | rfl | rfl
  · exact number_1 s w h hs
  · exact number_2 s w h hs
  · exact number_3 s w h hs
  · exact number_4 s w h hs

theorem refFirst_none (s : ByteArray) (w : World) (h : s.size = 0) :
    Calls Tryz.prog 66 #[.string s] w fun e w' => e = .returned (.tuple #[.int .i32 0, .int .i64 0, .bool false]) ∧ w' = w := by
  have hz : ((s.size : Int) == 0) = true := by simp [h]
  go_enter Tryz.func66, Tryz.ntmps66
  go_wp2
  go_ret3
  exact ⟨rfl, rfl⟩

theorem noj {P k : Nat} (h : ∀ j, 1 ≤ j → j < k → P ≠ j) (h2 : P ≠ k) : ∀ j, 1 ≤ j → j < k + 1 → P ≠ j := by
  intro j h1 h3
  by_cases hj : j = k
  · subst hj; exact h2
  · exact h j h1 (by omega)
theorem okB_may {l : List UInt8} {k : Nat} (h : mayB (numV l k) = false) : okB l k = false := by unfold okB; rw [h]; rfl
theorem okB_beg {l : List UInt8} {k : Nat} (h : begB l (seqV (numV l k).toNat) = false) : okB l k = false := by unfold okB; rw [h, Bool.and_false]; rfl
theorem okB_all {l : List UInt8} {k : Nat} (h : mayB (numV l k) = true) (h2 : begB l (seqV (numV l k).toNat) = true) : okB l k = decide ((seqV (numV l k).toNat).length = k) := by unfold okB; rw [h, h2]; rfl

set_option maxRecDepth 100000 in
set_option maxHeartbeats 1000000 in
theorem refFirst_some (s : ByteArray) (w : World) (h : 0 < s.size) (hs : s.size ≤ 9223372036854775807) :
    Calls Tryz.prog 66 #[.string s] w fun e w' => e = .returned (.tuple #[.int .i32 (firstV (bl s)).1, .int .i64 (firstV (bl s)).2.1, .bool (firstV (bl s)).2.2]) ∧ Below w.heap.size w w' := by
  have hz : ((s.size : Int) == 0) = false := beq_eq_false_iff_ne.2 (by omega)
  have hW := W_len (bl s) (bl_ne h)
  have hW4 := W_le4 (bl s)
  rw [bl_len] at hW
  have hno : W (bl s) = 0 → firstV (bl s) = (65533, 1, false) := fun h0 => by rw [firstV_ne (bl_ne h), h0, cw_0 h0, rune_0 h0]; rfl
  have hyes : ∀ k, 1 ≤ k → W (bl s) = k → firstV (bl s) = (numV (bl s) k, (k : Int), true) := fun k h1 hk => by
    rw [firstV_ne (bl_ne h), numV_rune (bl s) k h1 hk, cw_W (l := bl s) (by omega), hk, decide_eq_true (p := k ≠ 0) (by omega)]
  have HNO := hide hno
  have HYES := hide hyes
  clear hno hyes
  go_enter Tryz.func66, Tryz.ntmps66
  go_wp2
  go_loopw [5] (fun q wr => ∃ k : Nat, 1 ≤ k ∧ k ≤ 5 ∧ q = .int .i64 k ∧ Below w.heap.size w wr ∧ (∀ j, 1 ≤ j → j < k → W (bl s) ≠ j)) (fun q _ => 5 - (intOf q).toNat)
  case atStart => exact ⟨1, by omega, by omega, rfl, Below.refl _ _, fun j h1 h2 => by omega⟩
  case round =>
    obtain ⟨k, hk1, hk5, rfl, hB, hj⟩ := hrel
    have HB := hide hB
    have HJ := hide hj
    clear hB hj
    by_cases h4 : k ≤ 4
    · have h4' : (k : Int) ≤ 4 := by omega
      by_cases hl : k ≤ s.size
      · have hl' : (k : Int) ≤ (s.size : Int) := by omega
        have hnb := numV_bound (bl s) k
        have kn := fun w => number_any s k w hk1 h4 hl hs
        have hok := okB_iff (bl s) k hk1 h4 (by rw [bl_len]; exact hl)
        have km := fun w => may_any (numV (bl s) k) w (by omega) (by omega)
        have hm1 := okB_may (l := bl s) (k := k)
        have hm2 := okB_beg (l := bl s) (k := k)
        have hm3 := okB_all (l := bl s) (k := k)
        have HY := HYES.out k hk1
        have hmz : mayB (numV (bl s) k) = true → 0 ≤ numV (bl s) k ∧ numV (bl s) k ≤ 1114111 := fun h => by have := mayB_iff.1 h; omega
        generalize numV (bl s) k = z at *
        have KN := hide kn
        have KM := hide km
        have HOK := hide hok
        have HYY := hide HY
        clear kn km hok HY
        cases hmay : mayB z with
        | false =>
          have hW' : W (bl s) ≠ k := fun e => by have := HOK.out.2 e; rw [hm1 hmay] at this; cases this
          have HWk := hide hW'
          rw [hmay] at KM
          clear hm1 hm2 hm3 hmz hmay hW'
          go_wp2_with (first | (go_at_call 80; refine (KN.out _).mono ?_; rintro e w1 ⟨rfl, hB1⟩) | (go_at_call 81; refine (KM.out _).mono ?_; rintro e w2 ⟨rfl, rfl⟩))
          go_roundw
          case rel => exact ⟨k + 1, by omega, by omega, by go_num, bseq HB.out hB1, noj HJ.out HWk.out⟩
          case measure => simp [intOf]; omega
        | true =>
          obtain ⟨hz0, hz1⟩ := hmz hmay
          obtain ⟨m, rfl⟩ : ∃ m : Nat, z = (m : Int) := ⟨z.toNat, by omega⟩
          have hm : m ≤ 1114111 := by omega
          rw [Int.toNat_natCast] at hm2 hm3
          have ks := fun w => seq_any m w hm
          have kb : ∀ w a c, SlB w a (seqV m) → Calls Tryz.prog 82 #[.string s, .slice a (seqV m).length c] w fun e w' => e = .returned (.bool (begB (bl s) (seqV m))) ∧ Below w.heap.size w w' := fun w a c h => begins_any' s a c (seqV m) w h hs
          have ksl := fun w => seq_sl m w
          have hlen := seqV_len m
          rw [hmay] at KM
          generalize hq : seqV m = q at *
          have KS := hide ks
          have KB := hide kb
          have KL := hide ksl
          clear ks kb ksl hq
          generalize hqn : q.length = qn at *
          generalize (q.map B8).toArray = Q at *
          have HQ := hide hqn
          clear hqn
          cases hbeg : begB (bl s) q with
          | false =>
            have hW' : W (bl s) ≠ k := fun e => by have := HOK.out.2 e; rw [hm2 hbeg] at this; cases this
            have HWk := hide hW'
            rw [hbeg] at KB
            clear hm1 hm2 hm3 hmz hmay hW' hbeg
            go_wp2_with (first | (go_at_call 80; refine (KN.out _).mono ?_; rintro e w1 ⟨rfl, hB1⟩) | (go_at_call 81; refine (KM.out _).mono ?_; rintro e w2 ⟨rfl, rfl⟩) | (go_at_call 83; refine (KS.out _).mono ?_; rintro e w3 ⟨rfl, rfl⟩) | (go_at_call 82; refine (KB.out _ _ _ (KL.out _)).mono ?_; rintro e w4 ⟨rfl, hB4⟩))
            go_roundw
            case rel => exact ⟨k + 1, by omega, by omega, by go_num, bseq (bseq HB.out hB1) (bseq ((Below.refl _ _).alloc (Nat.le_refl _) _) hB4), noj HJ.out HWk.out⟩
            case measure => simp [intOf]; omega
          | true =>
            have hall := hm3 hmay hbeg
            rw [hbeg] at KB
            by_cases hlk : qn = k
            · have hWk : W (bl s) = k := HOK.out.1 (by rw [hall]; exact decide_eq_true hlk)
              have hlk' : ((qn : Int) == (k : Int)) = true := by simp [hlk]
              have HV := hide (HYY.out hWk)
              clear hm1 hm2 hm3 hmz hmay hbeg hall hlk hWk
              go_wp2_with (first | (go_at_call 80; refine (KN.out _).mono ?_; rintro e w1 ⟨rfl, hB1⟩) | (go_at_call 81; refine (KM.out _).mono ?_; rintro e w2 ⟨rfl, rfl⟩) | (go_at_call 83; refine (KS.out _).mono ?_; rintro e w3 ⟨rfl, rfl⟩) | (go_at_call 82; refine (KB.out _ _ _ (KL.out _)).mono ?_; rintro e w4 ⟨rfl, hB4⟩))
              go_ret3
              exact ⟨ret_three (by rw [HV.out]) (by rw [HV.out]) (by rw [HV.out]), bseq (bseq (bseq HB.out hB1) (bseq ((Below.refl _ _).alloc (Nat.le_refl _) _) hB4)) ((Below.refl _ _).alloc (Nat.le_refl _) _)⟩
            · have hW' : W (bl s) ≠ k := fun e => by have := HOK.out.2 e; rw [hall, decide_eq_false hlk] at this; cases this
              have HWk := hide hW'
              have hlk' : ((qn : Int) == (k : Int)) = false := by simp; omega
              clear hm1 hm2 hm3 hmz hmay hbeg hall hlk hW'
              go_wp2_with (first | (go_at_call 80; refine (KN.out _).mono ?_; rintro e w1 ⟨rfl, hB1⟩) | (go_at_call 81; refine (KM.out _).mono ?_; rintro e w2 ⟨rfl, rfl⟩) | (go_at_call 83; refine (KS.out _).mono ?_; rintro e w3 ⟨rfl, rfl⟩) | (go_at_call 82; refine (KB.out _ _ _ (KL.out _)).mono ?_; rintro e w4 ⟨rfl, hB4⟩))
              go_roundw
              case rel => exact ⟨k + 1, by omega, by omega, by go_num, bseq (bseq (bseq HB.out hB1) (bseq ((Below.refl _ _).alloc (Nat.le_refl _) _) hB4)) ((Below.refl _ _).alloc (Nat.le_refl _) _), noj HJ.out HWk.out⟩
              case measure => simp [intOf]; omega
      · have hl' : (s.size : Int) < (k : Int) := by omega
        have h0 : W (bl s) = 0 := by
          rcases Nat.eq_zero_or_pos (W (bl s)) with g | g
          · exact g
          · exact absurd rfl (HJ.out (W (bl s)) g (by omega))
        have HV := hide (HNO.out h0)
        clear h0
        go_wp2
        go_ret3
        exact ⟨ret_three (by rw [HV.out]) (by rw [HV.out]) (by rw [HV.out]), HB.out⟩
    · have hk : k = 5 := by omega
      subst hk
      have h0 : W (bl s) = 0 := by
        rcases Nat.eq_zero_or_pos (W (bl s)) with g | g
        · exact g
        · exact absurd rfl (HJ.out (W (bl s)) g (by omega))
      have HV := hide (HNO.out h0)
      clear h0
      go_wp2
      go_ret3
      exact ⟨ret_three (by rw [HV.out]) (by rw [HV.out]) (by rw [HV.out]), HB.out⟩

theorem refFirst_any (s : ByteArray) (w : World) (hs : s.size ≤ 9223372036854775807) :
    Calls Tryz.prog 66 #[.string s] w fun e w' => e = .returned (.tuple #[.int .i32 (firstV (bl s)).1, .int .i64 (firstV (bl s)).2.1, .bool (firstV (bl s)).2.2]) ∧ Below w.heap.size w w' := by
  by_cases h : s.size = 0
  · rw [bl_nil h]
    refine (refFirst_none s w h).mono ?_
    rintro e w' ⟨rfl, rfl⟩
    exact ⟨rfl, Below.refl _ _⟩
  · exact refFirst_some s w (by omega) hs
end Go.Proofs.YtffolokaijdbfaaGreatDoor
namespace Go.Proofs.YtffolokaijdbfaaGreatDoor
open Go.RowKit
set_option linter.unusedVariables false

/-- The runes of a text, as numbers. -/
def runesZ (l : List UInt8) : List Int := (Cs 0 l).map (fun e => (e.2.1 : Int))
theorem runesZ_len (l : List UInt8) : (runesZ l).length = (Cs 0 l).length := by unfold runesZ; simp
def R32 (z : Int) : Value := .int .i32 z
theorem Tryz.info32 : (Tryz.prog.info? 21).map (fun i => (i.zero, i.size, i.bytes)) = some (some (.int .i32 0), 1, 4) := by kernel_rfl

/-- What a row of runes of the call's own holds. -/
theorem slu_of_owns {W : World} {base : Nat} {v : Value} {zs : List Int} (h : W.ownsRow base 21 1 v zs.length (zs.map R32)) : ∃ a cap, v = .slice a zs.length cap ∧ SlU W a zs := by
  rcases h.2 with ⟨rfl, h0⟩ | ⟨g, cap, cur, rfl, _, hg, hn, _, hs, hc⟩
  · exact ⟨none, 0, by rw [h0], .inl (List.eq_nil_of_length_eq_zero h0)⟩
  · refine ⟨_, cap, rfl, .inr ⟨g, 0, rfl, (Array.getElem?_eq_some_iff.1 hg).1, fun i x hx => ?_⟩⟩
    have h1 : (zs.map R32)[i]? = some (.int .i32 x) := by rw [List.getElem?_map, hx]; rfl
    have h2 : i < zs.length := (List.getElem?_eq_some_iff.1 hx).1
    rw [← hc, List.getElem?_take, if_pos (by omega)] at h1
    simp only [Nat.zero_add, World.cell?, hg]
    simpa using h1
theorem ownsRow_below {W W' : World} {base : Nat} {e : TypeId} {size : Nat} {v : Value} {k : Nat} {xs : List Value} (h : W.ownsRow base e size v k xs) (hb : Below W.heap.size W W') : W'.ownsRow base e size v k xs := by
  refine ⟨h.1, ?_⟩
  rcases h.2 with h2 | ⟨g, cap, cur, hv, hg, hh, r⟩
  · exact .inl h2
  · exact .inr ⟨g, cap, cur, hv, hg, (hb.block g (Array.getElem?_eq_some_iff.1 hh).1).trans hh, r⟩
theorem ownsRow_iter {w : World} {base : Nat} {e : TypeId} {size : Nat} {v : Value} {n : Nat} {xs : List Value} (h : w.ownsRow base e size v n xs) {k : Nat} {s : ByteArray} {p : Nat} (hk : w.heap[k]? = some (.stringIter s p)) (p' : Nat) : (w.iterAt k s p').ownsRow base e size v n xs := by
  obtain ⟨h1, h2⟩ := h
  refine ⟨h1, ?_⟩
  rcases h2 with h2 | ⟨g, cap, cur, a, b, c, d⟩
  · exact .inl h2
  · refine .inr ⟨g, cap, cur, a, b, ?_, d⟩
    rw [Lib.iterAt_other]
    · exact c
    · intro e
      rw [e, hk] at c
      cases c

theorem next_at' {P : Program} (w : World) (k : Nat) (s : ByteArray) (pos : Nat) (ty : TypeId) (hk : w.heap[k]? = some (.stringIter s pos)) (h : pos < s.size) :
    (Instr.next (.pointer (some ⟨k, 0, none⟩)) true ty).run P w = .ok (.tuple #[.bool true, .int .i64 pos, .int .i32 (rune ((bl s).drop pos) : Nat)]) (w.iterAt k s (pos + cw ((bl s).drop pos))) := by
  rw [Lib.run_next_any_at w k s pos ty hk h, decode_eq s pos h]; rfl

end Go.Proofs.YtffolokaijdbfaaGreatDoor
namespace Go.Proofs.YtffolokaijdbfaaGreatDoor
open Go.RowKit
set_option linter.unusedVariables false

/-- A character's four cells. -/
def rightE (e : Nat × Nat × Nat) : Bool := decide (1 < e.2.2) || decide (e.2.1 ≠ 65533)
def cell4 (e : Nat × Nat × Nat) : List Value := [.int .i64 (e.1 : Int), .int .i32 (e.2.1 : Int), .int .i64 (e.2.2 : Int), .bool (rightE e)]
def cells4 (l : List (Nat × Nat × Nat)) : List Value := l.flatMap cell4
theorem cells4_len (l : List (Nat × Nat × Nat)) : (cells4 l).length = l.length * 4 := by
  induction l with
  | nil => rfl
  | cons e l ih => unfold cells4 at *; rw [List.flatMap_cons, List.length_append, ih]; simp [cell4]; omega
theorem cells4_snoc (l : List (Nat × Nat × Nat)) (e : Nat × Nat × Nat) : cells4 (l ++ [e]) = cells4 l ++ cell4 e := by unfold cells4; simp
theorem cells4_at (l : List (Nat × Nat × Nat)) : ∀ (i : Nat) (e : Nat × Nat × Nat), l[i]? = some e → ∀ j, j < 4 → (cells4 l)[4 * i + j]? = (cell4 e)[j]? := by
  induction l with
  | nil => intro i e h; simp at h
  | cons x l ih =>
    intro i e h j hj
    have hx : cells4 (x :: l) = cell4 x ++ cells4 l := by unfold cells4; rw [List.flatMap_cons]
    rw [hx]
    cases i with
    | zero =>
      simp at h
      subst h
      rw [List.getElem?_append_left (by simp [cell4]; omega)]
      simp
    | succ i =>
      simp at h
      rw [List.getElem?_append_right (by simp [cell4]; omega), ← ih i e h j hj]
      congr 1
      simp [cell4]
      omega

/-- What a slice of characters holds. -/
def SlC (w : World) (a : Option Addr) (cs : List (Nat × Nat × Nat)) : Prop :=
  cs = [] ∨ ∃ b, a = some ⟨b, 0, none⟩ ∧ b < w.heap.size ∧ ∀ (i : Nat) (e : Nat × Nat × Nat), cs[i]? = some e →
    w.cell? ⟨b, i * 4, none⟩ = some (.int .i64 (e.1 : Int)) ∧ w.cell? ⟨b, i * 4 + 1, none⟩ = some (.int .i32 (e.2.1 : Int)) ∧ w.cell? ⟨b, i * 4 + 2, none⟩ = some (.int .i64 (e.2.2 : Int)) ∧ w.cell? ⟨b, i * 4 + 3, none⟩ = some (.bool (rightE e))
theorem SlC.below {w w' : World} {a : Option Addr} {cs : List (Nat × Nat × Nat)} (h : SlC w a cs) (hb : Below w.heap.size w w') : SlC w' a cs := by
  rcases h with h | ⟨b, ha, hl, hs⟩
  · exact .inl h
  · refine .inr ⟨b, ha, Nat.lt_of_lt_of_le hl hb.size, fun i e he => ?_⟩
    obtain ⟨h1, h2, h3, h4⟩ := hs i e he
    exact ⟨(hb.cell (p := ⟨b, i * 4, none⟩) hl).trans h1, (hb.cell (p := ⟨b, i * 4 + 1, none⟩) hl).trans h2, (hb.cell (p := ⟨b, i * 4 + 2, none⟩) hl).trans h3, (hb.cell (p := ⟨b, i * 4 + 3, none⟩) hl).trans h4⟩
theorem slc_of_owns {W : World} {base : Nat} {v : Value} {cs : List (Nat × Nat × Nat)} (h : W.ownsRow base 106 4 v cs.length (cells4 cs)) : ∃ a cap, v = .slice a cs.length cap ∧ SlC W a cs := by
  rcases h.2 with ⟨rfl, h0⟩ | ⟨g, cap, cur, rfl, _, hg, hn, _, hs, hc⟩
  · exact ⟨none, 0, by rw [h0], .inl (List.eq_nil_of_length_eq_zero h0)⟩
  · refine ⟨_, cap, rfl, .inr ⟨g, rfl, (Array.getElem?_eq_some_iff.1 hg).1, fun i e he => ?_⟩⟩
    have hi : i < cs.length := (List.getElem?_eq_some_iff.1 he).1
    have key : ∀ j, j < 4 → W.cell? ⟨g, i * 4 + j, none⟩ = (cell4 e)[j]? := by
      intro j hj
      have h1 := cells4_at cs i e he j hj
      rw [← hc, List.getElem?_take, if_pos (by omega)] at h1
      simp only [World.cell?, hg]
      rw [show i * 4 + j = 4 * i + j by omega]
      simpa using h1
    exact ⟨key 0 (by omega), key 1 (by omega), key 2 (by omega), key 3 (by omega)⟩

theorem Tryz.infoC : (Tryz.prog.info? 106).map (fun i => (i.zero, i.size, i.bytes)) = some (some (.agg #[.int .i64 0, .int .i32 0, .int .i64 0, .bool false]), 4, 32) := by kernel_rfl
theorem cell_four_new (w : World) (a b c d : Value) (t : TypeId) : ∀ j u, [a, b, c, d][j]? = some u → (w.alloc (.cells #[a, b, c, d] t)).cell? ((⟨w.heap.size, 0, none⟩ : Addr).add j) = some u := by
  intro j u hj
  match j, hj with
  | 0, hj => simp at hj; subst hj; simp [Addr.add]
  | 1, hj => simp at hj; subst hj; simp [Addr.add]
  | 2, hj => simp at hj; subst hj; simp [Addr.add]
  | 3, hj => simp at hj; subst hj; simp [Addr.add]
  | j + 4, hj => simp at hj

theorem rightE_at (l : List UInt8) (p : Nat) : rightE (p, rune l, cw l) = decide (W l ≠ 0) := by
  rw [← right_eq]
  unfold rightE
  have := cw_pos l
  rw [Bool.eq_iff_iff]
  simp only [Bool.or_eq_true, Bool.and_eq_true, decide_eq_true_eq]
  constructor
  · rintro (h | h)
    · exact .inl h
    · by_cases h1 : cw l = 1
      · exact .inr ⟨h1, h⟩
      · exact .inl (by omega)
  · rintro (h | h)
    · exact .inl h
    · exact .inr h.2

set_option maxRecDepth 100000 in
set_option maxHeartbeats 1000000 in
theorem chars_any (s : ByteArray) (w : World) (hs : s.size ≤ 1048576) :
    Calls Tryz.prog 49 #[.string s] w fun e w' => ∃ a cap, e = .returned (.slice a (Cs 0 (bl s)).length cap) ∧ SlC w' a (Cs 0 (bl s)) ∧ Below w.heap.size w w' := by
  obtain ⟨i0, hi, hz0, hz1, hz2⟩ := info_parts Tryz.infoC
  go_enter Tryz.func49, Tryz.ntmps49
  go_wp2
  go_loopw [3, 4] (fun v q wr => ∃ pos k : Nat, q = .int .i64 pos ∧ k ≤ pos ∧ pos ≤ s.size ∧ Inv (bl s) pos k ∧ wr.ownsRow w.heap.size 106 4 v k (cells4 ((Cs 0 (bl s)).take k)) ∧ Below w.heap.size w wr) (fun _ q _ => s.size - (intOf q).toNat)
  case atStart => exact ⟨0, 0, rfl, by omega, by omega, Inv.start _, World.ownsRow_nil _ _ _ _, Below.refl _ _⟩
  case round =>
    obtain ⟨pos, k, rfl, hkp, hps, hI, hown, hB⟩ := hrel
    by_cases hlt : pos < s.size
    · have hlt' : (pos : Int) < (s.size : Int) := by omega
      have hfv := firstV_ne (bl_drop_ne hlt)
      have kf := fun w => refFirst_any (s.extract pos s.size) w (by rw [ByteArray.size_extract]; omega)
      rw [bl_from, hfv, ← rightE_at _ pos] at kf
      have hh := hI.here (by rw [bl_len]; exact hlt)
      have hst := hI.step (by rw [bl_len]; exact hlt)
      have h1 := cw_pos ((bl s).drop pos)
      have h2 := cw_len _ (bl_drop_ne hlt)
      rw [List.length_drop, bl_len] at h2
      have h4 := cw_le4 ((bl s).drop pos)
      generalize hr : rune ((bl s).drop pos) = r at *
      generalize hc : cw ((bl s).drop pos) = c at *
      generalize hg : rightE (pos, r, c) = g at *
      have KF := hide kf
      have HH := hide hh
      have HST := hide hst
      have HI := hide hI
      have HB := hide hB
      have HG := hide hg
      clear kf hh hst hI hB hfv hr hc hg
      go_wp2_with (first | (go_at_call 66; refine (KF.out _).mono ?_; rintro e w1 ⟨rfl, hB1⟩) | (at_builtin; refine wpList_append_own _ rfl _ _ 103 rfl w.heap.size 106 i0 (.agg #[.int .i64 0, .int .i32 0, .int .i64 0, .bool false]) 4 32 Tryz.underlying103 hi hz0 hz1 hz2 rfl (by omega) _ _ _ rfl ((ownsRow_below hown hB1).alloc _) ⟨w1.heap.size, 0, none⟩ 1 1 [.int .i64 (pos : Int), .int .i32 (r : Int), .int .i64 (c : Int), .bool g] rfl rfl (cell_four_new _ _ _ _ _ _) (by simp [Value.oneCell']) (by unfold maxLen; omega) (by omega) (by have := HB.out.size; have := hB1.size; simp; omega) ?_; intro v' w2 hown' hgrow _))
      go_roundw
      case rel =>
        refine ⟨pos + c, k + 1, by go_num, by omega, by omega, HST.out, ?_, ?_⟩
        · rw [List.take_add_one, HH.out]
          simp only [Option.toList_some]
          rw [cells4_snoc]
          have e : cell4 (pos, r, c) = [.int .i64 (pos : Int), .int .i32 (r : Int), .int .i64 (c : Int), .bool g] := by unfold cell4; rw [HG.out]
          rw [e]
          exact hown'
        · exact ((bseq HB.out hB1).alloc (bseq HB.out hB1).size _).grown hgrow (by have := HB.out.size; have := hB1.size; simp; omega) (fun j e => (hown.lt j e).1)
      case measure => simp [intOf]; omega
    · have hpp : (s.size : Int) ≤ (pos : Int) := by omega
      have hk := hI.fin (by rw [bl_len]; omega)
      have HK := hide hk
      have HB := hide hB
      have HO := hide hown
      clear hk hB hI hown
      go_wp2
      go_ret
      have h1 := HO.out
      rw [HK.out, List.take_length] at h1
      obtain ⟨a, cap, rfl, hsl⟩ := slc_of_owns h1
      exact ⟨a, cap, rfl, hsl, HB.out⟩

/-- The number of the last one that begins at a place or ahead of it. -/
def lastLe (L : List (Nat × Nat × Nat)) (i : Int) (m : Nat) : Nat := match m with
  | 0 => 0
  | m + 1 => match L[m]? with | some e => if (e.1 : Int) ≤ i then m else lastLe L i m | none => lastLe L i m
theorem lastLe_of (l : List UInt8) (i : Nat) (hi : i < l.length) : (lastLe (Cs 0 l) i (Cs 0 l).length : Int) = (ofN l i : Int) - 1 := by
  obtain ⟨j, ⟨e, he, rfl⟩, h1, h2⟩ := St_cover l i hi
  obtain ⟨k, hk⟩ := List.getElem?_of_mem he
  have hl := Cs_lt hk
  rw [← hl.2.2.2.2.2] at h2
  rw [ofN_at hk h1 h2]
  have hkl := (List.getElem?_eq_some_iff.1 hk).1
  have key : ∀ m, k < m → m ≤ (Cs 0 l).length → lastLe (Cs 0 l) i m = k := by
    intro m
    induction m with
    | zero => intro h; omega
    | succ m ih =>
      intro h hm
      obtain ⟨f, hf⟩ : ∃ f, (Cs 0 l)[m]? = some f := ⟨_, List.getElem?_eq_getElem (by omega)⟩
      unfold lastLe
      rw [hf]
      by_cases hmk : m = k
      · subst hmk
        rw [hk] at hf
        cases hf
        show (if (e.1 : Int) ≤ (i : Int) then m else _) = m
        rw [if_pos (by omega)]
      · have := Cs_two hk hf (by omega)
        show (if (f.1 : Int) ≤ (i : Int) then m else _) = k
        rw [if_neg (by omega)]
        exact ih (by omega) (by omega)
  rw [key _ hkl (Nat.le_refl _)]
  omega

set_option maxHeartbeats 1000000 in
theorem refBegins_any (s : ByteArray) (n : Int) (w : World) (hs : s.size ≤ 1048576) :
    Calls Tryz.prog 23 #[.string s, .int .i64 n] w fun e w' => e = .returned (.bool (beginsV (bl s) n)) ∧ Below w.heap.size w w' := by
  have kc := fun w => chars_any s w hs
  have hcl := Cs_len_le (bl s)
  rw [bl_len] at hcl
  have hv : beginsV (bl s) n = decide ((∃ e ∈ Cs 0 (bl s), (e.1 : Int) = n) ∨ n = (s.size : Int)) := by
    by_cases hb : n < 0 ∨ (s.size : Int) < n
    · rw [(order_out (bl s) n (by rw [bl_len]; exact hb)).2]
      symm
      apply decide_eq_false
      rintro (⟨e, he, h⟩ | h)
      · have := Cs_mem (bl s) 0 e he
        rw [bl_len] at this
        omega
      · omega
    · obtain ⟨k, rfl⟩ : ∃ k : Nat, n = (k : Int) := ⟨n.toNat, by omega⟩
      unfold beginsV
      rw [bl_len, decide_eq_true (by omega : (0 : Int) ≤ (k : Int)), decide_eq_true (by omega : (k : Int) ≤ (s.size : Int)), Int.toNat_natCast]
      rw [Bool.eq_iff_iff]
      simp only [Bool.true_and, Bool.or_eq_true, decide_eq_true_eq]
      constructor
      · rintro (h | h)
        · exact .inr h
        · by_cases hk : k = s.size
          · exact .inr (by omega)
          · obtain ⟨e, he, hh⟩ := (begins_iff (bl s) k (by rw [bl_len]; omega)).1 h
            exact .inl ⟨e, he, by omega⟩
      · rintro (⟨e, he, hh⟩ | h)
        · have hm := Cs_mem (bl s) 0 e he
          rw [bl_len] at hm
          exact .inr ((begins_iff (bl s) k (by rw [bl_len]; omega)).2 ⟨e, he, by omega⟩)
        · exact .inl h
  have hR : beginsV (bl s) n = true ↔ ((∃ e ∈ Cs 0 (bl s), (e.1 : Int) = n) ∨ n = (s.size : Int)) := by rw [hv, decide_eq_true_eq]
  clear hv
  generalize beginsV (bl s) n = R at *
  generalize Cs 0 (bl s) = L at *
  generalize hm : L.length = m at *
  have KC := hide kc
  have HM := hide hm
  have HR := hide hR
  clear kc hm hR
  go_enter Tryz.func23, Tryz.ntmps23
  go_wp2_with (go_at_call 49; refine (KC.out _).mono ?_; rintro e w1 ⟨a, cap, rfl, hsl, hB⟩)
  have HSL := hide hsl
  have HB := hide hB
  clear hsl hB
  go_loop [6] (fun q => ∃ k : Nat, k ≤ m ∧ q = .int .i64 k ∧ (∀ (j : Nat) (e : Nat × Nat × Nat), j < k → L[j]? = some e → (e.1 : Int) ≠ n)) (fun q => m - (intOf q).toNat)
  case atStart => exact ⟨0, by omega, rfl, fun j e h => by omega⟩
  case round =>
    obtain ⟨k, hk, rfl, hj⟩ := hrel
    have HJ := hide hj
    clear hj
    by_cases hlt : k < m
    · have hlt' : (k : Int) < (m : Int) := by omega
      obtain ⟨c, hc⟩ : ∃ c, L[k]? = some c := ⟨_, List.getElem?_eq_getElem (by rw [HM.out]; exact hlt)⟩
      obtain ⟨b, rfl, hcell⟩ : ∃ b, a = some ⟨b, 0, none⟩ ∧ w1.cell? ⟨b, k * 4, none⟩ = some (.int .i64 (c.1 : Int)) := by
        rcases HSL.out with h | ⟨b, ha, _, hh⟩
        · rw [h] at hc; simp at hc
        · exact ⟨b, ha, (hh k c hc).1⟩
      have HC := hide hc
      clear hc
      by_cases hle : (c.1 : Int) = n
      · have hle' : ((c.1 : Int) == n) = true := by simp [hle]
        have HLE := hide hle
        clear hle
        go_wp2
        go_ret
        exact ⟨ret_bool (Eq.symm (HR.out.2 (.inl ⟨c, List.mem_of_getElem? HC.out, HLE.out⟩))), HB.out⟩
      · have hle' : ((c.1 : Int) == n) = false := by simp [hle]
        have HLE := hide hle
        clear hle
        go_wp2
        go_round
        case rel =>
          refine ⟨k + 1, by omega, by go_num, fun j e h1 h2 => ?_⟩
          by_cases hjk : j < k
          · exact HJ.out j e hjk h2
          · have : j = k := by omega
            subst this
            rw [HC.out] at h2
            cases h2
            exact HLE.out
        case measure => simp [intOf]; omega
    · have hkm : k = m := by omega
      subst hkm
      go_wp2
      go_ret
      refine ⟨ret_bool ?_, HB.out⟩
      rw [Bool.eq_iff_iff, HR.out, beq_iff_eq]
      constructor
      · intro h; exact .inr h
      · rintro (⟨e, he, h⟩ | h)
        · obtain ⟨j, hj⟩ := List.getElem?_of_mem he
          exact absurd h (HJ.out j e (by have := (List.getElem?_eq_some_iff.1 hj).1; rw [HM.out] at this; exact this) hj)
        · exact h
end Go.Proofs.YtffolokaijdbfaaGreatDoor
namespace Go.Proofs.YtffolokaijdbfaaGreatDoor
open Go.RowKit Go.Shelf
set_option linter.unusedVariables false
set_option linter.unusedSimpArgs false

theorem extract_same {t s : ByteArray} {q : Nat} (h : q + s.size ≤ t.size) : t.extract q (q + s.size) = s ↔ ∀ x, x < (bl s).length → by' (bl t) (q + x) = by' (bl s) x := by
  have hx : ∀ x, x < s.size → by' ((bl t).drop q |>.take s.size) x = by' (bl t) (q + x) := fun x hx => by
    rw [show by' (((bl t).drop q).take s.size) x = by' ((bl t).drop q) x by unfold by'; rw [List.getElem?_take, if_pos hx], by'_drop]
  constructor
  · intro e x hxl
    rw [bl_len] at hxl
    have k : bl (t.extract q (q + s.size)) = bl s := by rw [e]
    rw [bl_extract, show q + s.size - q = s.size by omega] at k
    rw [← hx x hxl, k]
  · intro hall
    have k : bl (t.extract q (q + s.size)) = bl s := by
      rw [bl_extract, show q + s.size - q = s.size by omega]
      refine List.ext_getElem? fun x => ?_
      by_cases hxl : x < s.size
      · have h1 := hall x (by rw [bl_len]; exact hxl)
        rw [← hx x hxl] at h1
        have l1 : x < (((bl t).drop q).take s.size).length := by rw [List.length_take, List.length_drop, bl_len]; omega
        have l2 : x < (bl s).length := by rw [bl_len]; exact hxl
        unfold by' at h1
        rw [List.getElem?_eq_getElem l1, List.getElem?_eq_getElem l2] at h1 ⊢
        exact congrArg some (UInt8.toNat.inj h1)
      · rw [List.getElem?_eq_none (by rw [List.length_take, List.length_drop, bl_len]; omega), List.getElem?_eq_none (by rw [bl_len]; omega)]
    have : (t.extract q (q + s.size)).data = s.data := by
      apply Array.toList_inj.1
      exact k
    exact ByteArray.ext this
theorem eqBx (a b : ByteArray) : (a.toList == b.toList) = decide (a = b) := by
  rw [Bool.eq_iff_iff, beq_iff_eq, decide_eq_true_eq, ByteArray.toList_eq, ByteArray.toList_eq]
  exact ⟨fun h => ByteArray.ext (Array.toList_inj.1 h), fun h => by rw [h]⟩
set_option maxRecDepth 100000 in
set_option maxHeartbeats 4000000 in
theorem stands_any (t s : ByteArray) (q : Nat) (w : World) (ht : t.size ≤ 1048576) (hs : s.size ≤ 1048576) (hq : q ≤ t.size) :
    Calls Tryz.prog 11 #[.string t, .string s, .int .i64 (q : Int)] w fun e w' => (∃ B, e = .returned (.bool B) ∧ (B = true ↔ Stands (bl t) (bl s) q)) ∧ Below w.heap.size w w' := by
  have hqI : (q : Int) ≤ (t.size : Int) := by omega
  have htI : (t.size : Int) ≤ 1048576 := by omega
  have hsI : (s.size : Int) ≤ 1048576 := by omega
  have kb := fun n W => refBegins_any t n W ht
  have ks := fun n W => refBegins_any s n W hs
  have KB := hide kb
  have KS := hide ks
  clear kb ks
  by_cases hle : q + s.size ≤ t.size
  · have hleI : (q : Int) + (s.size : Int) ≤ (t.size : Int) := by omega
    by_cases he : t.extract q (q + s.size) = s
    · have hh := (extract_same hle).1 he
      have HH := hide hh
      have h1 : ((t.extract q (q + s.size)).toList == s.toList) = true := by rw [eqBx]; exact decide_eq_true he
      clear hh he
      go_enter Tryz.func11, Tryz.ntmps11
      go_wp2_with (fail)
      go_loopw [7] (fun i wr => ∃ k : Nat, i = .int .i64 (k : Int) ∧ k ≤ s.size + 1 ∧ (∀ x, x < k → (beginsV (bl t) ((q + x : Nat) : Int) = beginsV (bl s) (x : Int))) ∧ Below w.heap.size w wr) (fun i _ => s.size + 1 - (intOf i).toNat)
      case atStart => exact ⟨0, rfl, by omega, fun x hx => by omega, Below.refl _ _⟩
      case round =>
        obtain ⟨k, rfl, hk, hall, hB⟩ := hrel
        have HALL := hide hall
        have HB := hide hB
        clear hall hB
        by_cases hlt : k ≤ s.size
        · have hltI : (k : Int) ≤ (s.size : Int) := by omega
          have eqk : (q : Int) + (k : Int) = ((q + k : Nat) : Int) := by push_cast; rfl
          obtain ⟨v1, hv1⟩ : ∃ v, v = beginsV (bl t) ((q + k : Nat) : Int) := ⟨_, rfl⟩
          obtain ⟨v2, hv2⟩ : ∃ v, v = beginsV (bl s) (k : Int) := ⟨_, rfl⟩
          have k1 := fun W => KB.out ((q + k : Nat) : Int) W
          have k2 := fun W => KS.out (k : Int) W
          rw [← hv1, ← eqk] at k1
          rw [← hv2] at k2
          have K1 := hide k1
          have K2 := hide k2
          have HV1 := hide hv1
          have HV2 := hide hv2
          have EQK := hide eqk
          clear k1 k2 hv1 hv2 eqk
          have M1 := hide trivial
          by_cases hvv : v1 = v2
          · subst hvv
            have hn : (v1 != v1) = false := by simp
            go_wp2_with (first
              | (go_at_call 23; clear M1; refine (K1.out _).mono ?_; rintro e x ⟨rfl, hb⟩; replace HB := hide (bseq HB.out hb); clear hb)
              | (go_at_call 23; refine (K2.out _).mono ?_; rintro e x2 ⟨rfl, hb⟩; replace HB := hide (bseq HB.out hb); clear hb))
            all_goals (
              go_roundw
              case rel =>
                refine ⟨k + 1, by go_num, by omega, fun x hx => ?_, HB.out⟩
                by_cases e : x = k
                · subst e; rw [← HV1.out, ← HV2.out]
                · exact HALL.out x (by omega)
              case measure => simp [intOf]; omega)
          · have fin : ¬ Stands (bl t) (bl s) q := fun h => hvv (by
              have h3 := h.2.2 k (by rw [bl_len]; omega)
              rw [← begins_bg (by rw [bl_len]; omega), ← begins_bg (by rw [bl_len]; omega), ← HV1.out, ← HV2.out] at h3
              exact Bool.eq_iff_iff.2 h3)
            have FIN := hide fin
            clear fin HV1 HV2
            cases v1 <;> cases v2
            · exact absurd rfl hvv
            · clear hvv
              go_wp2_with (first
                | (go_at_call 23; clear M1; refine (K1.out _).mono ?_; rintro e x ⟨rfl, hb⟩; replace HB := hide (bseq HB.out hb); clear hb)
                | (go_at_call 23; refine (K2.out _).mono ?_; rintro e x2 ⟨rfl, hb⟩; replace HB := hide (bseq HB.out hb); clear hb))
              go_ret
              exact ⟨⟨false, rfl, ⟨fun h => absurd h (by simp), fun h => absurd h FIN.out⟩⟩, HB.out⟩
            · clear hvv
              go_wp2_with (first
                | (go_at_call 23; clear M1; refine (K1.out _).mono ?_; rintro e x ⟨rfl, hb⟩; replace HB := hide (bseq HB.out hb); clear hb)
                | (go_at_call 23; refine (K2.out _).mono ?_; rintro e x2 ⟨rfl, hb⟩; replace HB := hide (bseq HB.out hb); clear hb))
              go_ret
              exact ⟨⟨false, rfl, ⟨fun h => absurd h (by simp), fun h => absurd h FIN.out⟩⟩, HB.out⟩
            · exact absurd rfl hvv
        · have hge : (s.size : Int) < (k : Int) := by omega
          go_wp2_with (fail)
          go_ret
          refine ⟨⟨true, rfl, ⟨fun _ => ⟨by rw [bl_len, bl_len]; exact hle, HH.out, fun x hx => ?_⟩, fun _ => rfl⟩⟩, HB.out⟩
          rw [bl_len] at hx
          have h3 := HALL.out x (by omega)
          rw [← begins_bg (by rw [bl_len]; omega), ← begins_bg (by rw [bl_len]; omega), h3]
    · have hh : ¬ Stands (bl t) (bl s) q := fun h => he ((extract_same hle).2 h.2.1)
      have HH := hide hh
      have h1 : ((t.extract q (q + s.size)).toList == s.toList) = false := by rw [eqBx]; exact decide_eq_false he
      clear hh he
      go_enter Tryz.func11, Tryz.ntmps11
      go_wp2_with (fail)
      go_ret
      exact ⟨⟨false, rfl, ⟨fun h => absurd h (by simp), fun h => absurd h HH.out⟩⟩, Below.refl _ _⟩
  · have hgt : (t.size : Int) < (q : Int) + (s.size : Int) := by omega
    go_enter Tryz.func11, Tryz.ntmps11
    go_wp2_with (fail)
    go_ret
    exact ⟨⟨false, rfl, ⟨fun h => absurd h (by simp), fun h => absurd h.1 (by rw [bl_len, bl_len]; exact hle)⟩⟩, Below.refl _ _⟩
end Go.Proofs.YtffolokaijdbfaaGreatDoor
namespace Go.Proofs.YtffolokaijdbfaaGreatDoor
open Go.RowKit Go.Extern.Stop Go.Stop Go.Extern
set_option linter.unusedVariables false

theorem As.valueOfPP (t : Addr) (w : World) : (ReflectliteValue.unpack (.iface 53 (.pointer (some t)))).run Tryz.prog w
    = .ok (.agg #[.pointer (some ⟨2, 53, none⟩), .pointer (some ⟨w.heap.size, 0, none⟩), .int .u64 150]) (w.alloc (.cells #[.pointer (some t)] 53)) := by kernel_rfl
theorem As.typePP (a : Addr) (w : World) : (ReflectliteValue.methodAny (ReflectliteValue.valueError "reflectlite.Value.Type" 0) (fun t _ _ _ => ReflectliteType.toType t) #[.agg #[.pointer (some ⟨2, 53, none⟩), .pointer (some a), .int .u64 150]]).run Tryz.prog w
    = .ok (.iface 115 (.agg #[.pointer (some ⟨2, 53, none⟩)])) w := by kernel_rfl
theorem As.mKind (h : Value) (w : World) : (Go.method 271 115 (.agg #[h]) "Kind").run Tryz.prog w = .ok (106, h) w := by kernel_rfl
theorem As.mElem (h : Value) (w : World) : (Go.method 271 115 (.agg #[h]) "Elem").run Tryz.prog w = .ok (119, .agg #[h]) w := by kernel_rfl
theorem As.mImpl (h : Value) (w : World) : (Go.method 271 115 (.agg #[h]) "Implements").run Tryz.prog w = .ok (120, .agg #[h]) w := by kernel_rfl
theorem As.mAsgn (h : Value) (w : World) : (Go.method 271 115 (.agg #[h]) "AssignableTo").run Tryz.prog w = .ok (117, .agg #[h]) w := by kernel_rfl
theorem As.kindPP (w : World) : ((ReflectliteType.abiMethod fun t => (fun a : Nat => Value.int IntKind.u8 (a : Int)) <$> Rtype.kind t) #[.pointer (some ⟨2, 53, none⟩)]).run Tryz.prog w = .ok (.int .u8 22) w := by kernel_rfl
theorem As.kindP (w : World) : ((ReflectliteType.abiMethod fun t => (fun a : Nat => Value.int IntKind.u8 (a : Int)) <$> Rtype.kind t) #[.pointer (some ⟨2, 44, none⟩)]).run Tryz.prog w = .ok (.int .u8 22) w := by kernel_rfl
theorem As.elemPP (w : World) : (ReflectliteType.method ReflectliteType.elem #[.agg #[.pointer (some ⟨2, 53, none⟩)]]).run Tryz.prog w = .ok (.iface 115 (.agg #[.pointer (some ⟨2, 44, none⟩)])) w := by kernel_rfl
theorem As.implP (w : World) : (ReflectliteType.relation "Implements" ReflectliteType.implements_ #[.agg #[.pointer (some ⟨2, 44, none⟩)], .iface 115 (.agg #[.pointer (some ⟨2, 25, none⟩)])]).run Tryz.prog w = .ok (.bool true) w := by kernel_rfl
theorem As.typeOfP (v : Value) (w : World) : (ReflectliteType.typeOf #[.iface 44 v]).run Tryz.prog w = .ok (.iface 115 (.agg #[.pointer (some ⟨2, 44, none⟩)])) w := by kernel_rfl
theorem As.asgnP (w : World) : (ReflectliteType.relation "AssignableTo" ReflectliteType.assignableTo #[.agg #[.pointer (some ⟨2, 44, none⟩)], .iface 115 (.agg #[.pointer (some ⟨2, 44, none⟩)])]).run Tryz.prog w = .ok (.bool true) w := by kernel_rfl
theorem As.valueOfP (e : Addr) (w : World) : (ReflectliteValue.unpack (.iface 44 (.pointer (some e)))).run Tryz.prog w
    = .ok (.agg #[.pointer (some ⟨2, 44, none⟩), .pointer (some ⟨w.heap.size, 0, none⟩), .int .u64 150]) (w.alloc (.cells #[.pointer (some e)] 44)) := by kernel_rfl
theorem As.partsPP (a : Addr) (w : World) : (ReflectliteValue.parts (.agg #[.pointer (some ⟨2, 53, none⟩), .pointer (some a), .int .u64 150])).run Tryz.prog w = .ok (some (53, a, 150)) w := by kernel_rfl
theorem As.partsPa (a : Addr) (w : World) : (ReflectliteValue.parts (.agg #[.pointer (some ⟨2, 44, none⟩), .pointer (some a), .int .u64 406])).run Tryz.prog w = .ok (some (44, a, 406)) w := by kernel_rfl
theorem As.partsP (a : Addr) (w : World) : (ReflectliteValue.parts (.agg #[.pointer (some ⟨2, 44, none⟩), .pointer (some a), .int .u64 150])).run Tryz.prog w = .ok (some (44, a, 150)) w := by kernel_rfl
theorem As.elemOfPP (w : World) : (Rtype.elem? 53).run Tryz.prog w = .ok (some 44) w := by kernel_rfl
theorem As.mkP (p : Addr) (w : World) : (ReflectliteValue.mk 44 p ReflectliteValue.flagAddr).run Tryz.prog w = .ok (.agg #[.pointer (some ⟨2, 44, none⟩), .pointer (some p), .int .u64 406]) w := by kernel_rfl
theorem As.directP (w : World) : (Rtype.directlyAssignable 44 44).run Tryz.prog w = .ok true w := by kernel_rfl
theorem As.via (z : Sem Value) (f : TypeId → Addr → Nat → Nat → Sem Value) (v : Value) : ReflectliteValue.method z f #[v] = (do match ← ReflectliteValue.parts v with | none => z | some (t, a, fl) => f t a fl (fl % 32)) := rfl
theorem As.isNilPP (a p : Addr) (W : World) (ha : W.cell? a = some (.pointer (some p))) :
    (ReflectliteValue.method (ReflectliteValue.valueError "reflectlite.Value.IsNil" 0) ReflectliteValue.isNil #[.agg #[.pointer (some ⟨2, 53, none⟩), .pointer (some a), .int .u64 150]]).run Tryz.prog W = .ok (.bool false) W := by
  rw [As.via]
  simp only [Sem.run_bind, As.partsPP, Result.andThen]
  simp [ReflectliteValue.isNil, loadVar, isAgg, underlying, Tryz.underlying53, ha, Result.andThen]
theorem As.elemVPP (a p : Addr) (W : World) (ha : W.cell? a = some (.pointer (some p))) :
    (ReflectliteValue.method (ReflectliteValue.valueError "reflectlite.Value.Elem" 0) ReflectliteValue.elem #[.agg #[.pointer (some ⟨2, 53, none⟩), .pointer (some a), .int .u64 150]]).run Tryz.prog W
      = .ok (.agg #[.pointer (some ⟨2, 44, none⟩), .pointer (some p), .int .u64 406]) W := by
  rw [As.via]
  simp only [Sem.run_bind, As.partsPP, Result.andThen]
  simp [ReflectliteValue.elem, loadVar, isAgg, underlying, Tryz.underlying53, ha, Result.andThen, As.elemOfPP, As.mkP]
theorem As.setP (ta b e : Addr) (old : Value) (W : World) (hb : W.cell? b = some (.pointer (some e))) (ht : W.cell? ta = some old) (hf : W.frozen? ta = false) :
    (ReflectliteValue.set #[.agg #[.pointer (some ⟨2, 44, none⟩), .pointer (some ta), .int .u64 406], .agg #[.pointer (some ⟨2, 44, none⟩), .pointer (some b), .int .u64 150]]).run Tryz.prog W
      = .ok (.tuple #[]) (W.setCell ta (.pointer (some e))) := by
  suffices h : ∃ k : Option (TypeId × Addr × Nat) → Option (TypeId × Addr × Nat) → Sem Value, (∀ v x, ReflectliteValue.set #[v, x] = (do let p ← ReflectliteValue.parts v; let q ← ReflectliteValue.parts x; k p q)) ∧ (k (some (44, ta, 406)) (some (44, b, 150))).run Tryz.prog W = .ok (.tuple #[]) (W.setCell ta (.pointer (some e))) by
    obtain ⟨k, h1, h2⟩ := h
    rw [h1]
    simp only [Sem.run_bind, As.partsPa, As.partsP, Result.andThen]
    exact h2
  refine ⟨_, fun v x => rfl, ?_⟩
  simp [ReflectliteValue.flagAddr, loadVar, isAgg, underlying, Tryz.underlying44, hb, Result.andThen, As.directP, storeVar, Value.cells, storeCells, Addr.add]
  rw [run_store Tryz.prog W ta _ _ (by rfl)]
  simp [ht, hf]
/-- What the handle of 'error' is in a world. -/
def LaidE (w : World) : Prop := w.cell? ⟨0, 0, none⟩ = some (.iface 115 (.agg #[.pointer (some ⟨2, 25, none⟩)]))
end Go.Proofs.YtffolokaijdbfaaGreatDoor
namespace Go.Proofs.YtffolokaijdbfaaGreatDoor
open Go.RowKit Go.Extern.Stop Go.Stop Go.Extern
set_option linter.unusedVariables false

theorem celS {w : World} {B : Nat} {cs : Array Value} {t : TypeId} (h : w.heap[B]? = some (.cells cs t (0, 0))) (i : Nat) (v : Value) (hv : cs[i]? = some v) : w.cell? ⟨B, i, none⟩ = some v := by
  simp only [World.cell?, h]
  exact hv
theorem frzS {w : World} {B : Nat} {cs : Array Value} {t : TypeId} (h : w.heap[B]? = some (.cells cs t (0, 0))) (i : Nat) : w.frozen? ⟨B, i, none⟩ = false := by
  simp only [World.frozen?, h]
  simp
theorem cell_old {W W' : World} {p : Addr} {v : Value} (h : W.cell? p = some v) (hB : Below W.heap.size W W') : W'.cell? p = some v := (hB.cell (World.block_lt_of_cell? _ _ h)).trans h
theorem LaidE.below {W W' : World} (h : LaidE W) (hB : Below W.heap.size W W') : LaidE W' := cell_old h hB
set_option maxRecDepth 100000 in
set_option maxHeartbeats 4000000 in
/-- errors.As of a fault, at a variable for one. -/
theorem as_hit (e t : Addr) (old : Value) (w : World) (hg : LaidE w) (ht0 : w.cell? t = some old) (hf0 : w.frozen? t = false) :
    Calls Tryz.prog 17 #[.iface 44 (.pointer (some e)), .iface 53 (.pointer (some t))] w fun ev w' => ev = .returned (.bool true) ∧ ∃ W4, Below w.heap.size w W4 ∧ w' = W4.setCell t (.pointer (some e)) := by
  have x1 := @run_callFunc_extern Tryz.prog 36 _ (fun args => ReflectliteValue.unpack (args.getD 0 (.tuple #[]))) Tryz.func36 (by kernel_rfl) (by kernel_rfl) (by kernel_rfl) (by kernel_rfl)
  have x2 := @run_callFunc_extern Tryz.prog 37 _ (ReflectliteValue.methodAny (ReflectliteValue.valueError "reflectlite.Value.Type" 0) (fun t _ _ _ => ReflectliteType.toType t)) Tryz.func37 (by kernel_rfl) (by kernel_rfl) (by kernel_rfl) (by kernel_rfl)
  have x3 := @run_callFunc_extern Tryz.prog 38 _ (ReflectliteValue.method (ReflectliteValue.valueError "reflectlite.Value.IsNil" 0) ReflectliteValue.isNil) Tryz.func38 (by kernel_rfl) (by kernel_rfl) (by kernel_rfl) (by kernel_rfl)
  have x4 := @run_callFunc_extern Tryz.prog 106 _ (ReflectliteType.abiMethod fun t => do pure (.int .u8 (← Rtype.kind t))) Tryz.func106 (by kernel_rfl) (by kernel_rfl) (by kernel_rfl) (by kernel_rfl)
  have x5 := @run_callFunc_extern Tryz.prog 119 _ (ReflectliteType.method ReflectliteType.elem) Tryz.func119 (by kernel_rfl) (by kernel_rfl) (by kernel_rfl) (by kernel_rfl)
  have x6 := @run_callFunc_extern Tryz.prog 120 _ (ReflectliteType.relation "Implements" ReflectliteType.implements_) Tryz.func120 (by kernel_rfl) (by kernel_rfl) (by kernel_rfl) (by kernel_rfl)
  have x7 := @run_callFunc_extern Tryz.prog 60 _ ReflectliteType.typeOf Tryz.func60 (by kernel_rfl) (by kernel_rfl) (by kernel_rfl) (by kernel_rfl)
  have x8 := @run_callFunc_extern Tryz.prog 117 _ (ReflectliteType.relation "AssignableTo" ReflectliteType.assignableTo) Tryz.func117 (by kernel_rfl) (by kernel_rfl) (by kernel_rfl) (by kernel_rfl)
  have x9 := @run_callFunc_extern Tryz.prog 61 _ (ReflectliteValue.method (ReflectliteValue.valueError "reflectlite.Value.Elem" 0) ReflectliteValue.elem) Tryz.func61 (by kernel_rfl) (by kernel_rfl) (by kernel_rfl) (by kernel_rfl)
  have x10 := @run_callFunc_extern Tryz.prog 62 _ ReflectliteValue.set Tryz.func62 (by kernel_rfl) (by kernel_rfl) (by kernel_rfl) (by kernel_rfl)
  have y1 := As.valueOfPP
  have y2 := As.typePP
  have y3 := As.mKind
  have y4 := As.mElem
  have y5 := As.mImpl
  have y6 := As.mAsgn
  have y7 := As.kindPP
  have y8 := As.kindP
  have y9 := As.elemPP
  have y10 := As.implP
  have y11 := As.typeOfP
  have y12 := As.asgnP
  have y13 := As.valueOfP
  have b1 : Below w.heap.size w (w.alloc (.cells #[.pointer (some t)] 53)) := (Below.refl _ w).alloc (Nat.le_refl _) _
  have b2 := b1.alloc b1.size (.cells #[.pointer (some ⟨2, 53, none⟩), .pointer (some ⟨w.heap.size, 0, none⟩), .int .u64 150] 79)
  have b3 := b2.alloc b2.size (.cells #[.pointer (some ⟨2, 53, none⟩), .pointer (some ⟨w.heap.size, 0, none⟩), .int .u64 150] 79)
  have b4 := b3.alloc b3.size (.cells #[.pointer (some e)] 44)
  have n8 := As.isNilPP ⟨w.heap.size, 0, none⟩ t _ (show ((w.alloc (.cells #[.pointer (some t)] 53)).alloc (.cells #[.pointer (some ⟨2, 53, none⟩), .pointer (some ⟨w.heap.size, 0, none⟩), .int .u64 150] 79)).cell? _ = _ by simp)
  have hg2 := cell_old hg b2
  have el := As.elemVPP ⟨w.heap.size, 0, none⟩ t _ (show (((w.alloc (.cells #[.pointer (some t)] 53)).alloc (.cells #[.pointer (some ⟨2, 53, none⟩), .pointer (some ⟨w.heap.size, 0, none⟩), .int .u64 150] 79)).alloc (.cells #[.pointer (some ⟨2, 53, none⟩), .pointer (some ⟨w.heap.size, 0, none⟩), .int .u64 150] 79)).cell? _ = _ by
    rw [World.cell?_alloc_lt _ _ ⟨w.heap.size, 0, none⟩ (by simp; omega)]; simp)
  have htl : t.block < w.heap.size := World.block_lt_of_cell? _ _ ht0
  have st := As.setP t ⟨w.heap.size + 1 + 1 + 1, 0, none⟩ e old _ (show ((((w.alloc (.cells #[.pointer (some t)] 53)).alloc (.cells #[.pointer (some ⟨2, 53, none⟩), .pointer (some ⟨w.heap.size, 0, none⟩), .int .u64 150] 79)).alloc (.cells #[.pointer (some ⟨2, 53, none⟩), .pointer (some ⟨w.heap.size, 0, none⟩), .int .u64 150] 79)).alloc (.cells #[.pointer (some e)] 44)).cell? _ = _ by
      rw [World.cell?_alloc_at _ _ _ _ (by simp)]; rfl) (cell_old ht0 b4)
    (by rw [World.frozen?_alloc_old _ _ t (by simp; omega), World.frozen?_alloc_old _ _ t (by simp; omega), World.frozen?_alloc_old _ _ t (by simp; omega), World.frozen?_alloc_old _ _ t (Nat.ne_of_lt htl)]; exact hf0)
  have B4 := hide b4
  clear b1 b2 b3 b4 htl
  unfold LaidE at hg
  go_enter Tryz.func17, Tryz.ntmps17
  go_wp2
  refine wp_loop_rounds 1 ?_
  rw [rounds_succ]
  go_wp2
  go_ret
  exact ⟨rfl, _, B4.out, rfl⟩
end Go.Proofs.YtffolokaijdbfaaGreatDoor
namespace Go.Proofs.YtffolokaijdbfaaGreatDoor
open Go.RowKit Go.Extern.Stop Go.Stop Go.Extern
set_option linter.unusedVariables false

set_option maxRecDepth 100000 in
set_option maxHeartbeats 4000000 in
theorem fault_some (k : Nat) (c a : Int) (w : World) (hc : c ≠ 0) (hk : w.heap[k]? = some (.cells #[.int .i64 c, .int .i64 a] 46 (0, 0))) (hE : LaidE w) :
    Calls Tryz.prog 6 #[.iface 44 (.pointer (some ⟨k, 0, none⟩))] w fun ev w' => ev = .returned (.tuple #[.int .i64 c, .int .i64 a, .bool true]) ∧ Below w.heap.size w w' := by
  have b0 : Below w.heap.size w (w.alloc (.cells #[.pointer none] 44)) := (Below.refl _ w).alloc (Nat.le_refl _) _
  have h0 : (w.alloc (.cells #[.pointer none] 44)).heap[w.heap.size]? = some (.cells #[.pointer none] 44 (0, 0)) := heap_alloc_new w _
  have ka := as_hit ⟨k, 0, none⟩ ⟨w.heap.size, 0, none⟩ (.pointer none) (w.alloc (.cells #[.pointer none] 44)) (hE.below b0) (celS h0 0 _ rfl) (frzS h0 0)
  have KA := hide ka
  have HK := hide hk
  have B0 := hide b0
  have H0 := hide h0
  have key : ∀ W4, Below (w.alloc (.cells #[.pointer none] 44)).heap.size (w.alloc (.cells #[.pointer none] 44)) W4 → (W4.setCell ⟨w.heap.size, 0, none⟩ (.pointer (some ⟨k, 0, none⟩))).cell? ⟨w.heap.size, 0, none⟩ = some (.pointer (some ⟨k, 0, none⟩)) ∧ (W4.setCell ⟨w.heap.size, 0, none⟩ (.pointer (some ⟨k, 0, none⟩))).cell? ⟨k, 0, none⟩ = some (.int .i64 c) ∧ (W4.setCell ⟨w.heap.size, 0, none⟩ (.pointer (some ⟨k, 0, none⟩))).cell? ⟨k, 1, none⟩ = some (.int .i64 a) ∧ Below w.heap.size w (W4.setCell ⟨w.heap.size, 0, none⟩ (.pointer (some ⟨k, 0, none⟩))) := by
    intro W4 hB
    have hlt : k < w.heap.size := (Array.getElem?_eq_some_iff.1 hk).1
    have r1 : W4.heap[w.heap.size]? = _ := (hB.block _ (Array.getElem?_eq_some_iff.1 h0).1).trans h0
    have r2 := heap_setCell_same W4 w.heap.size 0 _ _ (.pointer (some ⟨k, 0, none⟩)) r1
    have hBw : Below w.heap.size w W4 := bseq b0 hB
    have r3 : W4.heap[k]? = _ := (hBw.block _ hlt).trans hk
    have r4 := (heap_setCell_other W4 ⟨w.heap.size, 0, none⟩ k (.pointer (some ⟨k, 0, none⟩)) (Nat.ne_of_lt hlt)).trans r3
    exact ⟨celS r2 0 _ rfl, celS r4 0 _ rfl, celS r4 1 _ rfl, hBw.setCell (p := ⟨w.heap.size, 0, none⟩) (Nat.le_refl _) _⟩
  have KEY := hide key
  clear ka hk b0 h0 key
  have d3 : (c == 0) = false := by simp [hc]
  go_enter Tryz.func6, Tryz.ntmps6
  go_wp2_with (go_at_call 17; refine (KA.out).mono ?_; rintro ev x ⟨rfl, W4, hB4, rfl⟩; obtain ⟨k1, k2, k3, k4⟩ := KEY.out W4 hB4; have K4 := hide k4; clear k4 hB4)
  try (go_quiet (fail); go_wp2_with (fail))
  go_ret3
  first | exact ⟨rfl, K4.out⟩ | exact ⟨rfl, below_drewN K4.out _⟩
end Go.Proofs.YtffolokaijdbfaaGreatDoor
