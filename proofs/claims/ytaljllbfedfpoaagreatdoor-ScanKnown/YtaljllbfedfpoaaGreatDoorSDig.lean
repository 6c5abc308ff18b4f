/- Package scan: digits of sixteen. -/
import Derived.Test.YtaljllbfedfpoaaGreatDoorSIdx
import Derived.Test.YtaljllbfedfpoaaGreatDoorSRd
import Derived.Deep.DeepCutAuto
namespace Go.Proofs.YtaljllbfedfpoaaGreatDoor
open Go.RowKit Go.Shelf
set_option linter.unusedVariables false

def sixteenL : List UInt8 := [48, 49, 50, 51, 52, 53, 54, 55, 56, 57, 97, 98, 99, 100, 101, 102]
def hexV (b : UInt8) : Int := Lib.indexByte sixteenL b
theorem hexV_bd (b : UInt8) : -1 ≤ hexV b ∧ hexV b ≤ 15 := by
  have h : ∀ c : Fin 256, -1 ≤ Lib.indexByte sixteenL (c.val.toUInt8) ∧ Lib.indexByte sixteenL (c.val.toUInt8) ≤ 15 := by decide +kernel
  have := h ⟨b.toNat, UInt8.toNat_lt _⟩
  have e : (b.toNat).toUInt8 = b := UInt8.ofNat_toNat
  simp only [e] at this
  exact this
theorem or16 (a v : Nat) (ha : a < 16777216) (hv : v ≤ 15) : bits BinOp.or IntKind.i32 ((a : Int) * 16) (v : Int) = ((16 * a + v : Nat) : Int) := by
  have h : bits BinOp.or IntKind.i32 ((a : Int) * 16) (v : Int) = (a : Int) * 16 + (v : Int) := bits_join .i32 31 (by decide) wraps_i32 4 ((a : Int) * 16) (v : Int) (by omega) (by omega) (by omega) (by omega) (by omega) (by omega)
  rw [h]; push_cast; omega
/-- Digits, at most so many: what they say, and how many there are. -/
def dgF : Nat → Nat → List UInt8 → Nat × Nat
  | 0, a, _ => (a, 0)
  | _ + 1, a, [] => (a, 0)
  | m + 1, a, b :: t => if 0 ≤ hexV b then ((dgF m (16 * a + (hexV b).toNat) t).1, (dgF m (16 * a + (hexV b).toNat) t).2 + 1) else (a, 0)
theorem index_any (s : ByteArray) (c : Nat) (w : World) : Calls Tryz.prog 95 #[.string s, .int .u8 (c : Int)] w fun e w' => e = .returned (.int .i64 (Lib.indexByte s.data.toList c.toUInt8)) ∧ w' = w := Any.strings_IndexByte lay_Lays_137 s (c : Int) w
theorem valid_any (r : Int) (w : World) : Calls Tryz.prog 76 #[.int .i32 r] w fun e w' => e = .returned (.bool (Lib.validRune r)) ∧ w' = w := Any.utf8_ValidRune lay_Lays_119 r w

set_option maxHeartbeats 2000000 in
theorem digits_any (b : Nat) (s : ByteArray) (p least most : Nat) (w : World) (h : Rd w b s p) (hp : p ≤ s.size) (hs : s.size ≤ 140737488355328) (hm : most ≤ 6) (hl : least ≤ 6) :
    Calls Tryz.prog 75 #[.pointer (some ⟨b, 0, none⟩), .int .i64 (least : Int), .int .i64 (most : Int)] w fun e w' => e = .returned (.tuple #[.int .i32 ((dgF most 0 ((bl s).drop p)).1 : Int), .bool (decide (least ≤ (dgF most 0 ((bl s).drop p)).2))]) ∧ Rd w' b s (p + (dgF most 0 ((bl s).drop p)).2) ∧ w.grownBy w' (some b) := by
  have kd := done_any b s
  have HH := hide h
  have KD := hide kd
  obtain ⟨R, hR⟩ : ∃ R, dgF most 0 ((bl s).drop p) = R := ⟨_, rfl⟩
  rw [hR]
  have HR := hide hR
  clear kd h hR
  go_enter Tryz.func75, Tryz.ntmps75
  go_wp2_with (fail)
  go_loopw [8, 9] (fun c n wr => ∃ a k : Nat, c = .int .i32 (a : Int) ∧ n = .int .i64 (k : Int) ∧ k ≤ most ∧ p + k ≤ s.size ∧ a < 16 ^ k ∧ ((dgF (most - k) a ((bl s).drop (p + k))).1 = R.1 ∧ (dgF (most - k) a ((bl s).drop (p + k))).2 + k = R.2) ∧ Rd wr b s (p + k) ∧ w.grownBy wr (some b)) (fun _ n _ => most - (intOf n).toNat)
  case atStart => exact ⟨0, 0, rfl, rfl, by omega, hp, by decide, ⟨by rw [Nat.sub_zero, Nat.add_zero, HR.out], by rw [Nat.sub_zero, Nat.add_zero, Nat.add_zero, HR.out]⟩, HH.out, grown_drewN w 0 _⟩
  case round =>
    obtain ⟨a, k, rfl, rfl, hk, hpk, ha, ⟨hd1, hd2⟩, hRd, hgr⟩ := hrel
    obtain ⟨q, hq⟩ : ∃ q, p + k = q := ⟨_, rfl⟩
    rw [hq] at hpk hd1 hd2 hRd
    have HQ := hide hq
    have c0 := hRd.text
    have c1 := hRd.at
    have cf := hRd.frz
    have HRD := hide hRd
    have HGR := hide hgr
    have hkd := KD.out q
    have KDD := hide hkd
    have hqI : (q : Int) ≤ 140737488355328 := by omega
    have ha2 : a < 16777216 := Nat.lt_of_lt_of_le ha (Nat.le_trans (Nat.pow_le_pow_right (by omega) (show k ≤ 6 by omega)) (by decide))
    clear hRd hgr hkd hq
    by_cases hkm : k < most
    · have hkI : (k : Int) < (most : Int) := by omega
      obtain ⟨m, hmm⟩ : ∃ m, most - k = m + 1 := ⟨most - k - 1, by omega⟩
      rw [hmm] at hd1 hd2
      by_cases hlt : q < s.size
      · have hdn : decide (q = s.size) = false := decide_eq_false (by omega)
        have hltI : (q : Int) < (s.size : Int) := by omega
        have hlb : q < (bl s).length := by rw [bl_len]; exact hlt
        have hge : (bl s)[q] = s[q]'hlt := by
          have h1 := by'_get s q hlt
          have h2 : by' (bl s) q = ((bl s)[q]).toNat := by unfold by'; rw [List.getElem?_eq_getElem hlb]; rfl
          have h3 : ((bl s)[q]).toNat = (s[q]'hlt).toNat := by rw [← h2]; exact h1
          exact UInt8.toNat_inj.1 h3
        rw [List.drop_eq_getElem_cons hlb] at hd1 hd2
        simp only [dgF] at hd1 hd2
        rw [hge] at hd1 hd2
        have ki := fun w' => index_any ⟨#[48, 49, 50, 51, 52, 53, 54, 55, 56, 57, 97, 98, 99, 100, 101, 102]⟩ (s[q]'hlt).toNat w'
        have e1 : Lib.indexByte (⟨#[48, 49, 50, 51, 52, 53, 54, 55, 56, 57, 97, 98, 99, 100, 101, 102]⟩ : ByteArray).data.toList ((s[q]'hlt).toNat.toUInt8) = hexV (s[q]'hlt) := by
          rw [show ((s[q]'hlt).toNat).toUInt8 = s[q]'hlt from UInt8.ofNat_toNat]; rfl
        rw [e1] at ki
        obtain ⟨hb1, hb2⟩ := hexV_bd (s[q]'hlt)
        have KI := hide ki
        clear ki e1 hge
        generalize hexV (s[q]'hlt) = hv at *
        by_cases hneg : hv < 0
        · rw [if_neg (by omega)] at hd1 hd2
          have HD := hide (And.intro hd1 hd2)
          clear hd1 hd2
          go_upto_region 4 with (first | (go_at_call 28; refine (KDD.out _ HRD.out hpk).mono ?_; rintro e w1 ⟨rfl, n1, rfl⟩))
          have d0 : (wr.drewN n1).cell? ⟨b, 0, none⟩ = some (.string s) := c0
          have d1 : (wr.drewN n1).cell? ⟨b, 1, none⟩ = some (.int .i64 (q : Int)) := c1
          have df : (wr.drewN n1).frozen? ⟨b, 1, none⟩ = false := cf
          have HRD1 := hide (HRD.out.drewN n1)
          have HGR1 := hide (grown_trans HGR.out (grown_drewN wr n1 _))
          generalize wr.drewN n1 = W1 at *
          clear c0 c1 cf
          go_quiet ((go_at_call 95; refine Calls.quiet_of_same (KI.out _)))
          go_wp2_with (fail)
          go_ret2
          obtain ⟨e1, e2⟩ := HD.out
          refine ⟨?_, ?_, grown_trans HGR1.out (grown_drewN W1 nq _)⟩
          · rw [← e1, ← e2, Nat.zero_add]; rfl
          · rw [← e2, Nat.zero_add, HQ.out]; exact HRD1.out.drewN nq
        · obtain ⟨hn, rfl⟩ : ∃ hn : Nat, hv = (hn : Int) := ⟨hv.toNat, by omega⟩
          have h0 : (0 : Int) ≤ (hn : Int) := by omega
          rw [if_pos h0, Int.toNat_natCast] at hd1 hd2
          have HD := hide (And.intro hd1 hd2)
          clear hd1 hd2 hneg
          go_upto_region 4 with (first | (go_at_call 28; refine (KDD.out _ HRD.out hpk).mono ?_; rintro e w1 ⟨rfl, n1, rfl⟩))
          have d0 : (wr.drewN n1).cell? ⟨b, 0, none⟩ = some (.string s) := c0
          have d1 : (wr.drewN n1).cell? ⟨b, 1, none⟩ = some (.int .i64 (q : Int)) := c1
          have df : (wr.drewN n1).frozen? ⟨b, 1, none⟩ = false := cf
          have HRD1 := hide (HRD.out.drewN n1)
          have HGR1 := hide (grown_trans HGR.out (grown_drewN wr n1 _))
          generalize wr.drewN n1 = W1 at *
          clear c0 c1 cf
          go_quiet ((go_at_call 95; refine Calls.quiet_of_same (KI.out _)))
          have hor := or16 a hn (by omega) (by omega)
          go_wp2_with (fail)
          go_roundw
          case rel =>
            obtain ⟨e1, e2⟩ := HD.out
            have hqq := HQ.out
            refine ⟨16 * a + hn, k + 1, by first | rfl | (push_cast; rfl), by go_num, by omega, by omega, ?_, ⟨?_, ?_⟩, ?_, grown_trans (grown_trans HGR1.out (grown_drewN W1 nq _)) (grown_set _ _ _ _)⟩
            · have : 16 ^ (k + 1) = 16 * 16 ^ k := by rw [Nat.pow_succ, Nat.mul_comm]
              omega
            · rw [show most - (k + 1) = m by omega, show p + (k + 1) = q + 1 by omega]; exact e1
            · rw [show most - (k + 1) = m by omega, show p + (k + 1) = q + 1 by omega]; omega
            · rw [show p + (k + 1) = q + 1 by omega]
              have := (HRD1.out.drewN nq).set (q + 1)
              simpa using this
          case measure => simp [intOf]; omega
      · have hdn : decide (q = s.size) = true := decide_eq_true (by omega)
        have hdr : (bl s).drop q = [] := List.drop_eq_nil_of_le (by rw [bl_len]; omega)
        rw [hdr] at hd1 hd2
        simp only [dgF] at hd1 hd2
        have HD := hide (And.intro hd1 hd2)
        clear hd1 hd2 hdr
        go_wp2_with (first | (go_at_call 28; refine (KDD.out _ HRD.out hpk).mono ?_; rintro e w1 ⟨rfl, n1, rfl⟩))
        go_ret2
        obtain ⟨e1, e2⟩ := HD.out
        refine ⟨?_, ?_, grown_trans HGR.out (grown_drewN wr n1 _)⟩
        · rw [← e1, ← e2, Nat.zero_add]; rfl
        · rw [← e2, Nat.zero_add, HQ.out]; exact HRD.out.drewN n1
    · have hkI : (most : Int) ≤ (k : Int) := by omega
      rw [show most - k = 0 by omega] at hd1 hd2
      simp only [dgF] at hd1 hd2
      have HD := hide (And.intro hd1 hd2)
      clear hd1 hd2
      go_wp2_with (fail)
      go_ret2
      obtain ⟨e1, e2⟩ := HD.out
      refine ⟨?_, ?_, HGR.out⟩
      · rw [← e1, ← e2, Nat.zero_add]; rfl
      · rw [← e2, Nat.zero_add, HQ.out]; exact HRD.out
end Go.Proofs.YtaljllbfedfpoaaGreatDoor
