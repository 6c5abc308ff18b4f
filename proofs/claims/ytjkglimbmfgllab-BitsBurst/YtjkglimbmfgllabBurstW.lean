/- The road of BitsBurst: for all bytes, every place and every turn it returns true and writes nothing that was there. -/
import Derived.Test.YtjkglimbmfgllabBurstM
import Derived.Test.YtjkglimbmfgllabHelp
import Derived.Test.YtjkglimbmfgllabWorks
import Derived.BigRegion
import Derived.RegionTactic
import Derived.Laws.ShiftsVarLaws
namespace Go.Proofs.Ytjkglimbmfgllab.bitsBurst
open Go.RowKit Go.Proofs.Ytjkglimbmfgllab
set_option linter.unusedVariables false

set_option maxHeartbeats 1000000 in
theorem walk0 (a0 : Option Addr) (cap0 : Nat) (b : List Nat) (p : Int) (t : Nat) (w : World) (h : b.length = 0 ∨ t = 0) :
    Calls Try.prog 4 #[.slice a0 b.length cap0, .int .i64 p, .int .u32 t] w fun e w' => e = .returned (.bool true) ∧ Below w.heap.size w w' := by
  by_cases h1 : b.length = 0
  · have h2 : ((b.length : Int) == 0) = true := by rw [beq_iff_eq]; omega
    clear h
    have H1 := hide h1
    clear h1
    go_enter Try.func4, Try.ntmps4
    go_wp2_with (go_at_call 11; refine (works_any _).mono ?_; rintro e w' ⟨rfl, hB⟩)
    go_ret
    exact ⟨rfl, hB⟩
  · have h2 : ((b.length : Int) == 0) = false := beq_eq_false_iff_ne.2 (by omega)
    have h3 : ((t : Int) == 0) = true := by rw [beq_iff_eq]; omega
    have H1 := hide h1
    have H2 := hide h
    clear h h1
    go_enter Try.func4, Try.ntmps4
    go_wp2_with (go_at_call 11; refine (works_any _).mono ?_; rintro e w' ⟨rfl, hB⟩)
    go_ret
    exact ⟨rfl, hB⟩

theorem rest_lt (p : Int) (m : Nat) (hm : 0 < m) : -(8 * (m : Int)) < p.tmod (8 * m) ∧ p.tmod (8 * m) < 8 * m := by
  have h := Int.natAbs_tmod p (8 * m)
  have h2 := Nat.mod_lt p.natAbs (show 0 < (8 * (m : Int)).natAbs by omega)
  omega

theorem bit_int (t k : Nat) : ((t : Int) / 2 ^ k).tmod 2 = ((t / 2 ^ k % 2 : Nat) : Int) := by
  have e : (t : Int) / 2 ^ k = ((t / 2 ^ k : Nat) : Int) := by rw [Int.natCast_ediv, Int.natCast_pow]; rfl
  rw [e]
  generalize t / 2 ^ k = m
  rw [Int.tmod_eq_emod_of_nonneg (by omega)]
  omega
theorem bit_yes {t k : Nat} (h : t / 2 ^ k % 2 = 1) : (((t : Int) / 2 ^ k).tmod 2 == 1) = true := by rw [bit_int, h]; rfl
theorem bit_no {t k : Nat} (h : ¬ t / 2 ^ k % 2 = 1) : (((t : Int) / 2 ^ k).tmod 2 == 1) = false := by rw [bit_int]; exact beq_eq_false_iff_ne.2 (by omega)

theorem own_flip {W : World} {g i x j : Nat} {c : List Nat} (h : OwnB W g c) (hx : x < 256) (hj : j < 8) :
    OwnB (W.setCell ⟨g, i, none⟩ (.int .u8 (bits BinOp.xor IntKind.u8 (x : Int) (2 ^ j % 256)))).drew g (c.set i (x ^^^ 2 ^ j)) := by
  have hj2 : 2 ^ j < 256 := Nat.lt_of_lt_of_le (Nat.pow_lt_pow_right (by omega) hj) (by decide)
  have e : (2 : Int) ^ j % 256 = ((2 ^ j : Nat) : Int) := by
    have e1 : (2 : Int) ^ j = ((2 ^ j : Nat) : Int) := by rw [Int.natCast_pow]; rfl
    rw [e1]; generalize 2 ^ j = m at *; omega
  rw [e, u8_xor_nat x (2 ^ j) hx hj2]
  exact h.set i _
theorem flip_val {b c : List Nat} {q k t x : Nat} (hc : ∀ z ∈ c, z < 256) (hx : c[(q + k) / 8]? = some x) (hV : leV c = leV b ^^^ (t % 2 ^ k) * 2 ^ q) (hbit : t / 2 ^ k % 2 = 1) :
    leV (c.set ((q + k) / 8) (x ^^^ 2 ^ ((q + k) % 8))) = leV b ^^^ (t % 2 ^ (k + 1)) * 2 ^ q := by
  have hj2 : 2 ^ ((q + k) % 8) < 256 := Nat.lt_of_lt_of_le (Nat.pow_lt_pow_right (by omega) (Nat.mod_lt _ (by omega))) (by decide : 2 ^ 8 ≤ 256)
  rw [leV_flip c _ x _ hc hx hj2, hV, Nat.xor_assoc]
  have e : 2 ^ ((q + k) % 8) * 256 ^ ((q + k) / 8) = 2 ^ (q + k) := by
    rw [show (256 : Nat) = 2 ^ 8 by rfl, ← Nat.pow_mul, ← Nat.pow_add]
    congr 1
    omega
  rw [e, xor_high _ k q (Nat.mod_lt _ (Nat.two_pow_pos k)), turn_step t k, hbit, Nat.one_mul]
theorem keep_val {b c : List Nat} {q k t : Nat} (hV : leV c = leV b ^^^ (t % 2 ^ k) * 2 ^ q) (hbit : ¬ t / 2 ^ k % 2 = 1) : leV c = leV b ^^^ (t % 2 ^ (k + 1)) * 2 ^ q := by
  rw [hV, turn_step t k, show t / 2 ^ k % 2 = 0 by omega, Nat.zero_mul, Nat.add_zero]

theorem flip_lt {c : List Nat} {i x y : Nat} (h : ∀ z ∈ c, z < 256) (hx : x < 256) (hy : y < 256) : ∀ z ∈ c.set i (x ^^^ y), z < 256 := by
  intro z hz
  rcases List.mem_or_eq_of_mem_set hz with h1 | h1
  · exact h z h1
  · rw [h1]; exact Nat.xor_lt_two_pow (n := 8) hx hy

set_option maxHeartbeats 2000000 in
theorem walk_neg (a0 : Option Addr) (cap0 : Nat) (b : List Nat) (p : Int) (t : Nat) (w : World) (hg : Sl w a0 b) (hp1 : -9223372036854775808 ≤ p) (hp2 : p ≤ 9223372036854775807) (ht : t < 4294967296) (hl : b.length ≤ 140737488355328) (h1 : b.length ≠ 0) (h2 : t ≠ 0) (hs : p.tmod (8 * (b.length : Int)) < 0) :
    Calls Try.prog 4 #[.slice a0 b.length cap0, .int .i64 p, .int .u32 t] w fun e w' => e = .returned (.bool true) ∧ Below w.heap.size w w' := by
  have h3 : ((b.length : Int) == 0) = false := beq_eq_false_iff_ne.2 (by omega)
  have h4 : ((t : Int) == 0) = false := beq_eq_false_iff_ne.2 (by omega)
  have h5 : (1 : Int) ≤ 8 * (b.length : Int) := by omega
  obtain ⟨r1, r2⟩ := rest_lt p b.length (by omega)
  have H1 := hide h1
  have H2 := hide h2
  have hbx := hg.lt
  clear h1 h2
  go_enter Try.func4, Try.ntmps4
  go_wp2_with fail
  obtain ⟨q, hq⟩ := Int.eq_ofNat_of_zero_le (show 0 ≤ p.tmod (8 * (b.length : Int)) + 8 * (b.length : Int) by omega)
  have hq8 : q < 8 * b.length := by omega
  have HR : Hid (p.tmod (8 * (b.length : Int)) + 8 * (b.length : Int) = (q : Int)) := hq
  rw [hq]
  refine (copyBytes_any a0 cap0 b w hg hl).mono ?_
  rintro e w1 ⟨rfl, hO1, hB1⟩
  have HO1 := hide hO1
  have HB1 := hide hB1
  have HG := hide hg
  have HBX := hide hbx
  clear hO1 hB1 hg hbx hq
  generalize p.tmod (8 * (b.length : Int)) = r at *
  go_wp2
  go_loopw [8] (fun i wr => ∃ (k : Nat) (c : List Nat), k ≤ 32 ∧ q + k ≤ 8 * b.length ∧ i = .int .i64 k ∧ c.length = b.length ∧ (∀ x ∈ c, x < 256) ∧ OwnB wr w.heap.size c ∧ leV c = leV b ^^^ (t % 2 ^ k) * 2 ^ q ∧ Below w.heap.size w wr) (fun i _ => 32 - (intOf i).toNat)
  case atStart => exact ⟨0, b, by omega, by omega, rfl, rfl, HBX.out, HO1.out, by simp [Nat.mod_one], HB1.out⟩
  case round =>
    obtain ⟨k, c, hk, hqk, rfl, hcl, hcx, hO, hV, hB⟩ := hrel
    have HCL := hide hcl
    have HCX := hide hcx
    have HO := hide hO
    have HV := hide hV
    have HB := hide hB
    clear hcl hcx hO hV hB
    by_cases hgo : k < 32 ∧ q + k < 8 * b.length
    · obtain ⟨hg1, hg2⟩ := hgo
      have hg3 : (q : Int) + (k : Int) < 8 * (b.length : Int) := by omega
      by_cases hbit : t / 2 ^ k % 2 = 1
      · obtain ⟨x, hx⟩ : ∃ x, c[(q + k) / 8]? = some x := ⟨_, List.getElem?_eq_getElem (by rw [HCL.out]; omega)⟩
        have hc := HO.out.cell _ x hx
        have hf := HO.out.frozen ((q + k) / 8)
        have hx8 : x < 256 := HCX.out x (List.mem_of_getElem? hx)
        have HX := hide hx
        have hbt := bit_yes hbit
        have HBIT := hide hbit
        clear hx hbit
        have hto : (((q : Int) + (k : Int)) / 8).toNat = (q + k) / 8 := by omega
        have hi1 : 0 ≤ ((q : Int) + (k : Int)) / 8 := by omega
        have hi2 : ((q : Int) + (k : Int)) / 8 < (b.length : Int) := by omega
        have hi3 : 0 ≤ ((q : Int) + (k : Int)) % 8 := by omega
        have hi4 : ((q : Int) + (k : Int)) % 8 < 8 := by omega
        go_wp2
        go_region
        go_wp2
        go_roundw
        case rel => exact ⟨k + 1, c.set ((q + k) / 8) (x ^^^ 2 ^ ((q + k) % 8)), by omega, by omega, by go_num, by simpa using HCL.out, flip_lt HCX.out hx8 (Nat.lt_of_lt_of_le (Nat.pow_lt_pow_right (by omega) (Nat.mod_lt _ (by omega))) (by decide : 2 ^ 8 ≤ 256)), own_flip HO.out hx8 (Nat.mod_lt _ (by omega)), flip_val HCX.out HX.out HV.out HBIT.out, (HB.out.setCell (Nat.le_refl _) _).drew⟩
        case measure => simp [intOf]; omega
      · have hbt := bit_no hbit
        have HBIT := hide hbit
        clear hbit
        go_wp2
        go_roundw
        case rel => exact ⟨k + 1, c, by omega, by omega, by go_num, HCL.out, HCX.out, HO.out, keep_val HV.out HBIT.out, HB.out⟩
        case measure => simp [intOf]; omega
    · have hS1 : Sl wr a0 b := HG.out.below HB.out
      have hS2 : Sl wr (some ⟨w.heap.size, 0, none⟩) c := HO.out.sl HCX.out
      have ce := eqBytes_any a0 (some ⟨w.heap.size, 0, none⟩) cap0 b.length b c wr hS1 hS2 (by omega)
      rw [HCL.out] at ce
      have hstop : k = 32 ∨ (k < 32 ∧ q + k = 8 * b.length) := by omega
      clear hgo
      by_cases hbc : b = c
      · rw [decide_eq_true hbc] at ce
        have CE := hide ce
        have HBC := hide hbc
        clear ce hbc hS1 hS2
        rcases hstop with rfl | ⟨hk1, hk2⟩
        · go_wp2_with (go_at_call 12; refine (unhide CE).mono ?_; rintro e w2 ⟨rfl, n2, rfl⟩)
          go_ret
          exact ⟨rfl, below_drewN HB.out n2⟩
        · have hk3 : 8 * (b.length : Int) ≤ (q : Int) + (k : Int) := by omega
          have HK2 := hide hk2
          clear hk2
          go_wp2_with (go_at_call 12; refine (unhide CE).mono ?_; rintro e w2 ⟨rfl, n2, rfl⟩)
          go_ret
          exact ⟨rfl, below_drewN HB.out n2⟩
      · rw [decide_eq_false hbc] at ce
        have hT : t % 2 ^ k ≠ 0 := fun h0 => hbc (leV_inj b c HBX.out HCX.out HCL.out (by rw [HV.out, h0]; simp)).symm
        have hne := burst_ne b c (t % 2 ^ k) q HBX.out HCX.out HCL.out (by omega) hT (Nat.lt_of_le_of_lt (Nat.mod_le _ _) ht) HV.out
        have hneb : ((moreV 0 b : Int) != (moreV 0 c : Int)) = true := by rw [bne_iff_ne]; intro h; exact hne (by omega)
        have CE := hide ce
        have HBC := hide hbc
        have HS1 := hide hS1
        have HS2 := hide hS2
        clear ce hbc hS1 hS2 hT hne
        have fin : ∀ n2 : Nat, Calls Try.prog 9 #[.slice a0 b.length cap0] (wr.drewN n2) fun e w' => e = .returned (.slice (some ⟨wr.heap.size, 0, none⟩) b.length b.length) ∧ Sl w' (some ⟨wr.heap.size, 0, none⟩) b ∧ Sl w' (some ⟨w.heap.size, 0, none⟩) c ∧ Below w.heap.size w w' := fun n2 => by
          have hd : Below wr.heap.size wr (wr.drewN n2) := below_drewN (Below.refl _ _) n2
          refine (copyBytes_any a0 cap0 b (wr.drewN n2) (HS1.out.below hd) hl).mono ?_
          rintro e w' ⟨rfl, hO', hB'⟩
          exact ⟨rfl, hO'.sl HBX.out, HS2.out.below (hd.trans hB'), HB.out.trans ((hd.trans hB').mono HB.out.size)⟩
        have FIN := hide fin
        have hcl := HCL.out
        have HCLM : Hid (c.length ≤ maxLen) := hide (by rw [HCL.out]; unfold maxLen; omega)
        have HBLM : Hid (b.length ≤ maxLen) := hide (by unfold maxLen; omega)
        clear fin hcl
        rcases hstop with rfl | ⟨hk1, hk2⟩
        · go_wp2_with (first | (go_at_call 12; refine (unhide CE).mono ?_; rintro e w2 ⟨rfl, n2, rfl⟩) | (go_at_call 9; refine (unhide FIN n2).mono ?_; rintro e w3 ⟨rfl, hs3, hc3, hB3⟩))
          refine (sum_one w3 _ b.length b hs3 HBLM.out).mono ?_
          rintro e w4 ⟨rfl, hB4⟩
          go_wp2_with fail
          have s2 := sum_one w4 _ b.length c (hc3.below hB4) HCLM.out
          rw [HCL.out] at s2
          refine s2.mono ?_
          rintro e w5 ⟨rfl, hB5⟩
          clear s2
          go_wp2_with (go_at_call 11; refine (works_any _).mono ?_; rintro e w6 ⟨rfl, hB6⟩)
          go_ret
          exact ⟨rfl, bseq (bseq (bseq hB3 hB4) hB5) hB6⟩
        · have hk3 : 8 * (b.length : Int) ≤ (q : Int) + (k : Int) := by omega
          have HK2 := hide hk2
          clear hk2
          go_wp2_with (first | (go_at_call 12; refine (unhide CE).mono ?_; rintro e w2 ⟨rfl, n2, rfl⟩) | (go_at_call 9; refine (unhide FIN n2).mono ?_; rintro e w3 ⟨rfl, hs3, hc3, hB3⟩))
          refine (sum_one w3 _ b.length b hs3 HBLM.out).mono ?_
          rintro e w4 ⟨rfl, hB4⟩
          go_wp2_with fail
          have s2 := sum_one w4 _ b.length c (hc3.below hB4) HCLM.out
          rw [HCL.out] at s2
          refine s2.mono ?_
          rintro e w5 ⟨rfl, hB5⟩
          clear s2
          go_wp2_with (go_at_call 11; refine (works_any _).mono ?_; rintro e w6 ⟨rfl, hB6⟩)
          go_ret
          exact ⟨rfl, bseq (bseq (bseq hB3 hB4) hB5) hB6⟩

set_option maxHeartbeats 2000000 in
theorem walk_pos (a0 : Option Addr) (cap0 : Nat) (b : List Nat) (p : Int) (t : Nat) (w : World) (hg : Sl w a0 b) (hp1 : -9223372036854775808 ≤ p) (hp2 : p ≤ 9223372036854775807) (ht : t < 4294967296) (hl : b.length ≤ 140737488355328) (h1 : b.length ≠ 0) (h2 : t ≠ 0) (hs : 0 ≤ p.tmod (8 * (b.length : Int))) :
    Calls Try.prog 4 #[.slice a0 b.length cap0, .int .i64 p, .int .u32 t] w fun e w' => e = .returned (.bool true) ∧ Below w.heap.size w w' := by
  have h3 : ((b.length : Int) == 0) = false := beq_eq_false_iff_ne.2 (by omega)
  have h4 : ((t : Int) == 0) = false := beq_eq_false_iff_ne.2 (by omega)
  have h5 : (1 : Int) ≤ 8 * (b.length : Int) := by omega
  obtain ⟨r1, r2⟩ := rest_lt p b.length (by omega)
  have H1 := hide h1
  have H2 := hide h2
  have hbx := hg.lt
  clear h1 h2
  go_enter Try.func4, Try.ntmps4
  go_wp2_with fail
  obtain ⟨q, hq⟩ := Int.eq_ofNat_of_zero_le (show 0 ≤ p.tmod (8 * (b.length : Int)) by omega)
  have hq8 : q < 8 * b.length := by omega
  have HR : Hid (p.tmod (8 * (b.length : Int)) = (q : Int)) := hq
  rw [hq]
  refine (copyBytes_any a0 cap0 b w hg hl).mono ?_
  rintro e w1 ⟨rfl, hO1, hB1⟩
  have HO1 := hide hO1
  have HB1 := hide hB1
  have HG := hide hg
  have HBX := hide hbx
  clear hO1 hB1 hg hbx hq
  generalize p.tmod (8 * (b.length : Int)) = r at *
  go_wp2
  go_loopw [8] (fun i wr => ∃ (k : Nat) (c : List Nat), k ≤ 32 ∧ q + k ≤ 8 * b.length ∧ i = .int .i64 k ∧ c.length = b.length ∧ (∀ x ∈ c, x < 256) ∧ OwnB wr w.heap.size c ∧ leV c = leV b ^^^ (t % 2 ^ k) * 2 ^ q ∧ Below w.heap.size w wr) (fun i _ => 32 - (intOf i).toNat)
  case atStart => exact ⟨0, b, by omega, by omega, rfl, rfl, HBX.out, HO1.out, by simp [Nat.mod_one], HB1.out⟩
  case round =>
    obtain ⟨k, c, hk, hqk, rfl, hcl, hcx, hO, hV, hB⟩ := hrel
    have HCL := hide hcl
    have HCX := hide hcx
    have HO := hide hO
    have HV := hide hV
    have HB := hide hB
    clear hcl hcx hO hV hB
    by_cases hgo : k < 32 ∧ q + k < 8 * b.length
    · obtain ⟨hg1, hg2⟩ := hgo
      have hg3 : (q : Int) + (k : Int) < 8 * (b.length : Int) := by omega
      by_cases hbit : t / 2 ^ k % 2 = 1
      · obtain ⟨x, hx⟩ : ∃ x, c[(q + k) / 8]? = some x := ⟨_, List.getElem?_eq_getElem (by rw [HCL.out]; omega)⟩
        have hc := HO.out.cell _ x hx
        have hf := HO.out.frozen ((q + k) / 8)
        have hx8 : x < 256 := HCX.out x (List.mem_of_getElem? hx)
        have HX := hide hx
        have hbt := bit_yes hbit
        have HBIT := hide hbit
        clear hx hbit
        have hto : (((q : Int) + (k : Int)) / 8).toNat = (q + k) / 8 := by omega
        have hi1 : 0 ≤ ((q : Int) + (k : Int)) / 8 := by omega
        have hi2 : ((q : Int) + (k : Int)) / 8 < (b.length : Int) := by omega
        have hi3 : 0 ≤ ((q : Int) + (k : Int)) % 8 := by omega
        have hi4 : ((q : Int) + (k : Int)) % 8 < 8 := by omega
        go_wp2
        go_region
        go_wp2
        go_roundw
        case rel => exact ⟨k + 1, c.set ((q + k) / 8) (x ^^^ 2 ^ ((q + k) % 8)), by omega, by omega, by go_num, by simpa using HCL.out, flip_lt HCX.out hx8 (Nat.lt_of_lt_of_le (Nat.pow_lt_pow_right (by omega) (Nat.mod_lt _ (by omega))) (by decide : 2 ^ 8 ≤ 256)), own_flip HO.out hx8 (Nat.mod_lt _ (by omega)), flip_val HCX.out HX.out HV.out HBIT.out, (HB.out.setCell (Nat.le_refl _) _).drew⟩
        case measure => simp [intOf]; omega
      · have hbt := bit_no hbit
        have HBIT := hide hbit
        clear hbit
        go_wp2
        go_roundw
        case rel => exact ⟨k + 1, c, by omega, by omega, by go_num, HCL.out, HCX.out, HO.out, keep_val HV.out HBIT.out, HB.out⟩
        case measure => simp [intOf]; omega
    · have hS1 : Sl wr a0 b := HG.out.below HB.out
      have hS2 : Sl wr (some ⟨w.heap.size, 0, none⟩) c := HO.out.sl HCX.out
      have ce := eqBytes_any a0 (some ⟨w.heap.size, 0, none⟩) cap0 b.length b c wr hS1 hS2 (by omega)
      rw [HCL.out] at ce
      have hstop : k = 32 ∨ (k < 32 ∧ q + k = 8 * b.length) := by omega
      clear hgo
      by_cases hbc : b = c
      · rw [decide_eq_true hbc] at ce
        have CE := hide ce
        have HBC := hide hbc
        clear ce hbc hS1 hS2
        rcases hstop with rfl | ⟨hk1, hk2⟩
        · go_wp2_with (go_at_call 12; refine (unhide CE).mono ?_; rintro e w2 ⟨rfl, n2, rfl⟩)
          go_ret
          exact ⟨rfl, below_drewN HB.out n2⟩
        · have hk3 : 8 * (b.length : Int) ≤ (q : Int) + (k : Int) := by omega
          have HK2 := hide hk2
          clear hk2
          go_wp2_with (go_at_call 12; refine (unhide CE).mono ?_; rintro e w2 ⟨rfl, n2, rfl⟩)
          go_ret
          exact ⟨rfl, below_drewN HB.out n2⟩
      · rw [decide_eq_false hbc] at ce
        have hT : t % 2 ^ k ≠ 0 := fun h0 => hbc (leV_inj b c HBX.out HCX.out HCL.out (by rw [HV.out, h0]; simp)).symm
        have hne := burst_ne b c (t % 2 ^ k) q HBX.out HCX.out HCL.out (by omega) hT (Nat.lt_of_le_of_lt (Nat.mod_le _ _) ht) HV.out
        have hneb : ((moreV 0 b : Int) != (moreV 0 c : Int)) = true := by rw [bne_iff_ne]; intro h; exact hne (by omega)
        have CE := hide ce
        have HBC := hide hbc
        have HS1 := hide hS1
        have HS2 := hide hS2
        clear ce hbc hS1 hS2 hT hne
        have fin : ∀ n2 : Nat, Calls Try.prog 9 #[.slice a0 b.length cap0] (wr.drewN n2) fun e w' => e = .returned (.slice (some ⟨wr.heap.size, 0, none⟩) b.length b.length) ∧ Sl w' (some ⟨wr.heap.size, 0, none⟩) b ∧ Sl w' (some ⟨w.heap.size, 0, none⟩) c ∧ Below w.heap.size w w' := fun n2 => by
          have hd : Below wr.heap.size wr (wr.drewN n2) := below_drewN (Below.refl _ _) n2
          refine (copyBytes_any a0 cap0 b (wr.drewN n2) (HS1.out.below hd) hl).mono ?_
          rintro e w' ⟨rfl, hO', hB'⟩
          exact ⟨rfl, hO'.sl HBX.out, HS2.out.below (hd.trans hB'), HB.out.trans ((hd.trans hB').mono HB.out.size)⟩
        have FIN := hide fin
        have hcl := HCL.out
        have HCLM : Hid (c.length ≤ maxLen) := hide (by rw [HCL.out]; unfold maxLen; omega)
        have HBLM : Hid (b.length ≤ maxLen) := hide (by unfold maxLen; omega)
        clear fin hcl
        rcases hstop with rfl | ⟨hk1, hk2⟩
        · go_wp2_with (first | (go_at_call 12; refine (unhide CE).mono ?_; rintro e w2 ⟨rfl, n2, rfl⟩) | (go_at_call 9; refine (unhide FIN n2).mono ?_; rintro e w3 ⟨rfl, hs3, hc3, hB3⟩))
          refine (sum_one w3 _ b.length b hs3 HBLM.out).mono ?_
          rintro e w4 ⟨rfl, hB4⟩
          go_wp2_with fail
          have s2 := sum_one w4 _ b.length c (hc3.below hB4) HCLM.out
          rw [HCL.out] at s2
          refine s2.mono ?_
          rintro e w5 ⟨rfl, hB5⟩
          clear s2
          go_wp2_with (go_at_call 11; refine (works_any _).mono ?_; rintro e w6 ⟨rfl, hB6⟩)
          go_ret
          exact ⟨rfl, bseq (bseq (bseq hB3 hB4) hB5) hB6⟩
        · have hk3 : 8 * (b.length : Int) ≤ (q : Int) + (k : Int) := by omega
          have HK2 := hide hk2
          clear hk2
          go_wp2_with (first | (go_at_call 12; refine (unhide CE).mono ?_; rintro e w2 ⟨rfl, n2, rfl⟩) | (go_at_call 9; refine (unhide FIN n2).mono ?_; rintro e w3 ⟨rfl, hs3, hc3, hB3⟩))
          refine (sum_one w3 _ b.length b hs3 HBLM.out).mono ?_
          rintro e w4 ⟨rfl, hB4⟩
          go_wp2_with fail
          have s2 := sum_one w4 _ b.length c (hc3.below hB4) HCLM.out
          rw [HCL.out] at s2
          refine s2.mono ?_
          rintro e w5 ⟨rfl, hB5⟩
          clear s2
          go_wp2_with (go_at_call 11; refine (works_any _).mono ?_; rintro e w6 ⟨rfl, hB6⟩)
          go_ret
          exact ⟨rfl, bseq (bseq (bseq hB3 hB4) hB5) hB6⟩

theorem walk (a0 : Option Addr) (cap0 : Nat) (b : List Nat) (p : Int) (t : Nat) (w : World) (hg : Sl w a0 b) (hp1 : -9223372036854775808 ≤ p) (hp2 : p ≤ 9223372036854775807) (ht : t < 4294967296) (hl : b.length ≤ 140737488355328) :
    Calls Try.prog 4 #[.slice a0 b.length cap0, .int .i64 p, .int .u32 t] w fun e w' => e = .returned (.bool true) ∧ Below w.heap.size w w' := by
  by_cases h : b.length = 0 ∨ t = 0
  · exact walk0 a0 cap0 b p t w h
  · by_cases hs : p.tmod (8 * (b.length : Int)) < 0
    · exact walk_neg a0 cap0 b p t w hg hp1 hp2 ht hl (fun e => h (.inl e)) (fun e => h (.inr e)) hs
    · exact walk_pos a0 cap0 b p t w hg hp1 hp2 ht hl (fun e => h (.inl e)) (fun e => h (.inr e)) (by omega)

end Go.Proofs.Ytjkglimbmfgllab.bitsBurst
