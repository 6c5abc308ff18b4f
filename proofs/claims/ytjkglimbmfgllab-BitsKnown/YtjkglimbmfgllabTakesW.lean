/- The road of BitsTakes: it returns true for all bytes at every place and writes nothing that was there. -/
import Derived.Test.YtjkglimbmfgllabDisp
import Derived.Test.YtjkglimbmfgllabWorks
namespace Go.Proofs.Ytjkglimbmfgllab.bitsTakes
open Go.RowKit Go.Proofs.Ytjkglimbmfgllab
set_option linter.unusedVariables false

theorem refTake_bad (a : Option Addr) (len cap n : Nat) (p : Int) (w : World) (hl : len ≤ maxLen) (hn : n ≤ 8) (hp : p ≤ 9223372036854775807) (h : p < 0 ∨ (len : Int) - n < p) :
    Calls Try.prog 29 #[.slice a len cap, .int .i64 p, .int .i64 n] w fun e w' => e = .returned (.tuple #[.int .u64 0, .int .i64 6]) ∧ w' = w := by
  unfold maxLen at hl
  by_cases h1 : p < 0
  · clear h
    go_enter Try.func29, Try.ntmps29
    go_wp2
    go_ret2
    exact ⟨rfl, rfl⟩
  · by_cases h2 : (len : Int) < p
    · have h3 : 0 ≤ p := by omega
      clear h
      go_enter Try.func29, Try.ntmps29
      go_wp2
      go_ret2
      exact ⟨rfl, rfl⟩
    · have h3 : 0 ≤ p := by omega
      have h4 : p ≤ (len : Int) := by omega
      have h5 : (len : Int) - p < (n : Int) := by omega
      clear h
      go_enter Try.func29, Try.ntmps29
      go_wp2
      go_ret2
      exact ⟨rfl, rfl⟩

theorem add_eq (V x : Nat) (hV : V < 72057594037927936) (hx : x < 256) : IntKind.u64.wrap (IntKind.u64.wrap ((V : Int) * 256) + (x : Int)) = ((V * 256 + x : Nat) : Int) := by
  rw [IntKind.wrap_u64, IntKind.wrap_u64]
  omega

set_option maxHeartbeats 400000 in
theorem refTake_good (a : Option Addr) (cap p n : Nat) (bs : List Nat) (w : World) (hg : Sl w a bs) (hl : bs.length ≤ maxLen) (hn1 : 1 ≤ n) (hn : n ≤ 8) (h : p + n ≤ bs.length) :
    Calls Try.prog 29 #[.slice a bs.length cap, .int .i64 p, .int .i64 n] w fun e w' => e = .returned (.tuple #[.int .u64 (leV ((bs.drop p).take n)), .int .i64 0]) ∧ w' = w := by
  unfold maxLen at hl
  obtain ⟨b, off, rfl, _, hseg⟩ : ∃ b off, a = some ⟨b, off, none⟩ ∧ b < w.heap.size ∧ Seg w b off bs := by
    rcases hg with rfl | hh
    · simp at h; omega
    · exact hh
  have hp : (p : Int) + n ≤ bs.length := by omega
  have hp2 : (p : Int) ≤ bs.length := by omega
  have hp3 : (n : Int) ≤ (bs.length : Int) - p := by omega
  go_enter Try.func29, Try.ntmps29
  go_wp2
  go_loop [8, 9] (fun v i => ∃ k V : Nat, k ≤ n ∧ i = .int .i64 ((n : Int) - 1 - k) ∧ v = .int .u64 V ∧ V < 256 ^ k ∧ V = leV ((bs.drop (p + n - k)).take k)) (fun _ i => (intOf i + 1).toNat)
  case atStart => exact ⟨0, 0, by omega, int_congr' (by omega), rfl, by omega, by simp [leV]⟩
  case round =>
    obtain ⟨k, V, hk, rfl, rfl, hV, hVk⟩ := hrel
    have HV : Hid (V = leV ((bs.drop (p + n - k)).take k)) := hVk
    have HW : Hid (V < 256 ^ k) := hV
    clear hVk hV
    by_cases hlt : k < n
    · obtain ⟨x, hx⟩ : ∃ x, bs[p + (n - 1 - k)]? = some x := ⟨_, List.getElem?_eq_getElem (by omega)⟩
      obtain ⟨hc, hx2⟩ := hseg _ x hx
      have HX : Hid (bs[p + (n - 1 - k)]? = some x) := hx
      clear hx
      have hi : ((n : Int) - 1 - k) = ((n - 1 - k : Nat) : Int) := by omega
      rw [hi]
      clear hi
      have hlt2 : (p : Int) + ((n - 1 - k : Nat) : Int) < bs.length := by omega
      have HQ : Hid (n - 1 - k + k + 1 = n) := show _ = _ by omega
      have hb := pow_bound V k n HW.out hlt hn
      have ha := add_eq V x hb hx2
      generalize n - 1 - k = q at *
      have hto : ((p : Int) + (q : Int)).toNat = p + q := by omega
      go_wp2
      go_round
      case rel =>
        have hq := HQ.out
        have hw := HW.out
        refine ⟨k + 1, V * 256 + x, by omega, int_congr' (by omega), int_congr' ?_, ?_, ?_⟩
        · first | exact ha | omega
        · rw [Nat.pow_succ]; omega
        · rw [show p + n - (k + 1) = p + q by omega, leV_step bs (p + q) k x HX.out, HV.out, show p + n - k = p + q + 1 by omega]
      case measure => simp [intOf]
    · have hk2 : k = n := by omega
      have HK : Hid (k = n) := hk2
      have hi : ((n : Int) - 1 - k) = -1 := by omega
      rw [hi]
      clear hi hk2
      go_wp2
      go_ret2
      have hk2 := HK.out
      subst hk2
      have hv := HV.out
      rw [Nat.add_sub_cancel] at hv
      refine ⟨ret_two ?_, rfl⟩
      rw [← hv]

theorem refTake_any (a : Option Addr) (cap : Nat) (bs : List Nat) (p : Int) (n : Nat) (w : World) (hg : Sl w a bs) (hl : bs.length ≤ maxLen) (hn1 : 1 ≤ n) (hn : n ≤ 8) (hp : p ≤ 9223372036854775807) :
    Calls Try.prog 29 #[.slice a bs.length cap, .int .i64 p, .int .i64 n] w fun e w' => e = .returned (.tuple #[.int .u64 (takeV bs p n).1, .int .i64 (takeV bs p n).2]) ∧ w' = w := by
  unfold takeV
  by_cases h1 : p < 0 ∨ (bs.length : Int) - n < p
  · rw [if_pos h1]; exact refTake_bad a bs.length cap n p w hl hn hp h1
  · rw [if_neg h1]
    obtain ⟨q, rfl⟩ := Int.eq_ofNat_of_zero_le (show 0 ≤ p by omega)
    exact refTake_good a cap q n bs w hg hl hn1 hn (by omega)

theorem xor_lt8 (x y : Nat) (hx : x < 256) (hy : y < 256) : x ^^^ y < 256 := Nat.xor_lt_two_pow (n := 8) hx hy
theorem set_lt {l : List Nat} (h : ∀ x ∈ l, x < 256) {y : Nat} (k : Nat) (hy : y < 256) : ∀ x ∈ l.set k y, x < 256 := by
  intro x hx
  rcases List.mem_or_eq_of_mem_set hx with h1 | h1
  · exact h x h1
  · omega
theorem own_xor {W : World} {g k x : Nat} {c m : List Nat} (h : OwnB W g (c ++ m)) (hk : k < c.length) (hx : x < 256) :
    OwnB (W.setCell ⟨g, k, none⟩ (.int .u8 (bits BinOp.xor IntKind.u8 (x : Int) (((k : Int) + 1) % 256)))) g (c.set k (x ^^^ (k + 1) % 256) ++ m) := by
  have e : ((k : Int) + 1) % 256 = (((k + 1) % 256 : Nat) : Int) := by omega
  rw [e, u8_xor_nat x ((k + 1) % 256) hx (by omega), ← List.set_append_left _ _ hk]
  exact h.set k _

set_option maxHeartbeats 1000000 in
theorem walk (a0 : Option Addr) (cap0 : Nat) (bs : List Nat) (p : Int) (w : World) (hg : Sl w a0 bs) (hl : bs.length ≤ 140737488355328) (hp1 : -9223372036854775808 ≤ p) (hp2 : p ≤ 9223372036854775807) :
    Calls Try.prog 19 #[.slice a0 bs.length cap0, .int .i64 p] w fun e w' => e = .returned (.bool true) ∧ Below w.heap.size w w' := by
  have hlm : bs.length ≤ maxLen := by unfold maxLen; omega
  have hx0 := hg.lt
  go_enter Try.func19, Try.ntmps19
  go_wp2_with (go_at_call 27; refine (spare_any a0 cap0 bs w hg hl).mono ?_; rintro e w1 ⟨rfl, hO1, hB1⟩)
  go_loopw [6] (fun i wr => ∃ (t : Nat) (cur : List Nat), t ≤ 2 ∧ i = .int .i64 t ∧ cur.length = bs.length ∧ (∀ x ∈ cur, x < 256) ∧ OwnB wr w.heap.size (cur ++ marks bs.length) ∧ Below w.heap.size w wr ∧ (t = 0 → cur = bs)) (fun i _ => 2 - (intOf i).toNat)
  case atStart => exact ⟨0, bs, by omega, rfl, rfl, hx0, hO1, hB1, fun _ => rfl⟩
  case round =>
    clear hO1 hB1
    obtain ⟨t, cur, ht, rfl, hcl, hcx, hO, hB, h0⟩ := hrel
    have HCL := hide hcl
    have HCX := hide hcx
    have HO := hide hO
    have HB := hide hB
    have H0 := hide h0
    have HG := hide hg
    have HX0 := hide hx0
    clear hcl hcx hO hB h0 hg hx0
    by_cases hlt : t < 2
    · have cc := copyBytes_any (some ⟨w.heap.size, 0, none⟩) (bs.length + 80) cur wr (HO.out.head HCX.out) (by rw [HCL.out]; exact hl)
      rw [HCL.out] at cc
      have CC := hide cc
      clear cc
      go_wp2_with (go_at_call 9; refine (unhide CC).mono ?_; rintro e w2 ⟨rfl, hO2, hB2⟩)
      have hO2w : OwnB w2 w.heap.size (cur ++ marks bs.length) := HO.out.below hB2 HO.out.lt
      have hs1 : Sl w2 (some ⟨w.heap.size, 0, none⟩) cur := hO2w.head HCX.out
      have hs2 : Sl w2 (some ⟨wr.heap.size, 0, none⟩) cur := hO2.sl HCX.out
      have hBw : Below w.heap.size w w2 := bseq HB.out hB2
      have hcm : cur.length ≤ maxLen := by rw [HCL.out]; exact hlm
      have tk1 := takeD1 _ (bs.length + 80) cur p w2 hs1 hcm
      have tk2 := takeD2 _ (bs.length + 80) cur p w2 hs1 hcm
      have tk4 := takeD4 _ (bs.length + 80) cur p w2 hs1 hcm
      have tk8 := takeD8 _ (bs.length + 80) cur p w2 hs1 hcm
      have rt1 := refTake_any _ bs.length cur p 1 w2 hs2 hcm (by omega) (by omega) hp2
      have rt2 := refTake_any _ bs.length cur p 2 w2 hs2 hcm (by omega) (by omega) hp2
      have rt4 := refTake_any _ bs.length cur p 4 w2 hs2 hcm (by omega) (by omega) hp2
      have rt8 := refTake_any _ bs.length cur p 8 w2 hs2 hcm (by omega) (by omega) hp2
      rw [HCL.out] at tk1 tk2 tk4 tk8 rt1 rt2 rt4 rt8
      generalize takeV cur p 1 = v1 at tk1 rt1
      generalize takeV cur p 2 = v2 at tk2 rt2
      generalize takeV cur p 4 = v4 at tk4 rt4
      generalize takeV cur p 8 = v8 at tk8 rt8
      have T1 := hide tk1
      have T2 := hide tk2
      have T4 := hide tk4
      have T8 := hide tk8
      have R1 := hide rt1
      have R2 := hide rt2
      have R4 := hide rt4
      have R8 := hide rt8
      have HS1 := hide hs1
      have HS2 := hide hs2
      have HOW := hide hO2w
      have HBW := hide hBw
      clear tk1 tk2 tk4 tk8 rt1 rt2 rt4 rt8 hs1 hs2 hO2w hBw hO2 hB2 CC
      go_loop [8] (fun s => s = .int .i64 1 ∨ s = .int .i64 2 ∨ s = .int .i64 4 ∨ s = .int .i64 8 ∨ s = .int .i64 16) (fun s => 16 - (intOf s).toNat)
      case atStart => exact .inl rfl
      case round =>
        rcases hrel with rfl | rfl | rfl | rfl | rfl
        · go_wp2_with (first | (go_at_call 28; refine (unhide T1).mono ?_; rintro e w3 ⟨rfl, rfl⟩) | (go_at_call 29; refine (unhide R1).mono ?_; rintro e w3 ⟨rfl, rfl⟩))
          go_round
          case rel => exact .inr (.inl rfl)
          case measure => simp [intOf]
        · go_wp2_with (first | (go_at_call 28; refine (unhide T2).mono ?_; rintro e w3 ⟨rfl, rfl⟩) | (go_at_call 29; refine (unhide R2).mono ?_; rintro e w3 ⟨rfl, rfl⟩))
          go_round
          case rel => exact .inr (.inr (.inl rfl))
          case measure => simp [intOf]
        · go_wp2_with (first | (go_at_call 28; refine (unhide T4).mono ?_; rintro e w3 ⟨rfl, rfl⟩) | (go_at_call 29; refine (unhide R4).mono ?_; rintro e w3 ⟨rfl, rfl⟩))
          go_round
          case rel => exact .inr (.inr (.inr (.inl rfl)))
          case measure => simp [intOf]
        · go_wp2_with (first | (go_at_call 28; refine (unhide T8).mono ?_; rintro e w3 ⟨rfl, rfl⟩) | (go_at_call 29; refine (unhide R8).mono ?_; rintro e w3 ⟨rfl, rfl⟩))
          go_round
          case rel => exact .inr (.inr (.inr (.inr rfl)))
          case measure => simp [intOf]
        · clear T1 T2 T4 T8 R1 R2 R4 R8
          have ce := eqBytes_any _ _ (bs.length + 80) bs.length cur cur w2 HS1.out HS2.out (by rw [HCL.out]; omega)
          rw [decide_eq_true rfl, HCL.out] at ce
          have CE := hide ce
          clear ce
          by_cases ht0 : t = 0
          · have hcur : cur = bs := H0.out ht0
            have HOb : Hid (OwnB w2 w.heap.size (bs ++ marks bs.length)) := by have h := HOW.out; rw [hcur] at h; exact h
            have HGb : Hid (Sl w2 a0 bs) := HG.out.below HBW.out
            have kt := fun n => kept_true w.heap.size a0 cap0 bs (w2.drewN n) (HOb.out.of_block rfl) (HGb.out.below (below_drewN (Below.refl _ _) n)) hl
            have KT := hide kt
            clear kt hcur
            subst ht0
            go_wp2_with (first | (go_at_call 12; refine (unhide CE).mono ?_; rintro e w3 ⟨rfl, n3, rfl⟩) | (go_at_call 30; refine (unhide KT n3).mono ?_; rintro e w4 ⟨rfl, n4, rfl⟩))
            clear CE KT
            go_loopw [13] (fun i wq => ∃ (k : Nat) (c2 : List Nat), k ≤ bs.length ∧ i = .int .i64 k ∧ c2.length = bs.length ∧ (∀ x ∈ c2, x < 256) ∧ OwnB wq w.heap.size (c2 ++ marks bs.length) ∧ Below w.heap.size w wq) (fun i _ => bs.length - (intOf i).toNat)
            case atStart => exact ⟨0, cur, by omega, rfl, HCL.out, HCX.out, HOW.out.of_block rfl, below_drewN HBW.out _⟩
            case round =>
              obtain ⟨k, c2, hk, rfl, hc2, hx2, hO5, hB5⟩ := hrel
              have HC2 := hide hc2
              have HX2 := hide hx2
              have HO5 := hide hO5
              have HB5 := hide hB5
              clear hc2 hx2 hO5 hB5
              by_cases hkl : k < bs.length
              · obtain ⟨x, hx⟩ : ∃ x, c2[k]? = some x := ⟨_, List.getElem?_eq_getElem (by rw [HC2.out]; exact hkl)⟩
                have hc := HO5.out.cell k x (by rw [List.getElem?_append_left (by rw [HC2.out]; exact hkl)]; exact hx)
                have hf := HO5.out.frozen k
                have hx8 : x < 256 := HX2.out x (List.mem_of_getElem? hx)
                have HX := hide hx
                clear hx
                go_wp2
                go_roundw
                case rel => exact ⟨k + 1, c2.set k (x ^^^ (k + 1) % 256), by omega, by go_num, by simpa using HC2.out, set_lt HX2.out k (xor_lt8 _ _ hx8 (by omega)), own_xor HO5.out (by rw [HC2.out]; exact hkl) hx8, HB5.out.setCell (Nat.le_refl _) _⟩
                case measure => simp [intOf]; omega
              · have hki : (bs.length : Int) ≤ (k : Int) := by omega
                go_wp2
                go_roundw
                case rel => exact ⟨1, c2, by omega, by go_num, HC2.out, HX2.out, HO5.out, HB5.out, fun h => by omega⟩
                case measure => simp [intOf]
          · have ht1 : t = 1 := by omega
            subst ht1
            clear ht0
            go_wp2_with (go_at_call 12; refine (unhide CE).mono ?_; rintro e w3 ⟨rfl, n3, rfl⟩)
            clear CE
            go_loopw [13] (fun i wq => ∃ (k : Nat) (c2 : List Nat), k ≤ bs.length ∧ i = .int .i64 k ∧ c2.length = bs.length ∧ (∀ x ∈ c2, x < 256) ∧ OwnB wq w.heap.size (c2 ++ marks bs.length) ∧ Below w.heap.size w wq) (fun i _ => bs.length - (intOf i).toNat)
            case atStart => exact ⟨0, cur, by omega, rfl, HCL.out, HCX.out, HOW.out.of_block rfl, below_drewN HBW.out _⟩
            case round =>
              obtain ⟨k, c2, hk, rfl, hc2, hx2, hO5, hB5⟩ := hrel
              have HC2 := hide hc2
              have HX2 := hide hx2
              have HO5 := hide hO5
              have HB5 := hide hB5
              clear hc2 hx2 hO5 hB5
              by_cases hkl : k < bs.length
              · obtain ⟨x, hx⟩ : ∃ x, c2[k]? = some x := ⟨_, List.getElem?_eq_getElem (by rw [HC2.out]; exact hkl)⟩
                have hc := HO5.out.cell k x (by rw [List.getElem?_append_left (by rw [HC2.out]; exact hkl)]; exact hx)
                have hf := HO5.out.frozen k
                have hx8 : x < 256 := HX2.out x (List.mem_of_getElem? hx)
                have HX := hide hx
                clear hx
                go_wp2
                go_roundw
                case rel => exact ⟨k + 1, c2.set k (x ^^^ (k + 1) % 256), by omega, by go_num, by simpa using HC2.out, set_lt HX2.out k (xor_lt8 _ _ hx8 (by omega)), own_xor HO5.out (by rw [HC2.out]; exact hkl) hx8, HB5.out.setCell (Nat.le_refl _) _⟩
                case measure => simp [intOf]; omega
              · have hki : (bs.length : Int) ≤ (k : Int) := by omega
                go_wp2
                go_roundw
                case rel => exact ⟨2, c2, by omega, by go_num, HC2.out, HX2.out, HO5.out, HB5.out, fun h => by omega⟩
                case measure => simp [intOf]
    · have ht2 : t = 2 := by omega
      subst ht2
      go_wp2_with (go_at_call 11; refine (works_any _).mono ?_; rintro e w3 ⟨rfl, hB3⟩)
      go_ret
      exact ⟨rfl, bseq HB.out hB3⟩

end Go.Proofs.Ytjkglimbmfgllab.bitsTakes
