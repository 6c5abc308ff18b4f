/- The document's side of package scan: a number in braces. -/
import Derived.Test.YtaljllbfedfpoaaGreatDoorSRBrc
namespace Go.Proofs.YtaljllbfedfpoaaGreatDoor
open Go.RowKit Go.Shelf
set_option linter.unusedVariables false

theorem encS_eq (z : Int) : Utf8.encode z = ⟨(Lib.encodeRune z).toArray⟩ := by
  unfold Utf8.encode Lib.encodeRune
  have hv : Utf8.valid z = mayB z := by
    unfold Utf8.valid mayB
    rw [Bool.eq_iff_iff]
    simp only [Bool.or_eq_true, Bool.and_eq_true, decide_eq_true_eq]
    omega
  rw [hv]
  cases hm : mayB z with
  | false =>
    have h : z < 0 ∨ (55296 ≤ z ∧ z ≤ 57343) ∨ 1114111 < z := by
      have := mt (mayB_iff (n := z)).2 (by rw [hm]; simp)
      omega
    rw [Lib.encodeRuneZ_bad h]
    simp only [Bool.false_eq_true, if_false, Utf8.runeError]
    rfl
  | true =>
    have h := mayB_iff.1 hm
    simp only [if_true]
    obtain ⟨n, rfl⟩ : ∃ n : Nat, z = (n : Int) := ⟨z.toNat, by omega⟩
    rw [Int.toNat_natCast]
    by_cases h1 : n < 128
    · rw [Lib.encodeRuneZ_one (by omega) (by omega), if_pos h1]; rfl
    · rw [if_neg h1]
      by_cases h2 : n < 2048
      · rw [Lib.encodeRuneZ_two (by omega) (by omega), if_pos h2]; rfl
      · rw [if_neg h2]
        by_cases h3 : n < 65536
        · rw [Lib.encodeRuneZ_three (by omega), if_pos h3]; rfl
        · rw [Lib.encodeRuneZ_four (by omega) (by omega), if_neg h3]; rfl

set_option maxRecDepth 100000 in
set_option maxHeartbeats 8000000 in
theorem rbraced_any (s : ByteArray) (w : World) (hs : s.size ≤ 17592186044416) :
    Calls Tryz.prog 79 #[.string s] w fun e w' => e = .returned (.tuple #[.string ⟨(brL (bl s)).1.toArray⟩, .int .i64 ((brL (bl s)).2 : Int)]) ∧ w' = w := by
  have hsI : (s.size : Int) ≤ 17592186044416 := by omega
  have KD := hide (fun (c : Nat) W h => rdigit_any c W h)
  by_cases h2 : 2 < s.size
  · have h2I : (3 : Int) ≤ (s.size : Int) := by omega
    have hb2 : by' (bl s) 2 = (s[2]'h2).toNat := by'_get s 2 h2
    by_cases h3 : (s[2]'h2).toNat = 123
    · have hI := brI_start (l := bl s) (by rw [bl_len]; exact h2)
      have h2p : 2 < (bl s).length ∧ by' (bl s) 2 = 123 := ⟨by rw [bl_len]; exact h2, by rw [hb2]; exact h3⟩
      have HI := hide hI
      have H2P := hide h2p
      have hne : (((s[2]'h2).toNat : Int) != 123) = false := by rw [h3]; rfl
      obtain ⟨R, hR⟩ : ∃ R, brL (bl s) = R := ⟨_, rfl⟩
      rw [hR]
      have HR := hide hR
      clear hI h2p hb2 h3 hR
      go_enter Tryz.func79, Tryz.ntmps79
      go_wp2_with (fail)
      go_loopw [4, 5] (fun n k wr => ∃ k' n' : Nat, k = .int .i64 (k' : Int) ∧ n = .int .i64 (n' : Int) ∧ brI (bl s) k' n' ∧ wr = w) (fun _ k _ => s.size - (intOf k).toNat)
      case atStart => exact ⟨3, 0, rfl, rfl, HI.out, rfl⟩
      case round =>
        clear HI
        obtain ⟨k, n, rfl, rfl, hI, hwr⟩ := hrel
        subst hwr
        have hk3 := hI.1
        have hk9 := hI.2.1
        have hkl := hI.2.2.1
        have hn := brI_small hI
        rw [bl_len] at hkl
        have HI := hide hI
        have hnI : (n : Int) < 16777216 := by omega
        have hk9I : (k : Int) ≤ 9 := by omega
        clear hI hne hn
        by_cases hlt : k < s.size
        · have hltI : (k : Int) < (s.size : Int) := by omega
          have hby : by' (bl s) k = (s[k]'hlt).toNat := by'_get s k hlt
          have hb256 : (s[k]'hlt).toNat < 256 := UInt8.toNat_lt _
          generalize hbb : (s[k]'hlt).toNat = b at *
          have kd := fun W => rdigit_any b W hb256
          have hd16 := digD_le b
          by_cases hd : digD b < 16
          · by_cases h8 : 8 < k
            · have hV := brI_over HI.out h8 (by rw [bl_len]; exact hlt) (by rw [hby]; exact hd)
              rw [HR.out] at hV
              subst hV
              have h8I : (8 : Int) < (k : Int) := by omega
              generalize digD b = dd at *
              have hdI : (dd : Int) < 16 := by omega
              have KB := hide kd
              clear kd hby
              go_wp2_with (go_at_call 78; refine (KB.out _).mono ?_; rintro e x ⟨rfl, rfl⟩)
              go_ret2
              exact ⟨rfl, rfl⟩
            · have h8I : (k : Int) ≤ 8 := by omega
              have hV := brI_step HI.out (by rw [bl_len]; exact hlt) (by rw [hby]; exact hd) (by omega)
              rw [hby] at hV
              generalize digD b = dd at *
              have hdI : (dd : Int) < 16 := by omega
              have KB := hide kd
              have HV := hide hV
              clear kd hby hV
              have hn0 : (0 : Int) ≤ (n : Int) := by omega
              generalize hm : (n : Int) = m at *
              have HM := hide hm
              clear hm
              go_wp2_with (go_at_call 78; refine (KB.out _).mono ?_; rintro e x ⟨rfl, rfl⟩)
              go_roundw
              case rel => exact ⟨k + 1, 16 * n + dd, by go_num, int_congr (by have := HM.out; omega), HV.out, trivial⟩
              case measure => simp [intOf]; omega
          · have hdd : digD b = 16 := by omega
            rw [hdd] at kd
            have hV := brI_stop HI.out (by rw [hby]; exact fun c => hd c.2)
            have hg125 : b = 125 → digD b = 16 := fun _ => hdd
            have HST := hide hV
            have KB := hide kd
            have HBY := hide hby
            clear kd hby hV hd hdd hd16 hg125
            by_cases hk : k = 3
            · have hV := brL_fail (l := bl s) HST.out hk3 (fun c => c.1 hk)
              rw [HR.out] at hV
              subst hV
              have hkI : ((k : Int) == 3) = true := by rw [hk]; rfl
              clear hk
              go_wp2_with (go_at_call 78; refine (KB.out _).mono ?_; rintro e x ⟨rfl, rfl⟩)
              go_ret2
              exact ⟨rfl, rfl⟩
            have hkI : ((k : Int) == 3) = false := beq_eq_false_iff_ne.2 (by omega)
            by_cases h125 : b = 125
            · have h125I : ((b : Int) != 125) = false := by rw [h125]; rfl
              by_cases hv : Lib.validRune (n : Int) = true
              · have hV := brL_yes HST.out H2P.out (by omega) (by rw [bl_len]; exact hlt) (by rw [HBY.out]; exact h125) hv
                rw [HR.out] at hV
                subst hV
                have hv' := (valid_iff n).1 hv
                have g1 : (n : Int) ≤ 1114111 := by omega
                clear h125 hv
                by_cases g2 : 55296 ≤ n
                · have g2I : (55296 : Int) ≤ (n : Int) := by omega
                  have g3I : (57343 : Int) < (n : Int) := by omega
                  clear hv' g2
                  have hn0 : (0 : Int) ≤ (n : Int) := by omega
                  generalize hm : (n : Int) = m at *
                  have HM := hide hm
                  clear hm
                  go_wp2_with (go_at_call 78; refine (KB.out _).mono ?_; rintro e x ⟨rfl, rfl⟩)
                  go_ret2
                  refine ⟨?_, rfl⟩
                  show Ending.returned (Value.tuple #[.string (Utf8.encode m), .int .i64 ((k : Int) + 1)]) = Ending.returned (.tuple #[.string ⟨(Lib.encodeRune (n : Int)).toArray⟩, .int .i64 ((k + 1 : Nat) : Int)])
                  rw [HM.out, encS_eq]
                  rfl
                · have g2I : (n : Int) < 55296 := by omega
                  clear hv' g2
                  have hn0 : (0 : Int) ≤ (n : Int) := by omega
                  generalize hm : (n : Int) = m at *
                  have HM := hide hm
                  clear hm
                  go_wp2_with (go_at_call 78; refine (KB.out _).mono ?_; rintro e x ⟨rfl, rfl⟩)
                  go_ret2
                  refine ⟨?_, rfl⟩
                  show Ending.returned (Value.tuple #[.string (Utf8.encode m), .int .i64 ((k : Int) + 1)]) = Ending.returned (.tuple #[.string ⟨(Lib.encodeRune (n : Int)).toArray⟩, .int .i64 ((k + 1 : Nat) : Int)])
                  rw [HM.out, encS_eq]
                  rfl
              · have hV := brL_fail (l := bl s) HST.out hk3 (fun c => hv c.2.2)
                rw [HR.out] at hV
                subst hV
                have hv' : 1114111 < n ∨ (55296 ≤ n ∧ n ≤ 57343) := by
                  have := mt (valid_iff n).2 hv
                  omega
                clear h125 hv
                rcases hv' with g1 | ⟨g1, g2⟩
                · have g1I : (1114111 : Int) < (n : Int) := by omega
                  clear g1
                  have hn0 : (0 : Int) ≤ (n : Int) := by omega
                  generalize hm : (n : Int) = m at *
                  have HM := hide hm
                  clear hm
                  go_wp2_with (go_at_call 78; refine (KB.out _).mono ?_; rintro e x ⟨rfl, rfl⟩)
                  go_ret2
                  exact ⟨rfl, rfl⟩
                · have g1I : (55296 : Int) ≤ (n : Int) := by omega
                  have g2I : (n : Int) ≤ 57343 := by omega
                  have g3I : (n : Int) ≤ 1114111 := by omega
                  clear g1 g2
                  have hn0 : (0 : Int) ≤ (n : Int) := by omega
                  generalize hm : (n : Int) = m at *
                  have HM := hide hm
                  clear hm
                  go_wp2_with (go_at_call 78; refine (KB.out _).mono ?_; rintro e x ⟨rfl, rfl⟩)
                  go_ret2
                  exact ⟨rfl, rfl⟩
            · have h125I : ((b : Int) != 125) = true := by rw [bne_iff_ne]; omega
              have hV := brL_fail (l := bl s) HST.out hk3 (fun c => h125 (by rw [← HBY.out]; exact c.2.1.2))
              rw [HR.out] at hV
              subst hV
              clear h125
              go_wp2_with (go_at_call 78; refine (KB.out _).mono ?_; rintro e x ⟨rfl, rfl⟩)
              go_ret2
              exact ⟨rfl, rfl⟩
        · have hge : (s.size : Int) ≤ (k : Int) := by omega
          have hV := brI_stop HI.out (by rw [bl_len]; exact fun c => hlt c.1)
          have hW := brL_fail (l := bl s) hV hk3 (fun c => hlt (by rw [bl_len] at c; exact c.2.1.1))
          rw [HR.out] at hW
          subst hW
          clear hV
          by_cases hk : k = 3
          · have hkI : ((k : Int) == 3) = true := by rw [hk]; rfl
            clear hk
            go_wp2_with (fail)
            go_ret2
            exact ⟨rfl, rfl⟩
          · have hkI : ((k : Int) == 3) = false := beq_eq_false_iff_ne.2 (by omega)
            go_wp2_with (fail)
            go_ret2
            exact ⟨rfl, rfl⟩
    · have hne : (((s[2]'h2).toNat : Int) != 123) = true := by rw [bne_iff_ne]; omega
      rw [brL_no (fun c => h3 (by rw [← hb2]; exact c.2))]
      clear hb2 h3
      go_enter Tryz.func79, Tryz.ntmps79
      go_wp2_with (fail)
      go_ret2
      exact ⟨rfl, rfl⟩
  · have h2I : (s.size : Int) < 3 := by omega
    rw [brL_no (fun c => h2 (by rw [bl_len] at c; exact c.1))]
    clear h2
    go_enter Tryz.func79, Tryz.ntmps79
    go_wp2_with (fail)
    go_ret2
    exact ⟨rfl, rfl⟩
end Go.Proofs.YtaljllbfedfpoaaGreatDoor
