/- The document's Quote of patterns, and Cut. -/
import Derived.Test.YtnghecdljjbcmaaXQuoW
namespace Go.Proofs.Ytnghecdljjbcmaa
open Go.RowKit Go.Shelf
set_option linter.unusedVariables false

set_option maxHeartbeats 1000000 in
theorem xcut_any (s : ByteArray) (m : Nat) (w : World) (hm : m ≤ 1048576) :
    Calls Try.prog 4 #[.string s, .int .i64 (m : Int)] w fun e w' => e = .returned (.string (s.extract 0 m)) ∧ w' = w := by
  have hmI : (m : Int) ≤ 1048576 := by omega
  by_cases h : m < s.size
  · have hI : (m : Int) < (s.size : Int) := by omega
    clear h
    go_enter Try.func4, Try.ntmps4
    go_wp2
    go_ret
    exact ⟨rfl, rfl⟩
  · have hI : (s.size : Int) ≤ (m : Int) := by omega
    have he : s.extract 0 m = s := by
      have : s.extract 0 m = s.extract 0 s.size := by
        ext1
        simp only [ByteArray.data_extract]
        rw [Array.extract_eq_self_of_le (by simpa using (show s.size ≤ m by omega)), Array.extract_eq_self_of_le (by simp)]
      rw [this]
      simp
    rw [he]
    clear h he
    go_enter Try.func4, Try.ntmps4
    go_wp2
    go_ret
    exact ⟨rfl, rfl⟩
set_option maxRecDepth 100000 in
set_option maxHeartbeats 2000000 in
theorem rxquote_any (s : ByteArray) (w : World) (hs : s.size ≤ 17592186044416) :
    Calls Try.prog 6 #[.string s] w fun e w' => e = .returned (.string ⟨(xqo (bl s)).toArray⟩) ∧ Below w.heap.size w w' := by
  have hsI : (s.size : Int) ≤ 17592186044416 := by omega
  obtain ⟨i0, hi, hz0, hz1, hz2⟩ := info_parts Try.info8s
  go_enter Try.func6, Try.ntmps6
  go_wp2_with (fail)
  go_loopw [3, 4] (fun v i wr => ∃ k : Nat, i = .int .i64 (k : Int) ∧ k ≤ s.size ∧ Row8 wr w.heap.size v (xqo ((bl s).take k)) ∧ Below w.heap.size w wr) (fun _ i _ => s.size - (intOf i).toNat)
  case atStart => exact ⟨0, rfl, Nat.zero_le _, World.ownsRow_nil _ _ _ _, Below.refl _ _⟩
  case round =>
    obtain ⟨k, rfl, hk, hrow, hB⟩ := hrel
    have HROW := hide hrow
    have HB := hide hB
    have hBw := hB.size
    clear hrow hB
    by_cases hlt : k < s.size
    · have hltI : (k : Int) < (s.size : Int) := by omega
      have hsn := xqo_snoc (l := bl s) (k := k) (by rw [bl_len]; exact hlt)
      rw [bl_at s k hlt] at hsn
      have hln := xqo_len ((bl s).take k)
      rw [List.length_take, bl_len] at hln
      generalize xqo ((bl s).take k) = acc at *
      obtain ⟨c, hc⟩ : ∃ c, s[k]'hlt = c := ⟨_, rfl⟩
      rw [hc] at hsn
      have hcn : (s[k]'hlt).toNat = c.toNat := by rw [hc]
      have HSN := hide hsn
      have hal : acc.length + 2 ≤ 140737488355328 := by omega
      clear hsn hln hc
      rcases xmk_cases c.toNat with ⟨hm, hcs⟩ | ⟨hm, n1, n2, n3, n4, n5, n6, n7, n8, n9⟩
      · rw [xmk_yes hm] at HSN
        rcases hcs with h | h | h | h | h | h | h | h | h
        all_goals
          have hcc := hcn.trans h
          have hce : (c.toNat : Int) = _ := congrArg Nat.cast h
          push_cast at hce
          have HCE := hide hce
          clear hcn h hm hce
          go_wp2_with (first | (at_builtin; refine wpList_append_own_at _ rfl _ _ 27 rfl w.heap.size 5 i0 (.int .u8 0) 1 1 Try.underlying27 hi hz0 hz1 hz2 rfl (by decide) u3 acc.length (Lib.byteCells acc) rfl (HROW.out.alloc _) ⟨wr.heap.size, 0, none⟩ 1 1 [.int .u8 92] rfl rfl (cell1_new _ _ _) (by simp [Value.oneCell']) (by simp only [maxLen]; omega) (by omega) (by simp; omega) ?_; intro v4 w4 hown4 hgrow4 _ _; have hr4 : Row8 w4 w.heap.size v4 (acc ++ [92]) := Row8.more1 92 hown4; have HR4 := hide hr4; have HB4 := hide ((HB.out.alloc HB.out.size (.cells #[.int .u8 92] 5)).grown hgrow4 (by simp; omega) (fun k e => (HROW.out.lt k e).1)); have hw4 := HB4.out.size; clear hr4 hown4 hgrow4 HROW) | (at_builtin; refine wpList_append_own_at _ rfl _ _ 27 rfl w.heap.size 5 i0 (.int .u8 0) 1 1 Try.underlying27 hi hz0 hz1 hz2 rfl (by decide) v4 (acc ++ [92]).length (Lib.byteCells (acc ++ [92])) rfl (HR4.out.alloc _) ⟨w4.heap.size, 0, none⟩ 1 1 [_] rfl rfl (cell1_new _ _ _) (by simp [Value.oneCell']) (by rw [List.length_append, List.length_singleton]; simp only [maxLen]; omega) (by rw [List.length_append, List.length_singleton]; omega) (by simp; omega) ?_; intro v5 w5 hown5 hgrow5 _ _))
          go_roundw
          case rel =>
            refine ⟨k + 1, by go_num, by omega, ?_, ?_⟩
            · rw [HSN.out]
              have := Row8.more1 c (by rw [HCE.out]; exact hown5)
              rwa [List.append_assoc] at this
            · exact (HB4.out.alloc HB4.out.size _).grown hgrow5 (by simp; omega) (fun k e => (HR4.out.lt k e).1)
          case measure => simp [intOf]; omega
      · rw [xmk_no hm] at HSN
        obtain ⟨b, hb⟩ : ∃ b : Nat, c.toNat = b := ⟨_, rfl⟩
        rw [hb] at n1 n2 n3 n4 n5 n6 n7 n8 n9 hcn
        have m1 : ((b : Int) == 46) = false := beq_eq_false_iff_ne.2 (by omega)
        have m2 : ((b : Int) == 91) = false := beq_eq_false_iff_ne.2 (by omega)
        have m3 : ((b : Int) == 93) = false := beq_eq_false_iff_ne.2 (by omega)
        have m4 : ((b : Int) == 42) = false := beq_eq_false_iff_ne.2 (by omega)
        have m5 : ((b : Int) == 43) = false := beq_eq_false_iff_ne.2 (by omega)
        have m6 : ((b : Int) == 63) = false := beq_eq_false_iff_ne.2 (by omega)
        have m7 : ((b : Int) == 94) = false := beq_eq_false_iff_ne.2 (by omega)
        have m8 : ((b : Int) == 36) = false := beq_eq_false_iff_ne.2 (by omega)
        have m9 : ((b : Int) == 92) = false := beq_eq_false_iff_ne.2 (by omega)
        have HBN := hide hb
        clear hm n1 n2 n3 n4 n5 n6 n7 n8 n9 hb
        go_wp2_with (at_builtin; refine wpList_append_own_at _ rfl _ _ 27 rfl w.heap.size 5 i0 (.int .u8 0) 1 1 Try.underlying27 hi hz0 hz1 hz2 rfl (by decide) u3 acc.length (Lib.byteCells acc) rfl (HROW.out.alloc _) ⟨wr.heap.size, 0, none⟩ 1 1 [.int .u8 (b : Int)] rfl rfl (cell1_new _ _ _) (by simp [Value.oneCell']) (by simp only [maxLen]; omega) (by omega) (by simp; omega) ?_; intro v5 w5 hown5 hgrow5 _ _)
        go_roundw
        case rel =>
          refine ⟨k + 1, by go_num, by omega, ?_, ?_⟩
          · rw [HSN.out]
            rw [← HBN.out] at hown5
            exact Row8.more1 c hown5
          · exact (HB.out.alloc HB.out.size _).grown hgrow5 (by simp; omega) (fun k e => (HROW.out.lt k e).1)
        case measure => simp [intOf]; omega
    · have hge : (s.size : Int) ≤ (k : Int) := by omega
      have hr := HROW.out
      rw [List.take_of_length_le (by rw [bl_len]; omega)] at hr
      have hcv := run_string_own8 wr w.heap.size u3 _ hr
      clear hr
      go_wp2_with (fail)
      go_ret
      exact ⟨rfl, HB.out⟩
end Go.Proofs.Ytnghecdljjbcmaa
