/- Package seek: Quote, as the program and as the document have it, and Cut. -/
import Derived.Test.YtnghecdljjbcmaaXQuo
import Derived.Test.YtnghecdljjbcmaaXRow8
namespace Go.Proofs.Ytnghecdljjbcmaa
open Go.RowKit Go.Shelf
set_option linter.unusedVariables false

theorem xmk_yes {b : UInt8} (h : xmk b.toNat = true) : xq1 b = [92, b] := by unfold xq1; rw [if_pos h]
theorem xmk_no {b : UInt8} (h : xmk b.toNat = false) : xq1 b = [b] := by unfold xq1; rw [h]; rfl
theorem bl_at (s : ByteArray) (k : Nat) (h : k < s.size) : (bl s)[k]'(by rw [bl_len]; exact h) = s[k]'h := rfl
set_option maxRecDepth 100000 in
set_option maxHeartbeats 2000000 in
theorem xquote_any (s : ByteArray) (w : World) (hs : s.size ≤ 17592186044416) :
    Calls Try.prog 5 #[.string s] w fun e w' => e = .returned (.string ⟨(xqo (bl s)).toArray⟩) ∧ Below w.heap.size w w' := by
  have hsI : (s.size : Int) ≤ 17592186044416 := by omega
  have hbk : (w.alloc (.cells #[.pointer none, .slice none 0 0] 29)).heap[w.heap.size]? = some (.cells #[.pointer none, .slice none 0 0] 29 (0, 0)) := heap_alloc_new w _
  have hb0 : Below w.heap.size w (w.alloc (.cells #[.pointer none, .slice none 0 0] 29)) := (Below.refl _ _).alloc (Nat.le_refl _) _
  have kg := bgrow w.heap.size w.heap.size s.size _ (Nat.le_refl _) hbk hb0.size (by omega)
  have KG := hide kg
  have HB0 := hide hb0
  clear kg hbk hb0
  go_enter Try.func5, Try.ntmps5
  go_wp2_with (go_at_call 8; refine (KG.out).mono ?_; rintro e x ⟨rfl, hBx, hbx⟩; have HBX := hide hBx; have HX := hide (HB0.out.trans hbx); clear hBx hbx)
  go_loopw [10] (fun i wr => ∃ k : Nat, i = .int .i64 (k : Int) ∧ k ≤ s.size ∧ Bd8 w.heap.size w.heap.size (xqo ((bl s).take k)) wr ∧ Below w.heap.size w wr) (fun i _ => s.size - (intOf i).toNat)
  case atStart => exact ⟨0, rfl, Nat.zero_le _, HBX.out, HX.out⟩
  case round =>
    clear HBX HX
    obtain ⟨k, rfl, hk, hBd, hB⟩ := hrel
    have HBD := hide hBd
    have HB := hide hB
    clear hBd hB
    by_cases hlt : k < s.size
    · have hltI : (k : Int) < (s.size : Int) := by omega
      have hsn := xqo_snoc (l := bl s) (k := k) (by rw [bl_len]; exact hlt)
      rw [bl_at s k hlt] at hsn
      have hln := xqo_len ((bl s).take k)
      rw [List.length_take, bl_len] at hln
      generalize xqo ((bl s).take k) = acc at *
      obtain ⟨c, hc⟩ : ∃ c, s[k]'hlt = c := ⟨_, rfl⟩
      rw [hc] at hsn
      have hcn : (s[k]'hlt).toNat = c.toNat := by rw [hc]
      have HSN := hide hsn
      have hal : acc.length + 2 ≤ 140737488355328 := by omega
      have HAL := hide hal
      clear hsn hln hc hal
      rcases xmk_cases c.toNat with ⟨hm, hcs⟩ | ⟨hm, n1, n2, n3, n4, n5, n6, n7, n8, n9⟩
      · rw [xmk_yes hm] at HSN
        rcases hcs with h | h | h | h | h | h | h | h | h
        all_goals
          have hcc := hcn.trans h
          have KB1 := hide (fun W hb hB => bwriteByte w.heap.size w.heap.size acc 92 W hb (by have := HAL.out; omega) hB)
          have kb2 := fun W hb hB => bwriteByte w.heap.size w.heap.size (acc ++ [92]) c W hb (by have := HAL.out; rw [List.length_append, List.length_singleton]; omega) hB
          rw [h] at kb2
          push_cast at kb2
          have KB2 := hide kb2
          clear hcn h hm kb2
          go_wp2_with (first | (go_at_call 9; refine (KB1.out _ HBD.out HB.out.size).mono ?_; rintro e y ⟨rfl, hBy, hby⟩; have HBY := hide hBy; have HY := hide (HB.out.trans hby); clear hBy hby KB1) | (go_at_call 9; refine (KB2.out _ HBY.out HY.out.size).mono ?_; rintro e z ⟨rfl, hBz, hbz⟩; have HBZ := hide hBz; have HZ := hide (HY.out.trans hbz); clear hBz hbz))
          go_roundw
          case rel => exact ⟨k + 1, by go_num, by omega, by rw [HSN.out]; have := HBZ.out; rwa [List.append_assoc] at this, HZ.out⟩
          case measure => simp [intOf]; omega
      · rw [xmk_no hm] at HSN
        obtain ⟨b, hb⟩ : ∃ b : Nat, c.toNat = b := ⟨_, rfl⟩
        rw [hb] at n1 n2 n3 n4 n5 n6 n7 n8 n9 hcn
        have m1 : ((b : Int) == 46) = false := beq_eq_false_iff_ne.2 (by omega)
        have m2 : ((b : Int) == 91) = false := beq_eq_false_iff_ne.2 (by omega)
        have m3 : ((b : Int) == 93) = false := beq_eq_false_iff_ne.2 (by omega)
        have m4 : ((b : Int) == 42) = false := beq_eq_false_iff_ne.2 (by omega)
        have m5 : ((b : Int) == 43) = false := beq_eq_false_iff_ne.2 (by omega)
        have m6 : ((b : Int) == 63) = false := beq_eq_false_iff_ne.2 (by omega)
        have m7 : ((b : Int) == 94) = false := beq_eq_false_iff_ne.2 (by omega)
        have m8 : ((b : Int) == 36) = false := beq_eq_false_iff_ne.2 (by omega)
        have m9 : ((b : Int) == 92) = false := beq_eq_false_iff_ne.2 (by omega)
        have KB2 := hide (fun W hb hB => bwriteByte w.heap.size w.heap.size acc c W hb (by have := HAL.out; omega) hB)
        rw [hb] at KB2
        clear hm n1 n2 n3 n4 n5 n6 n7 n8 n9 hb
        go_wp2_with (go_at_call 9; refine (KB2.out _ HBD.out HB.out.size).mono ?_; rintro e z ⟨rfl, hBz, hbz⟩; have HBZ := hide hBz; have HZ := hide (HB.out.trans hbz); clear hBz hbz)
        go_roundw
        case rel => exact ⟨k + 1, by go_num, by omega, by rw [HSN.out]; exact HBZ.out, HZ.out⟩
        case measure => simp [intOf]; omega
    · have hge : (s.size : Int) ≤ (k : Int) := by omega
      have hbd := HBD.out
      rw [List.take_of_length_le (by rw [bl_len]; omega)] at hbd
      have HBD2 := hide hbd
      clear hbd
      go_wp2_with (go_at_call 10; refine (bstring _ _ _ _ HBD2.out HB.out.size).mono ?_; rintro e z ⟨rfl, hBz, hbz⟩; have HZ := hide (HB.out.trans hbz); clear hBz hbz)
      go_ret
      exact ⟨rfl, HZ.out⟩
end Go.Proofs.Ytnghecdljjbcmaa
