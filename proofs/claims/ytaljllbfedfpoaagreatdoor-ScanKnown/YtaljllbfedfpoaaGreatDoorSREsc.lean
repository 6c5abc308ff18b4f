/- The document's side of package scan: an escape. -/
import Derived.Test.YtaljllbfedfpoaaGreatDoorSRBrW
import Derived.Test.YtaljllbfedfpoaaGreatDoorSRow8
import Derived.Deep.RegionWith
namespace Go.Proofs.YtaljllbfedfpoaaGreatDoor
open Go.RowKit Go.Shelf
set_option linter.unusedVariables false

theorem byte_back (n : Nat) (h : n < 256) : ((n.toUInt8).toNat : Int) = (n : Int) := by
  rw [UInt8.toNat_ofNat_of_lt' h]
theorem esc_dispatch (b : Nat) : (∃ v, (b, v) ∈ [(34, 34), (92, 92), (110, 10), (114, 13), (116, 9)]) ∨ b = 120 ∨ b = 117 ∨ (∀ m ∈ [34, 92, 110, 114, 116, 120, 117], b ≠ m) := by
  by_cases h1 : b = 34
  · exact .inl ⟨34, by simp [h1]⟩
  by_cases h2 : b = 92
  · exact .inl ⟨92, by simp [h2]⟩
  by_cases h3 : b = 110
  · exact .inl ⟨10, by simp [h3]⟩
  by_cases h4 : b = 114
  · exact .inl ⟨13, by simp [h4]⟩
  by_cases h5 : b = 116
  · exact .inl ⟨9, by simp [h5]⟩
  by_cases h6 : b = 120
  · exact .inr (.inl h6)
  by_cases h7 : b = 117
  · exact .inr (.inr (.inl h7))
  · refine .inr (.inr (.inr fun m hm e => ?_))
    simp only [List.mem_cons, List.not_mem_nil, or_false] at hm
    omega
set_option maxRecDepth 100000 in
set_option maxHeartbeats 4000000 in
theorem rescape_any (s : ByteArray) (w : World) (hs : s.size ≤ 17592186044416) :
    Calls Tryz.prog 59 #[.string s] w fun e w' => e = .returned (.tuple #[.string ⟨(escL (bl s)).1.toArray⟩, .int .i64 ((escL (bl s)).2 : Int)]) ∧ Below w.heap.size w w' := by
  have hsI : (s.size : Int) ≤ 17592186044416 := by omega
  by_cases h1 : 1 < s.size
  · have h1I : (2 : Int) ≤ (s.size : Int) := by omega
    have h1L : 1 < (bl s).length := by rw [bl_len]; exact h1
    have hb1 : by' (bl s) 1 = (s[1]'h1).toNat := by'_get s 1 h1
    rcases esc_dispatch (by' (bl s) 1) with ⟨v, hv⟩ | h120 | h117 | hno
    · have hE := escL_one _ v h1L hv rfl
      rw [hE]
      rw [hb1] at hv
      clear hE hb1
      simp only [List.mem_cons, Prod.mk.injEq, List.not_mem_nil, or_false] at hv
      rcases hv with ⟨hb, rfl⟩ | ⟨hb, rfl⟩ | ⟨hb, rfl⟩ | ⟨hb, rfl⟩ | ⟨hb, rfl⟩
      all_goals
        go_enter Tryz.func59, Tryz.ntmps59
        go_wp2
        go_ret2
        exact ⟨rfl, Below.refl _ _⟩
    · rw [escL_120 h1L h120]
      rw [hb1] at h120
      by_cases h3 : 3 < s.size
      · have h3I : (4 : Int) ≤ (s.size : Int) := by omega
        have h2 : 2 < s.size := by omega
        have hb2 : by' (bl s) 2 = (s[2]'h2).toNat := by'_get s 2 h2
        have hb3 : by' (bl s) 3 = (s[3]'h3).toNat := by'_get s 3 h3
        have l2 : (s[2]'h2).toNat < 256 := UInt8.toNat_lt _
        have l3 : (s[3]'h3).toNat < 256 := UInt8.toNat_lt _
        generalize hg2 : (s[2]'h2).toNat = b2 at *
        generalize hg3 : (s[3]'h3).toNat = b3 at *
        have k2 := fun W => rdigit_any b2 W l2
        have k3 := fun W => rdigit_any b3 W l3
        have e2 := digD_le b2
        have e3 := digD_le b3
        by_cases d2 : digD b2 < 16
        · by_cases d3 : digD b3 < 16
          · have hT := two_yes (l := bl s) (by rw [bl_len]; exact h3) (by rw [hb2]; exact d2) (by rw [hb3]; exact d3)
            rw [hT, hb2, hb3]
            simp only [Nat.le_refl, if_true, Nat.reduceAdd]
            generalize digD b2 = x2 at *
            generalize digD b3 = x3 at *
            have f2 : (x2 : Int) < 16 := by omega
            have f3 : (x3 : Int) < 16 := by omega
            obtain ⟨n, hn⟩ : ∃ n, 16 * x2 + x3 = n := ⟨_, rfl⟩
            rw [hn]
            have hnI : 16 * (x2 : Int) + (x3 : Int) = (n : Int) := by omega
            have hn256 : n < 256 := by omega
            have hcv : ∀ W : World, (convert 25 9 (.slice (some ⟨W.heap.size, 0, none⟩) 1 1)).run Tryz.prog (W.alloc (.cells #[.int .u8 (n : Int)] 5)).drew = .ok (.string ⟨#[n.toUInt8]⟩) (W.alloc (.cells #[.int .u8 (n : Int)] 5)).drew := by
              intro W
              have h := row8_one W n.toUInt8
              rw [byte_back n hn256] at h
              have h' : Row8 (W.alloc (.cells #[.int .u8 (n : Int)] 5)).drew W.heap.size (.slice (some ⟨W.heap.size, 0, none⟩) 1 1) [n.toUInt8] := h
              exact run_string_own8 _ W.heap.size _ [n.toUInt8] h'
            have hw1 : IntKind.i64.wrap (16 * (x2 : Int)) = 16 * (x2 : Int) := by rw [IntKind.wrap_i64]; omega
            have hw2 : IntKind.i64.wrap (16 * (x2 : Int) + (x3 : Int)) = (n : Int) := by rw [IntKind.wrap_i64]; omega
            have hw4 : IntKind.i64.wrap (n : Int) = (n : Int) := by rw [IntKind.wrap_i64]; omega
            have hw3 : IntKind.u8.wrap (n : Int) = (n : Int) := by rw [IntKind.wrap_u8]; omega
            have K2 := hide k2
            have K3 := hide k3
            have HN := hide hn
            have hnn : (n : Int) < 256 := by omega
            clear hT k2 k3 d2 d3 hb2 hb3 hn hb1 e2 e3 hn256 l2 l3
            go_enter Tryz.func59, Tryz.ntmps59
            go_wp2_with (first | (go_at_call_of 78 (Value.int .u8 (b2 : Int)); refine (K2.out _).mono ?_; rintro e x ⟨rfl, rfl⟩) | (go_at_call_of 78 (Value.int .u8 (b3 : Int)); refine (K3.out _).mono ?_; rintro e x ⟨rfl, rfl⟩))
            go_region_with (first | (go_at_call_of 78 (Value.int .u8 (b2 : Int)); refine (K2.out _).mono ?_; rintro e x ⟨rfl, rfl⟩) | (go_at_call_of 78 (Value.int .u8 (b3 : Int)); refine (K3.out _).mono ?_; rintro e x ⟨rfl, rfl⟩))
            all_goals
              go_wp2
              go_ret2
              exact ⟨rfl, ((Below.refl _ _).alloc (Nat.le_refl _) _).drew⟩
          · have hd3 : digD b3 = 16 := by omega
            have hT := two_no (l := bl s) (fun c => d3 (by rw [← hb3]; exact c.2.2))
            rw [if_neg hT]
            rw [hd3] at k3
            generalize digD b2 = x2 at *
            have f2 : (x2 : Int) < 16 := by omega
            have f2' : (x2 : Int) ≤ 15 := by omega
            have K2 := hide k2
            have K3 := hide k3
            clear hT k2 k3 d2 d3 hb2 hb3 hb1 e2 e3 hd3
            go_enter Tryz.func59, Tryz.ntmps59
            go_wp2_with (first | (go_at_call_of 78 (Value.int .u8 (b2 : Int)); refine (K2.out _).mono ?_; rintro e x ⟨rfl, rfl⟩) | (go_at_call_of 78 (Value.int .u8 (b3 : Int)); refine (K3.out _).mono ?_; rintro e x ⟨rfl, rfl⟩))
            go_ret2
            exact ⟨rfl, Below.refl _ _⟩
        · have hd2 : digD b2 = 16 := by omega
          have hT := two_no (l := bl s) (fun c => d2 (by rw [← hb2]; exact c.2.1))
          rw [if_neg hT]
          rw [hd2] at k2
          have K2 := hide k2
          clear hT k2 k3 d2 hb2 hb3 hb1 e2 e3 hd2
          go_enter Tryz.func59, Tryz.ntmps59
          go_wp2_with (go_at_call_of 78 (Value.int .u8 (b2 : Int)); refine (K2.out _).mono ?_; rintro e x ⟨rfl, rfl⟩)
          go_ret2
          exact ⟨rfl, Below.refl _ _⟩
      · have h3I : (s.size : Int) < 4 := by omega
        have hT := two_no (l := bl s) (fun c => h3 (by rw [bl_len] at c; exact c.1))
        rw [if_neg hT]
        clear hT h3 hb1
        go_enter Tryz.func59, Tryz.ntmps59
        go_wp2
        go_ret2
        exact ⟨rfl, Below.refl _ _⟩
    · have hE := escL_117 h1L h117
      rw [hE]
      have kb := fun W => rbraced_any s W hs
      have KB := hide kb
      rw [hb1] at h117
      clear hE hb1 kb
      go_enter Tryz.func59, Tryz.ntmps59
      go_wp2_with (go_at_call 79; refine (KB.out _).mono ?_; rintro e x ⟨rfl, rfl⟩)
      go_ret2
      exact ⟨rfl, Below.refl _ _⟩
    · have hE := escL_else (l := bl s) (fun _ => hno)
      rw [hE]
      rw [hb1] at hno
      have n1 := hno 34 (by simp)
      have n2 := hno 92 (by simp)
      have n3 := hno 110 (by simp)
      have n4 := hno 114 (by simp)
      have n5 := hno 116 (by simp)
      have n6 := hno 120 (by simp)
      have n7 := hno 117 (by simp)
      clear hE hb1 hno
      generalize hg1 : (s[1]'h1).toNat = b at *
      have m1 : ((b : Int) == 34) = false := beq_eq_false_iff_ne.2 (by omega)
      have m2 : ((b : Int) == 92) = false := beq_eq_false_iff_ne.2 (by omega)
      have m3 : ((b : Int) == 110) = false := beq_eq_false_iff_ne.2 (by omega)
      have m4 : ((b : Int) == 114) = false := beq_eq_false_iff_ne.2 (by omega)
      have m5 : ((b : Int) == 116) = false := beq_eq_false_iff_ne.2 (by omega)
      have m6 : ((b : Int) == 120) = false := beq_eq_false_iff_ne.2 (by omega)
      have m7 : ((b : Int) == 117) = false := beq_eq_false_iff_ne.2 (by omega)
      clear n1 n2 n3 n4 n5 n6 n7
      go_enter Tryz.func59, Tryz.ntmps59
      go_wp2
      go_ret2
      exact ⟨rfl, Below.refl _ _⟩
  · have h1I : (s.size : Int) < 2 := by omega
    have hE := escL_else (l := bl s) (fun h => absurd (by rw [bl_len] at h; exact h) h1)
    rw [hE]
    clear hE h1
    go_enter Tryz.func59, Tryz.ntmps59
    go_wp2
    go_ret2
    exact ⟨rfl, Below.refl _ _⟩
end Go.Proofs.YtaljllbfedfpoaaGreatDoor
