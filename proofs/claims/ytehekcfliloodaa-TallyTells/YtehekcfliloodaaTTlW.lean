/- The roads of TallyTells and TallyChecks: for every text, for every tally they return true, and write nothing that was there. -/
import Derived.Test.YtehekcfliloodaaTWk
import Derived.Test.YtehekcfliloodaaTRn
namespace Go.Proofs.Ytehekcfliloodaa
open Go.RowKit
set_option linter.unusedVariables false

theorem txt_of (s : ByteArray) (h6 : s.size ≤ 6) : hd s ++ (tl s).extract (2 * (hd s).size - s.size) (hd s).size = s := by
  apply bl_inj
  have h1 : (hd s).size = min 3 s.size := hd_size s
  have h2 : (tl s).size = (hd s).size := by rw [h1]; exact tl_size s
  rw [bl_append, ← h2, bl_from, h2, h1]
  unfold hd tl
  rw [bl_to, bl_from, List.drop_drop]
  by_cases h3 : s.size ≤ 3
  · rw [List.take_of_length_le (by rw [bl_len]; omega), List.drop_of_length_le (by rw [bl_len]; omega), List.append_nil]
  · rw [show s.size - 3 + (2 * min 3 s.size - s.size) = 3 by omega, List.take_append_drop]
theorem may_of (s : ByteArray) : mayT s.size (chn (bl s)) (lin (bl s)) (hd s) (tl s) = true := by
  have h1 := chn_le (bl s)
  have h2 := lin_le (bl s)
  rw [bl_len] at h1
  unfold mayT cntB edgB isOf
  rw [Bool.and_eq_true, Bool.and_eq_true, Bool.or_eq_true]
  refine ⟨decide_eq_true ⟨by omega, by omega, by omega, by omega⟩, decide_eq_true ⟨by rw [hd_size]; omega, by rw [tl_size]; omega⟩, ?_⟩
  by_cases h6 : 6 < (s.size : Int)
  · exact .inl (decide_eq_true h6)
  · refine .inr (decide_eq_true ?_)
    have e := txt_of s (by omega)
    rw [show ((s.size : Int)).toNat = s.size from rfl, e]
    exact ⟨rfl, rfl, rfl, rfl, rfl⟩
theorem same_self (b c l : Int) (h t : ByteArray) : sameT b c l h t b c l h t = true := decide_eq_true ⟨rfl, rfl, rfl, rfl, rfl⟩

namespace tallyTells
set_option maxRecDepth 100000 in
set_option maxHeartbeats 4000000 in
theorem walk (s : ByteArray) (w : World) (hs : s.size ≤ 9223372036854775807) :
    Calls Try.prog 4 #[.string s] w fun e w' => e = .returned (.bool true) ∧ Below w.heap.size w w' := by
  have ko := fun w => tof_any s w hs
  have kr := fun w => refOf_any s w hs
  have kc := fun w => check_any s.size (chn (bl s)) (lin (bl s)) (hd s) (tl s) w (by omega)
  have hch : chn (bl s) = (Cs 0 (bl s)).length := by unfold chn; rw [runesV_len]
  have hle := (chn_le (bl s)).1
  rw [bl_len] at hle
  rw [may_of] at kc
  have heq := fun w => eql_ty s.size (chn (bl s)) (lin (bl s)) (hd s) (tl s) s.size (chn (bl s)) (lin (bl s)) (hd s) (tl s) w
  rw [same_self] at heq
  unfold tyC at ko kr
  generalize ((lin (bl s) : Nat) : Int) = L at *
  generalize hd s = H at *
  generalize tl s = T at *
  generalize chn (bl s) = C at *
  have KO := hide ko
  have KR := hide kr
  have KC := hide kc
  have HEQ := hide heq
  have HCH := hide hch
  clear ko kr kc heq hch
  go_enter Try.func4, Try.ntmps4
  go_wp2_with (go_at_call 10; refine (KO.out _).mono ?_; rintro e w1 ⟨rfl, hB1⟩)
  generalize hX : w1.alloc (.cells #[.int .i64 s.size, .int .i64 C, .int .i64 L, .string H, .string T] 24) = X at *
  have hXs : X.heap.size = w1.heap.size + 1 := by rw [← hX]; simp
  have hXr : X.heap[w1.heap.size]? = some (.cells #[.int .i64 s.size, .int .i64 C, .int .i64 L, .string H, .string T] 24 (0, 0)) := by rw [← hX]; exact heap_alloc_new w1 _
  have hXB : Below w.heap.size w X := by rw [← hX]; exact hB1.alloc hB1.size _
  generalize w1.heap.size = B3 at *
  have HXR := hide hXr
  have HXB := hide hXB
  have HXS := hide hXs
  clear hX hXr hXB hB1 hXs
  go_loopw [4] (fun n w' => ∃ pos k : Nat, w' = X.iter s pos ∧ n = .int .i64 k ∧ pos ≤ s.size ∧ k ≤ pos ∧ k + (Cs pos ((bl s).drop pos)).length = C) (fun _ w' => s.size - w'.iterPos X.heap.size)
  case atStart => exact ⟨0, 0, rfl, rfl, by omega, by omega, by rw [HCH.out]; simp⟩
  case round =>
    obtain ⟨pos, k, rfl, rfl, hp, hk, hl⟩ := hrel
    have HL := hide hl
    clear hl
    by_cases hlt : pos < s.size
    · have hnx : ∀ ty, (Instr.next (.pointer (some ⟨B3 + 1, 0, none⟩)) true ty).run Try.prog (X.iter s pos) = _ := fun ty => HXS.out ▸ next_in X s pos ty hlt
      have h1 := cw_pos ((bl s).drop pos)
      have h2 := cw_len _ (bl_drop_ne hlt)
      rw [List.length_drop, bl_len] at h2
      have h3 : (Cs pos ((bl s).drop pos)).length = 1 + (Cs (pos + cw ((bl s).drop pos)) ((bl s).drop (pos + cw ((bl s).drop pos)))).length := by
        rw [Cs_cons _ _ (bl_drop_ne hlt), List.drop_drop, List.length_cons]; omega
      have H3 := hide h3
      clear h3
      go_wp2
      go_roundw
      case rel => exact ⟨_, k + 1, rfl, by go_num, by omega, by omega, by have := HL.out; have := H3.out; omega⟩
      case measure => simp; omega
    · have hnx : ∀ ty, (Instr.next (.pointer (some ⟨B3 + 1, 0, none⟩)) true ty).run Try.prog (X.iter s pos) = _ := fun ty => HXS.out ▸ run_next_end X s pos ty hlt
      have h3 : (bl s).drop pos = [] := List.drop_eq_nil_of_le (by rw [bl_len]; omega)
      have hkC : k = C := by
        have := HL.out
        rw [h3, Cs_nil] at this
        simpa using this
      subst hkC
      clear h3
      have mk : ∀ W, Below X.heap.size X W → (Below X.heap.size X W ∧ W.cell? ⟨B3, 0, none⟩ = some (.int .i64 s.size) ∧ W.cell? ⟨B3, 1, none⟩ = some (.int .i64 k) ∧ W.cell? ⟨B3, 2, none⟩ = some (.int .i64 L) ∧ W.cell? ⟨B3, 3, none⟩ = some (.string H) ∧ W.cell? ⟨B3, 4, none⟩ = some (.string T)) := fun W hB => ⟨hB, box_at (row_keep HXR.out hB)⟩
      have MK := hide mk
      clear mk
      go_wp2_with (fail)
      have hg := Try.noGuard24
      have heq := HEQ.out
      go_region_held3 (fun w' => Below X.heap.size X w' ∧ w'.cell? ⟨B3, 0, none⟩ = some (.int .i64 s.size) ∧ w'.cell? ⟨B3, 1, none⟩ = some (.int .i64 k) ∧ w'.cell? ⟨B3, 2, none⟩ = some (.int .i64 L) ∧ w'.cell? ⟨B3, 3, none⟩ = some (.string H) ∧ w'.cell? ⟨B3, 4, none⟩ = some (.string T)) (first | exact MK.out _ (((Below.refl _ X).alloc (Nat.le_refl _) _).drew) | exact MK.out _ hW2 | exact MK.out _ hW3 | exact MK.out _ hW4) (first | (go_at_call 11; refine (KR.out _).mono ?_; rintro e w2 ⟨rfl, hB2⟩; have hW2 : Below X.heap.size X w2 := bseq (((Below.refl _ X).alloc (Nat.le_refl _) _).drew) hB2) | (go_at_call 12; refine (KC.out _).mono ?_; rintro e w3 ⟨rfl, hB3⟩; have hW3 : Below X.heap.size X w3 := bseq hW2 hB3) | (go_at_call 13; refine (works_any _).mono ?_; rintro e w4 ⟨rfl, hB4⟩; have hW4 : Below X.heap.size X w4 := bseq hW3 hB4))
      go_wp2
      go_ret
      exact ⟨rfl, bseq HXB.out hW4⟩
end tallyTells
end Go.Proofs.Ytehekcfliloodaa
