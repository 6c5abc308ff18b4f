/- What the law's own begins answers. -/
import Derived.Test.YtegplcomhahpfaaLBackM
namespace Go.Proofs.Ytegplcomhahpfaa
open Go.RowKit Go.Shelf
set_option linter.unusedVariables false

set_option maxHeartbeats 400000 in
theorem lbegins_any (s : ByteArray) (n : Nat) (w : World) (hn : n ≤ s.size) (hs : s.size ≤ 9223372036854775807) :
    Calls Try.prog 31 #[.string s, .int .i64 (n : Int)] w fun e w' => (∃ b : Bool, e = .returned (.bool b) ∧ (b = true → Bd (bl s) n)) ∧ Below w.heap.size w w' := by
  go_enter Try.func31, Try.ntmps31
  go_wp2
  go_loopw [] (fun w' => ∃ pos k : Nat, w' = w.iter s pos ∧ pos ≤ s.size ∧ Inv (bl s) pos k) (fun w' => s.size - w'.iterPos w.heap.size)
  case atStart => exact ⟨0, 0, rfl, by omega, Inv.start _⟩
  case round =>
    obtain ⟨pos, k, rfl, hps, hI⟩ := hrel
    have HI := hide hI
    clear hI
    by_cases hlt : pos < s.size
    · have hnx : ∀ ty, (Instr.next (.pointer (some ⟨w.heap.size, 0, none⟩)) true ty).run Try.prog (w.iter s pos) = _ := fun ty => next_in w s pos ty hlt
      have h1 := cw_pos ((bl s).drop pos)
      have h2 := cw_len _ (bl_drop_ne hlt)
      rw [List.length_drop, bl_len] at h2
      by_cases hk : pos = n
      · have hb : ((pos : Int) == (n : Int)) = true := by simp [hk]
        have HK := hide hk
        clear hk
        go_wp2
        go_ret
        refine ⟨⟨_, rfl, fun _ => .inl ?_⟩, iter_below _ _ _⟩
        have h3 := HI.out.here (by rw [bl_len]; exact hlt)
        rw [← HK.out]
        exact ⟨_, List.mem_of_getElem? h3, rfl⟩
      · have hb : ((pos : Int) == (n : Int)) = false := by simp; omega
        go_wp2
        go_roundw
        case rel => exact ⟨_, k + 1, rfl, by omega, HI.out.step (by rw [bl_len]; exact hlt)⟩
        case measure => simp; omega
    · have hnx : ∀ ty, (Instr.next (.pointer (some ⟨w.heap.size, 0, none⟩)) true ty).run Try.prog (w.iter s pos) = _ := fun ty => run_next_end w s pos ty hlt
      go_wp2
      go_ret
      refine ⟨⟨_, rfl, fun h => .inr ?_⟩, iter_below _ _ _⟩
      rw [bl_len]
      simp at h
      omega
end Go.Proofs.Ytegplcomhahpfaa
