/- PmemNames, walked. -/
import Derived.Test.YtjegkkppminpfabPNo
namespace Go.Proofs.Ytjegkkppminpfab
open Go.RowKit Go.Shelf
set_option linter.unusedVariables false

set_option maxRecDepth 100000 in
set_option maxHeartbeats 1000000 in
theorem nothing_any {w : World} {p : Option Addr} (h : NoD w p) : Calls Try.prog 7 #[.pointer p] w fun e w' => e = .returned (.bool true) ∧ Below w.heap.size w w' := by
  have KL := hide (n_Load h)
  have H := hide h
  clear h
  go_enter Try.func7, Try.ntmps7
  go_wp2_with (first
    | (go_at_call 18; refine (KL.out).mono ?_; rintro e W ⟨rfl, hB⟩; have HN := hide (H.out.below hB); have HB := hide hB; clear hB)
    | (go_at_call 10; refine ((n_Store8 HN.out)).mono ?_; rintro e w' ⟨rfl, hw⟩; obtain rfl := hw.symm)
    | (go_at_call 20; refine ((n_Store HN.out)).mono ?_; rintro e w' ⟨rfl, hw⟩; obtain rfl := hw.symm)
    | (go_at_call 11; refine ((n_Flush HN.out)).mono ?_; rintro e w' ⟨rfl, hw⟩; obtain rfl := hw.symm)
    | (go_at_call 12; refine ((n_Fence HN.out)).mono ?_; rintro e w' ⟨rfl, hw⟩; obtain rfl := hw.symm)
    | (go_at_call 21; refine ((n_Arm HN.out)).mono ?_; rintro e w' ⟨rfl, hw⟩; obtain rfl := hw.symm)
    | (go_at_call 15; refine ((n_Crash HN.out)).mono ?_; rintro e w' ⟨rfl, hw⟩; obtain rfl := hw.symm)
    | (go_at_call 17; refine ((n_Wake HN.out)).mono ?_; rintro e w' ⟨rfl, hw⟩; obtain rfl := hw.symm)
    | (go_at_call 22; refine ((n_Size HN.out)).mono ?_; rintro e w' ⟨rfl, hw⟩; obtain rfl := hw.symm)
    | (go_at_call 13; refine ((n_Ops HN.out)).mono ?_; rintro e w' ⟨rfl, hw⟩; obtain rfl := hw.symm)
    | (go_at_call 16; refine ((n_Off HN.out)).mono ?_; rintro e w' ⟨rfl, hw⟩; obtain rfl := hw.symm)
    | (go_at_call 14; refine ((n_Contents HN.out)).mono ?_; rintro e w' ⟨rfl, hw⟩; obtain rfl := hw.symm)
    | (go_at_call 23; refine ((n_Image HN.out)).mono ?_; rintro e w' ⟨rfl, hw⟩; obtain rfl := hw.symm)
    | (go_at_call 24; refine ((n_Copy HN.out)).mono ?_; rintro e w' ⟨rfl, hw⟩; obtain rfl := hw.symm))
  go_ret
  exact ⟨rfl, HB.out⟩
theorem new_0 (w : World) : Calls Try.prog 4 #[.int .i64 0] w fun e w' => e = .returned (.tuple #[.pointer none, .int .i64 80]) ∧ w' = w := by
  go_enter Try.func4, Try.ntmps4
  go_wp2
  go_ret2
  exact ⟨rfl, rfl⟩
theorem new_100 (w : World) : Calls Try.prog 4 #[.int .i64 100] w fun e w' => e = .returned (.tuple #[.pointer none, .int .i64 80]) ∧ w' = w := by
  go_enter Try.func4, Try.ntmps4
  go_wp2
  go_ret2
  exact ⟨rfl, rfl⟩
theorem new_big (w : World) : Calls Try.prog 4 #[.int .i64 4194368] w fun e w' => e = .returned (.tuple #[.pointer none, .int .i64 80]) ∧ w' = w := by
  go_enter Try.func4, Try.ntmps4
  go_wp2
  go_ret2
  exact ⟨rfl, rfl⟩
theorem from_nil (w : World) : Calls Try.prog 5 #[.slice none 0 0] w fun e w' => e = .returned (.tuple #[.pointer none, .int .i64 80]) ∧ w' = w := by
  go_enter Try.func5, Try.ntmps5
  go_wp2_with (go_at_call 4; refine (new_0 _).mono ?_; rintro e w' ⟨rfl, hw⟩; obtain rfl := hw.symm)
  go_ret2
  exact ⟨rfl, rfl⟩
set_option maxRecDepth 100000 in
set_option maxHeartbeats 400000 in
theorem pmemNames_walk (w : World) : Calls Try.prog 3 #[] w fun e w' => e = .returned (.bool true) ∧ Below w.heap.size w w' := by
  have A0 := hide (trivial : True)
  have A1 := hide (trivial : True)
  have A2 := hide (trivial : True)
  go_enter Try.func3, Try.ntmps3
  go_wp2_with (first
    | (go_at_call 4; clear A0; refine (new_0 w).mono ?_; rintro e w' ⟨rfl, hw⟩; obtain rfl := hw.symm)
    | (go_at_call 4; clear A1; refine (new_100 w).mono ?_; rintro e w' ⟨rfl, hw⟩; obtain rfl := hw.symm)
    | (go_at_call 4; clear A2; refine (new_big w).mono ?_; rintro e w' ⟨rfl, hw⟩; obtain rfl := hw.symm)
    | (go_at_call 5; refine (from_nil w).mono ?_; rintro e w' ⟨rfl, hw⟩; obtain rfl := hw.symm)
    | (go_at_call 6; refine (awake_any w).mono ?_; rintro e W1 ⟨rfl, hB⟩; have HB1 := hide hB; clear hB; have M1 := hide (trivial : True))
    | (go_at_call 7; clear M1; refine (nothing_any (NoD.nil W1)).mono ?_; rintro e W2 ⟨rfl, hB⟩; have HB2 := hide hB; clear hB)
    | (go_at_call 7; refine (nothing_any (NoD.zero (heapNew W2 _))).mono ?_; rintro e W3 ⟨rfl, hB⟩; have HB3 := hide hB; clear hB))
  go_ret
  exact ⟨rfl, (HB1.out.trans (HB2.out.mono HB1.out.size)).trans ((((Below.refl _ W2).alloc (Nat.le_refl _) _).trans (HB3.out.mono (by simp))).mono (Nat.le_trans HB1.out.size HB2.out.size))⟩
end Go.Proofs.Ytjegkkppminpfab
