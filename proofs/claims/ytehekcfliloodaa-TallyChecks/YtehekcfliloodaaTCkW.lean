/- The road of TallyChecks: for every tally it returns true, and writes nothing that was there. -/
import Derived.Test.YtehekcfliloodaaTWk
import Derived.Test.YtehekcfliloodaaTRn
namespace Go.Proofs.Ytehekcfliloodaa
open Go.RowKit
set_option linter.unusedVariables false
namespace tallyChecks
set_option maxRecDepth 100000 in
set_option maxHeartbeats 4000000 in
theorem walk (b c l : Int) (h t : ByteArray) (w : World) (hb : b ≤ 9223372036854775807) :
    Calls Try.prog 5 #[(.agg #[.int .i64 b, .int .i64 c, .int .i64 l, .string h, .string t])] w fun e w' => e = .returned (.bool true) ∧ Below w.heap.size w w' := by
  have KC := hide (fun w => check_any b c l h t w hb)
  have KR := hide (fun w => refCheck_any b c l h t w hb)
  generalize okE (mayT b c l h t) = E at *
  have mk : ∀ W, Below (w.alloc (.cells #[.int .i64 b, .int .i64 c, .int .i64 l, .string h, .string t] 24)).heap.size (w.alloc (.cells #[.int .i64 b, .int .i64 c, .int .i64 l, .string h, .string t] 24)) W → (Below (w.alloc (.cells #[.int .i64 b, .int .i64 c, .int .i64 l, .string h, .string t] 24)).heap.size (w.alloc (.cells #[.int .i64 b, .int .i64 c, .int .i64 l, .string h, .string t] 24)) W ∧ W.cell? ⟨w.heap.size, 0, none⟩ = some (.int .i64 b) ∧ W.cell? ⟨w.heap.size, 1, none⟩ = some (.int .i64 c) ∧ W.cell? ⟨w.heap.size, 2, none⟩ = some (.int .i64 l) ∧ W.cell? ⟨w.heap.size, 3, none⟩ = some (.string h) ∧ W.cell? ⟨w.heap.size, 4, none⟩ = some (.string t)) := fun W hB => ⟨hB, box_below (box_at (heap_alloc_new w _)) hB (by simp)⟩
  have MK := hide mk
  clear mk
  have hEE : (E == E) = true := by simp
  go_enter Try.func5, Try.ntmps5
  go_wp2_with (fail)
  go_region_held3 (fun W => Below (w.alloc (.cells #[.int .i64 b, .int .i64 c, .int .i64 l, .string h, .string t] 24)).heap.size (w.alloc (.cells #[.int .i64 b, .int .i64 c, .int .i64 l, .string h, .string t] 24)) W ∧ W.cell? ⟨w.heap.size, 0, none⟩ = some (.int .i64 b) ∧ W.cell? ⟨w.heap.size, 1, none⟩ = some (.int .i64 c) ∧ W.cell? ⟨w.heap.size, 2, none⟩ = some (.int .i64 l) ∧ W.cell? ⟨w.heap.size, 3, none⟩ = some (.string h) ∧ W.cell? ⟨w.heap.size, 4, none⟩ = some (.string t)) (first | exact MK.out _ (Below.refl _ _).drew | exact MK.out _ hW2 | exact MK.out _ hW3 | exact MK.out _ hW4) (first | (go_at_call 12; refine (KC.out _).mono ?_; rintro e w2 ⟨rfl, hB2⟩; have hW2 := bseq (Below.refl _ _).drew hB2) | (go_at_call 14; refine (KR.out _).mono ?_; rintro e w3 ⟨rfl, hB3⟩; have hW3 := bseq hW2 hB3) | (go_at_call 13; refine (works_any _).mono ?_; rintro e w4 ⟨rfl, hB4⟩; have hW4 := bseq hW3 hB4))
  go_wp2
  go_ret
  exact ⟨rfl, bseq ((Below.refl _ w).alloc (Nat.le_refl _) _) hW4⟩
end tallyChecks
end Go.Proofs.Ytehekcfliloodaa
