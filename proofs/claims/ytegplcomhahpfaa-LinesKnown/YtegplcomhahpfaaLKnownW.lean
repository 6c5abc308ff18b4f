/- The road of LinesKnown: the examples of the chapter. -/
import Derived.Test.YtegplcomhahpfaaLAllW
import Derived.Test.YtegplcomhahpfaaLEndW
import Derived.Test.YtegplcomhahpfaaLWhrW
import Derived.Test.YtegplcomhahpfaaLPlcW
import Derived.Test.YtegplcomhahpfaaLWholeW
import Derived.Test.YtegplcomhahpfaaLBackW
import Derived.Deep.DeepCutAuto
namespace Go.Proofs.Ytegplcomhahpfaa.linesKnown
open Go.RowKit Go.Shelf Go.Proofs.Ytegplcomhahpfaa
set_option linter.unusedVariables false

set_option maxRecDepth 100000 in
set_option maxHeartbeats 4000000 in
theorem walk (w : World) :
    Calls Try.prog 6 #[] w fun e w' => e = .returned (.bool true) ∧ Below w.heap.size w w' := by
  go_enter Try.func6, Try.ntmps6
  go_upto_region 2 with (fail)
  have hc : ∀ i, i < 14 → ∃ t : ByteArray, t.size ≤ 9 ∧ (w.alloc (.cells #[.string ⟨#[]⟩, .string ⟨#[97]⟩, .string ⟨#[97, 10]⟩, .string ⟨#[13, 13, 10]⟩, .string ⟨#[97, 98, 10, 13, 99]⟩, .string ⟨#[195, 169, 13, 10, 255, 120]⟩, .string ⟨#[226, 128, 168]⟩, .string ⟨#[226, 128]⟩, .string ⟨#[194, 133]⟩, .string ⟨#[194, 13, 10, 226, 128, 169, 133]⟩, .string ⟨#[10, 13, 10, 13]⟩, .string ⟨#[226, 128, 168, 226, 128, 169, 194, 133, 120]⟩, .string ⟨#[226, 128, 168, 128, 168]⟩, .string ⟨#[12, 11, 28]⟩] 9)).cell? ⟨w.heap.size, i, none⟩ = some (.string t) := by
    intro i hi
    have h := heap_alloc_new w (.cells #[.string ⟨#[]⟩, .string ⟨#[97]⟩, .string ⟨#[97, 10]⟩, .string ⟨#[13, 13, 10]⟩, .string ⟨#[97, 98, 10, 13, 99]⟩, .string ⟨#[195, 169, 13, 10, 255, 120]⟩, .string ⟨#[226, 128, 168]⟩, .string ⟨#[226, 128]⟩, .string ⟨#[194, 133]⟩, .string ⟨#[194, 13, 10, 226, 128, 169, 133]⟩, .string ⟨#[10, 13, 10, 13]⟩, .string ⟨#[226, 128, 168, 226, 128, 169, 194, 133, 120]⟩, .string ⟨#[226, 128, 168, 128, 168]⟩, .string ⟨#[12, 11, 28]⟩] 9)
    match i, hi with
    | 0, _ => exact ⟨_, by decide, celOf h 0 _ rfl⟩
    | 1, _ => exact ⟨_, by decide, celOf h 1 _ rfl⟩
    | 2, _ => exact ⟨_, by decide, celOf h 2 _ rfl⟩
    | 3, _ => exact ⟨_, by decide, celOf h 3 _ rfl⟩
    | 4, _ => exact ⟨_, by decide, celOf h 4 _ rfl⟩
    | 5, _ => exact ⟨_, by decide, celOf h 5 _ rfl⟩
    | 6, _ => exact ⟨_, by decide, celOf h 6 _ rfl⟩
    | 7, _ => exact ⟨_, by decide, celOf h 7 _ rfl⟩
    | 8, _ => exact ⟨_, by decide, celOf h 8 _ rfl⟩
    | 9, _ => exact ⟨_, by decide, celOf h 9 _ rfl⟩
    | 10, _ => exact ⟨_, by decide, celOf h 10 _ rfl⟩
    | 11, _ => exact ⟨_, by decide, celOf h 11 _ rfl⟩
    | 12, _ => exact ⟨_, by decide, celOf h 12 _ rfl⟩
    | 13, _ => exact ⟨_, by decide, celOf h 13 _ rfl⟩
    | n + 14, h => omega
  have hBA : Below w.heap.size w (w.alloc (.cells #[.string ⟨#[]⟩, .string ⟨#[97]⟩, .string ⟨#[97, 10]⟩, .string ⟨#[13, 13, 10]⟩, .string ⟨#[97, 98, 10, 13, 99]⟩, .string ⟨#[195, 169, 13, 10, 255, 120]⟩, .string ⟨#[226, 128, 168]⟩, .string ⟨#[226, 128]⟩, .string ⟨#[194, 133]⟩, .string ⟨#[194, 13, 10, 226, 128, 169, 133]⟩, .string ⟨#[10, 13, 10, 13]⟩, .string ⟨#[226, 128, 168, 226, 128, 169, 194, 133, 120]⟩, .string ⟨#[226, 128, 168, 128, 168]⟩, .string ⟨#[12, 11, 28]⟩] 9)) := (Below.refl _ w).alloc (Nat.le_refl _) _
  generalize w.alloc (.cells #[.string ⟨#[]⟩, .string ⟨#[97]⟩, .string ⟨#[97, 10]⟩, .string ⟨#[13, 13, 10]⟩, .string ⟨#[97, 98, 10, 13, 99]⟩, .string ⟨#[195, 169, 13, 10, 255, 120]⟩, .string ⟨#[226, 128, 168]⟩, .string ⟨#[226, 128]⟩, .string ⟨#[194, 133]⟩, .string ⟨#[194, 13, 10, 226, 128, 169, 133]⟩, .string ⟨#[10, 13, 10, 13]⟩, .string ⟨#[226, 128, 168, 226, 128, 169, 194, 133, 120]⟩, .string ⟨#[226, 128, 168, 128, 168]⟩, .string ⟨#[12, 11, 28]⟩] 9) = A at *
  have HC := hide hc
  have HBA := hide hBA
  clear hc hBA
  go_wp2
  go_loopw [2] (fun q w' => ∃ i : Nat, q = .int .i64 (i : Int) ∧ i ≤ 14 ∧ Below A.heap.size A w') (fun q _ => (14 - intOf q).toNat)
  case atStart => exact ⟨0, rfl, by omega, Below.refl _ _⟩
  case round =>
    obtain ⟨i, rfl, hi, hB⟩ := hrel
    by_cases hlt : i < 14
    · have hltI : (i : Int) < 14 := by omega
      obtain ⟨t, ht, hcell⟩ := HC.out i hlt
      have hcW : ∀ W, Below wr.heap.size wr W → W.cell? ⟨w.heap.size, i, none⟩ = some (.string t) := fun W hW => ((hB.trans (hW.mono hB.size)).cell (p := ⟨w.heap.size, i, none⟩) (World.block_lt_of_cell? _ _ hcell)).trans hcell
      have k1 : ∀ w', Calls Try.prog 18 #[.string t, .int .i64 1] w' fun e w'' => e = .returned (.bool true) ∧ Below w'.heap.size w' w'' := fun w' => linesEnds.walk t 1 w' (by omega) (by omega)
      have k2 : ∀ w', Calls Try.prog 3 #[.string t, .int .u8 1] w' fun e w'' => e = .returned (.bool true) ∧ Below w'.heap.size w' w'' := fun w' => linesAll.walk t 1 w' (by omega) (by omega)
      have k3 : ∀ w', Calls Try.prog 19 #[.string t, .int .i64 9223372036854775807] w' fun e w'' => e = .returned (.bool true) ∧ Below w'.heap.size w' w'' := fun w' => linesWheres.walk t 9223372036854775807 w' (by omega)
      have k4 : ∀ w', Calls Try.prog 20 #[.string t, .agg #[.int .i64 9223372036854775807, .int .i64 (-9223372036854775807)]] w' fun e w'' => e = .returned (.bool true) ∧ Below w'.heap.size w' w'' := fun w' => linesPlaces.walk t 9223372036854775807 (-9223372036854775807) w' (by omega)
      have k5 : ∀ w', Calls Try.prog 4 #[.string t] w' fun e w'' => e = .returned (.bool true) ∧ Below w'.heap.size w' w'' := fun w' => linesWhole.walk t w' (by omega)
      have k6 : ∀ w', Calls Try.prog 21 #[.string t] w' fun e w'' => e = .returned (.bool true) ∧ Below w'.heap.size w' w'' := fun w' => linesBack.walk t w' (by omega)
      have K1 := hide k1
      have K2 := hide k2
      have K3 := hide k3
      have K4 := hide k4
      have K5 := hide k5
      have K6 := hide k6
      have HCW := hide hcW
      have HB := hide hB
      have c0 := hcW _ (Below.refl _ _)
      clear k1 k2 k3 k4 k5 k6 hcW hB ht hcell
      go_wp2_with (first | (go_at_call 18; refine (K1.out _).mono ?_; rintro e1 w1 ⟨rfl, hB1⟩; have c1 := HCW.out _ hB1; replace hB1 := hide hB1) | (go_at_call 3; refine (K2.out _).mono ?_; rintro e2 w2 ⟨rfl, hB2⟩; replace hB2 := hide (bseq hB1.out hB2); have c2 := HCW.out _ hB2.out) | (go_at_call 19; refine (K3.out _).mono ?_; rintro e3 w3 ⟨rfl, hB3⟩; replace hB3 := hide (bseq hB2.out hB3); have c3 := HCW.out _ hB3.out) | (go_at_call 20; refine (K4.out _).mono ?_; rintro e4 w4 ⟨rfl, hB4⟩; replace hB4 := hide (bseq hB3.out hB4); have c4 := HCW.out _ hB4.out) | (go_at_call 4; refine (K5.out _).mono ?_; rintro e5 w5 ⟨rfl, hB5⟩; replace hB5 := hide (bseq hB4.out hB5); have c5 := HCW.out _ hB5.out) | (go_at_call 21; refine (K6.out _).mono ?_; rintro e6 w6 ⟨rfl, hB6⟩; replace hB6 := hide (bseq hB5.out hB6)))
      go_roundw
      case rel => exact ⟨i + 1, by go_num, by omega, HB.out.trans (hB6.out.mono HB.out.size)⟩
      case measure => simp [intOf]; omega
    · have hltI : (14 : Int) ≤ (i : Int) := by omega
      have HB := hide hB
      clear hB hlt
      go_wp2_with (go_at_call 16; refine (works_any _).mono ?_; rintro e9 w9 ⟨rfl, hB9⟩)
      go_ret
      exact ⟨rfl, bseq (HBA.out.trans (HB.out.mono HBA.out.size)) hB9⟩
end Go.Proofs.Ytegplcomhahpfaa.linesKnown
