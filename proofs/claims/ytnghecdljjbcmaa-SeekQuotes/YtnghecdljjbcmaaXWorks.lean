/- Package seek: the statements' own works(). -/
import Derived.Test.YtnghecdljjbcmaaXCmpW
import Derived.Test.YtnghecdljjbcmaaXFind
import Derived.Test.YtnghecdljjbcmaaXMatch
namespace Go.Proofs.Ytnghecdljjbcmaa
open Go.RowKit Go.Shelf
set_option linter.unusedVariables false
set_option linter.unusedSimpArgs false

theorem works_m : matchV itsW (bl ⟨#[120, 97, 98, 46, 99]⟩) 1 = (4, true) := by decide +kernel
theorem works_f : findV itsW (bl ⟨#[255, 97, 98, 46, 99]⟩) 0 = (1, 4, true) := by decide +kernel
theorem works_n : findV itsW (bl ⟨#[97, 98]⟩) 0 = (0, 0, false) := by decide +kernel
theorem Try.noHeldPc : Try.prog.stoodInHeld 41 = false := by kernel_rfl
theorem Try.fieldsPc : Try.prog.underlying 41 = some (.struct (Try.prog.fieldsOf 41)) := by kernel_rfl
theorem piece_eq (w : World) : (Op.equalIn 10000 41 (.agg #[.int .i64 1, .int .i64 4]) (.agg #[.int .i64 1, .int .i64 4])).run Try.prog w = .ok true w := by
  rw [run_equalIn_agg w 9999 41 _ _ Try.fieldsPc Try.noHeldPc]
  have u3 := Try.underlying3
  have a3 := Try.isAgg3
  unfold Program.fieldsOf
  rw [Try.underlying41]
  simp [Op.eqFields, part, u3, a3, go_sem]
theorem Try.noGuardPc : Try.prog.eqGuardType Try.prog.depth 41 = false := by kernel_rfl
set_option maxRecDepth 100000 in
set_option maxHeartbeats 4000000 in
theorem xworks_any (w : World) : Calls Try.prog 7 #[] w fun e w' => e = .returned (.bool true) ∧ Below w.heap.size w w' := by
  have kc := xcompile_works w
  have km := fun W D pb (h : PatL D itsW sW W pb) => match_any D itsW sW ⟨#[120, 97, 98, 46, 99]⟩ W pb h (by decide) (by decide) 1 (by decide)
  have k1 := fun W D pb (h : PatL D itsW sW W pb) => find_any D itsW sW ⟨#[255, 97, 98, 46, 99]⟩ W pb h (by decide) (by decide) 0 (by decide)
  have k2 := fun W D pb (h : PatL D itsW sW W pb) => find_any D itsW sW ⟨#[97, 98]⟩ W pb h (by decide) (by decide) 0 (by decide)
  rw [works_m] at km
  rw [works_f] at k1
  rw [works_n] at k2
  simp only at km k1 k2
  have pe := fun W => piece_eq W
  have pg := Try.noGuardPc
  have KC := hide kc
  have KM := hide km
  have K1 := hide k1
  have K2 := hide k2
  clear kc km k1 k2
  go_enter Try.func7, Try.ntmps7
  go_wp2_with (first
    | (go_at_call 11; refine Calls.mono (KC.out) ?_; rintro e x1 ⟨pb, D, rfl, hp, hb⟩; have HP := hide hp; have HB := hide hb; clear hp hb KC)
    | (go_at_call 12; refine (KM.out _ _ _ HP.out).mono ?_; rintro e x2 ⟨rfl, hb⟩; replace HP := hide (HP.out.below hb); replace HB := hide (bseq HB.out hb); clear hb KM)
    | (go_at_call 13; refine (K1.out _ _ _ HP.out).mono ?_; rintro e x3 ⟨rfl, hb⟩; have h8 := heap_alloc_new x3 (.cells #[.int .i64 1, .int .i64 4] 41); have H8 := hide h8; have hb8 : Below x3.heap.size x3 (x3.alloc (.cells #[.int .i64 1, .int .i64 4] 41)) := (Below.refl _ _).alloc (Nat.le_refl _) _; replace HP := hide (HP.out.below (bseq hb hb8)); replace HB := hide (bseq HB.out (bseq hb hb8)); clear hb hb8 h8 K1)
    | (go_at_call 13; refine (K2.out _ _ _ HP.out).mono ?_; rintro e x4 ⟨rfl, hb⟩; have hq := (hb.block _ (Array.getElem?_eq_some_iff.1 H8.out).1).trans H8.out; have q0 := cel2 hq 0 _ rfl; have q1 := cel2 hq 1 _ rfl; have qs := (Array.getElem?_eq_some_iff.1 hq).1; replace HB := hide (bseq HB.out hb); clear hb hq K2))
  go_ret
  exact ⟨rfl, HB.out.alloc HB.out.size _⟩
end Go.Proofs.Ytnghecdljjbcmaa
