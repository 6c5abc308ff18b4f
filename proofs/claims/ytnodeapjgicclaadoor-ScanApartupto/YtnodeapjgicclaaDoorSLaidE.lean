/- What the listed variables of the library give a walk, the handle of the type of errors among them. -/
import Derived.Test.YtnodeapjgicclaaDoorSLaid
import Derived.Test.YtnodeapjgicclaaDoorSAs
namespace Go.Proofs.YtnodeapjgicclaaDoor
open Go.ChangeShapes Go.WideShapes Go.ChangeAt Go.RowKit
set_option linter.unusedVariables false

theorem gErrT : Tryd.prog.globalNamed "errors.errorType" = some 0 := by kernel_rfl
theorem errOnly : ((List.range Tryd.prog.types.size).filter fun t => Tryd.prog.rowNamed t [101, 114, 114, 111, 114]) = [24] := by kernel_rfl
theorem cutRt : (Tryd.prog.cutTypes.find? (·.1 == "internal/reflectlite.rtype")).map (·.2) = some 90 := by kernel_rfl
theorem handErr (ty : TypeId) (h : ty = 24) : typeHandle Tryd.prog ty = .pointer (some ⟨7, 24, none⟩) := by subst h; kernel_rfl
theorem laid_of6 {W : World} {L : List (String × DataW Unit)} (hL : (L.filter fun x => x.2.handleName?.isNone) = laidL) (hH : (L.filter fun x => x.2.handleName?.isSome) = [("errors.errorType", Rows.laid_errors_errorType)]) (h : laidMetH Tryd.prog L W) : LaidW W ∧ LaidZ W ∧ LaidE W := by
  unfold laidMetH at h
  rw [hH] at h
  obtain ⟨h1, h2⟩ := h
  rw [hL] at h1
  obtain ⟨a, b⟩ := laid_of (W := W) (by rw [MakeChecks.laidMetH_plain _ _ _ (by kernel_rfl)]; exact h1)
  have h3 := h2 _ (List.mem_singleton.2 rfl)
  simp only [show (Rows.laid_errors_errorType : DataW Unit).funcsIn? = none from rfl] at h3
  obtain ⟨name, u, ty, e1, e2, e3, e4, e5⟩ := h3
  have en : name = [101, 114, 114, 111, 114] := (Option.some.inj ((show (Rows.laid_errors_errorType : DataW Unit).handleName? = some [101, 114, 114, 111, 114] from rfl).symm.trans e1)).symm
  subst en
  obtain rfl := Option.some.inj (cutRt.symm.trans e2)
  have hm : ty ∈ (List.range Tryd.prog.types.size).filter fun t => Tryd.prog.rowNamed t [101, 114, 114, 111, 114] := List.mem_filter.2 ⟨List.mem_range.2 e3, e4⟩
  rw [errOnly] at hm
  have ht := List.mem_singleton.1 hm
  refine ⟨a, b, ?_⟩
  have c := World.var?_cell gErrT e5 0
  rw [handErr ty ht] at c
  unfold LaidE
  rw [c]
  rfl
theorem door_met6 (os : Os) (args : Array Value) {L : List (String × DataW Unit)} (hL : (L.filter fun x => x.2.handleName?.isNone) = laidL)
    (hH : (L.filter fun x => x.2.handleName?.isSome && x.2.funcsIn?.isNone) = [("errors.errorType", Rows.laid_errors_errorType)]) (hF : funcsListed L = []) : laidMetH Tryd.prog L ((World.doorLaid Tryd.prog 100 os).forCall (fun _ _ => 0) ⟨#[], args, []⟩).memory :=
  laidMetH_of_parts3 (fuel := 8) (by rw [hL]; exact laidMet_of_run' 8 (by kernel_rfl) (by kernel_rfl)) (by rw [hH]; kernel_rfl) (by rw [hF]; rfl)
end Go.Proofs.YtnodeapjgicclaaDoor
