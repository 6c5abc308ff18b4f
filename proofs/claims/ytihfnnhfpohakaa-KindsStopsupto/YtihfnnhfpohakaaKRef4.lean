/- What the document's Fold answers. -/
import Derived.Test.YtihfnnhfpohakaaKRef3
namespace Go.Proofs.Ytihfnnhfpohakaa
open Go.RowKit
set_option linter.unusedVariables false

theorem foldRows_len : foldRows.length = 35 := by decide
theorem foldR_at {r : Int} {k : Nat} {x : Int × Int × Int × Int} (h : foldRows[k]? = some x) : foldR r (foldRows.drop k) = if x.1 ≤ r ∧ r ≤ x.2.1 ∧ (r - x.1) % x.2.2.1 = 0 then r + x.2.2.2 else foldR r (foldRows.drop (k + 1)) := by
  obtain ⟨hk, e⟩ := List.getElem?_eq_some_iff.1 h
  rw [List.drop_eq_getElem_cons hk, e]
  rfl
end Go.Proofs.Ytihfnnhfpohakaa
