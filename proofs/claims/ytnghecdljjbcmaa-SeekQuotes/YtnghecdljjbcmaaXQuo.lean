/- Package seek: Quote, as the program and as the document have it. -/
import Derived.Test.YtnghecdljjbcmaaSBld
import Derived.Test.YtnghecdljjbcmaaUFirst
import Derived.Lib.ConvBytes
import Derived.OwnWalk
import Derived.Maps.AppendAt
namespace Go.Proofs.Ytnghecdljjbcmaa
open Go.RowKit Go.Shelf
set_option linter.unusedVariables false

/-- The marks that do not stand for themselves. -/
def xmk (c : Nat) : Bool := c == 46 || c == 91 || c == 93 || c == 42 || c == 43 || c == 63 || c == 94 || c == 36 || c == 92
def xq1 (b : UInt8) : List UInt8 := if xmk b.toNat = true then [92, b] else [b]
def xqo (l : List UInt8) : List UInt8 := l.flatMap xq1
theorem xqo_len (l : List UInt8) : (xqo l).length ≤ 2 * l.length := by
  unfold xqo
  induction l with
  | nil => simp
  | cons a t ih =>
    rw [List.flatMap_cons, List.length_append, List.length_cons]
    have : (xq1 a).length ≤ 2 := by unfold xq1; split <;> simp
    omega
theorem xqo_snoc {l : List UInt8} {k : Nat} (h : k < l.length) : xqo (l.take (k + 1)) = xqo (l.take k) ++ xq1 l[k] := by
  unfold xqo
  rw [List.take_add_one, List.getElem?_eq_getElem h, List.flatMap_append]
  simp
theorem xmk_cases (c : Nat) : (xmk c = true ∧ (c = 46 ∨ c = 91 ∨ c = 93 ∨ c = 42 ∨ c = 43 ∨ c = 63 ∨ c = 94 ∨ c = 36 ∨ c = 92)) ∨ (xmk c = false ∧ c ≠ 46 ∧ c ≠ 91 ∧ c ≠ 93 ∧ c ≠ 42 ∧ c ≠ 43 ∧ c ≠ 63 ∧ c ≠ 94 ∧ c ≠ 36 ∧ c ≠ 92) := by
  unfold xmk
  cases h : (c == 46 || c == 91 || c == 93 || c == 42 || c == 43 || c == 63 || c == 94 || c == 36 || c == 92) with
  | true => simp at h; exact .inl ⟨rfl, by omega⟩
  | false => simp at h; exact .inr ⟨rfl, by omega⟩
end Go.Proofs.Ytnghecdljjbcmaa
