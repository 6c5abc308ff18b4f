/- What Join, Little and EqRows answer: bytes one behind the other, a number's bytes, whether two lists of lists of bytes are one. -/
import Derived.Test.YtafmpdljljmddaaRowsH
namespace Go.Proofs.Ytafmpdljljmddaa
open Go.RowKit
set_option linter.unusedVariables false

theorem flat_at {rs : List (List Nat)} {i : Nat} {r : List Nat} (h : rs[i]? = some r) : (rs.take i).flatten.length + r.length ≤ rs.flatten.length := by
  have e := List.take_append_drop (i + 1) rs
  have l := congrArg (fun l => l.flatten.length) e
  simp only [List.flatten_append, List.length_append, List.take_add_one, h, Option.toList_some, List.flatten_cons, List.flatten_nil, List.append_nil] at l
  omega
theorem flat_next {rs : List (List Nat)} {i : Nat} {r : List Nat} (h : rs[i]? = some r) : (rs.take (i + 1)).flatten = (rs.take i).flatten ++ r := by
  simp [List.take_add_one, h]



end Go.Proofs.Ytafmpdljljmddaa
