/- Package pmem: a content's bytes, laid at a place. -/
import Derived.Test.YtneknpkocjnmjaaPLay
namespace Go.Proofs.Ytneknpkocjnmjaa
open Go.RowKit Go.Shelf
set_option linter.unusedVariables false

theorem splice_more_at (cur c : List Nat) (o j : Nat) (hc : c.length = 64) (hn : o + 64 ≤ cur.length) (hj : j < 8) : splice (splice cur o (c.take (8 * j))) (o + j * 8) ((c.drop (j * 8)).take 8) = splice cur o (c.take (8 * (j + 1))) := by
  have l1 : (c.take (8 * j)).length = 8 * j := by rw [List.length_take]; omega
  have l2 : (c.take (8 * (j + 1))).length = 8 * (j + 1) := by rw [List.length_take]; omega
  have l3 : ((c.drop (j * 8)).take 8).length = 8 := by rw [List.length_take, List.length_drop]; omega
  have l4 := splice_len cur (c.take (8 * j)) o (by omega)
  refine List.ext_getElem? fun k => ?_
  rw [splice_get _ _ _ _ (by omega), splice_get _ _ _ _ (by omega), splice_get _ _ _ _ (by omega), l1, l2, l3]
  by_cases h0 : k < o
  · rw [if_pos (by omega), if_pos h0, if_pos h0]
  · by_cases h1 : k < o + j * 8
    · rw [if_pos h1, if_neg h0, if_pos (by omega), if_neg h0, if_pos (by omega), List.getElem?_take, List.getElem?_take, if_pos (by omega), if_pos (by omega)]
    · rw [if_neg h1]
      by_cases h2 : k < o + j * 8 + 8
      · rw [if_pos h2, if_neg h0, if_pos (by omega), List.getElem?_take, List.getElem?_take, if_pos (by omega), if_pos (by omega), List.getElem?_drop]
        congr 1
        omega
      · rw [if_neg h2, if_neg h0, if_neg (by omega), if_neg h0, if_neg (by omega)]
theorem splice_nil (l : List Nat) (o : Nat) : splice l o [] = l := by simp [splice]
end Go.Proofs.Ytneknpkocjnmjaa
