/- Package pmem: Store. -/
import Derived.Test.YtmgeokmgidnneaaPFrm
namespace Go.Proofs.Ytmgeokmgidnneaa
open Go.RowKit Go.Shelf
set_option linter.unusedVariables false

section
variable {w : World} {b : Nat} {L : Lay} {σ : St} {a : Option Addr} {bs : List Nat}
end
/-- Behind k words the bytes ahead of them are written. -/
theorem splice_words (l bs : List Nat) (at_ k : Nat) (hlen : at_ + bs.length ≤ l.length) (hk : at_ ≤ k) (hk2 : k < at_ + bs.length) (n : Nat) (hn : n ≤ 8) (hn2 : k + n ≤ at_ + bs.length) :
    splice (splice l at_ (bs.take (k - at_))) k ((bs.drop (k - at_)).take n) = splice l at_ (bs.take (k + n - at_)) := by
  have l1 : (bs.take (k - at_)).length = k - at_ := by rw [List.length_take]; omega
  have l2 : ((bs.drop (k - at_)).take n).length = n := by rw [List.length_take, List.length_drop]; omega
  have l3 : (bs.take (k + n - at_)).length = k + n - at_ := by rw [List.length_take]; omega
  have l4 := splice_len l (bs.take (k - at_)) at_ (by omega)
  refine List.ext_getElem? fun q => ?_
  rw [splice_get _ _ _ _ (by omega), splice_get _ _ _ _ (by omega), splice_get _ _ _ _ (by omega), l1, l2, l3]
  by_cases h0 : q < at_
  · rw [if_pos (by omega), if_pos h0, if_pos h0]
  · by_cases h1 : q < k
    · rw [if_pos h1, if_neg h0, if_pos (by omega), if_neg h0, if_pos (by omega), List.getElem?_take, List.getElem?_take, if_pos (by omega), if_pos (by omega)]
    · rw [if_neg h1]
      by_cases h2 : q < k + n
      · rw [if_pos h2, if_neg h0, if_pos (by omega), List.getElem?_take, List.getElem?_take, if_pos (by omega), if_pos (by omega), List.getElem?_drop]
        congr 1
        omega
      · rw [if_neg h2, if_neg h0, if_neg (by omega), if_neg h0, if_neg (by omega)]
end Go.Proofs.Ytmgeokmgidnneaa
