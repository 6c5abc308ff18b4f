/- Package pmem: Image. -/
import Derived.Test.YtneknpkocjnmjaaPLat
namespace Go.Proofs.Ytneknpkocjnmjaa
open Go.RowKit Go.Shelf
set_option linter.unusedVariables false

/-- An image of which j lines are laid. -/
def imgTo (σ : St) (j : Nat) : List Nat := σ.bytes.take (64 * j) ++ List.replicate (64 * (σ.n - j)) 0
theorem imgTo_len {σ : St} (hok : σ.Ok) {j : Nat} (hj : j ≤ σ.n) : (imgTo σ j).length = 64 * σ.n := by
  unfold imgTo
  rw [List.length_append, List.length_take, List.length_replicate, hok.len]
  omega
theorem imgTo_next {σ : St} (hok : σ.Ok) {j : Nat} (hj : j < σ.n) : splice (imgTo σ j) (j * 64) (σ.line j) = imgTo σ (j + 1) := by
  have hl := line_len hok hj
  have h1 := imgTo_len hok (Nat.le_of_lt hj)
  have hb := hok.len
  refine List.ext_getElem? fun k => ?_
  rw [splice_get _ _ _ _ (by omega), hl]
  unfold imgTo
  by_cases e1 : k < j * 64
  · rw [if_pos e1, List.getElem?_append_left (by rw [List.length_take]; omega), List.getElem?_append_left (by rw [List.length_take]; omega), List.getElem?_take, List.getElem?_take, if_pos (by omega), if_pos (by omega)]
  · rw [if_neg e1]
    by_cases e2 : k < j * 64 + 64
    · rw [if_pos e2, List.getElem?_append_left (by rw [List.length_take]; omega), List.getElem?_take, if_pos (by omega)]
      unfold St.line
      rw [List.getElem?_take, if_pos (by omega), List.getElem?_drop]
      congr 1
      omega
    · rw [if_neg e2, List.getElem?_append_right (by rw [List.length_take]; omega), List.getElem?_append_right (by rw [List.length_take]; omega), List.getElem?_replicate, List.getElem?_replicate, List.length_take, List.length_take]
      by_cases e3 : k < 64 * σ.n
      · rw [if_pos (by omega), if_pos (by omega)]
      · rw [if_neg (by omega), if_neg (by omega)]
section
variable {w : World} {b : Nat} {L : Lay} {σ : St}
end
end Go.Proofs.Ytneknpkocjnmjaa
