/- The lines of a script that say something (no program in it). -/
import Derived.Test.YtmhbhpjpnmggkaaDoorSSays
import Derived.Test.YtmhbhpjpnmggkaaDoorLM2
namespace Go.Proofs.YtmhbhpjpnmggkaaDoor
open Go.RowKit Go.Shelf
set_option linter.unusedVariables false

/-- A line without its end. -/
def lnT (s : ByteArray) (x : Nat × Nat × Nat) : ByteArray := s.extract x.1 x.2.1
/-- What is told of so many lines: those that say something, by their numbers. -/
def told (s : ByteArray) (pre : List (Nat × Nat × Nat)) : List (Nat × ByteArray) := (pre.zipIdx 1).filterMap fun y => if saysV (lnT s y.1) = true then some (y.2, lnT s y.1) else none
theorem told_nil (s : ByteArray) : told s [] = [] := rfl
theorem told_app (s : ByteArray) (pre t : List (Nat × Nat × Nat)) : told s (pre ++ t) = told s pre ++ (t.zipIdx (1 + pre.length)).filterMap (fun y => if saysV (lnT s y.1) = true then some (y.2, lnT s y.1) else none) := by
  unfold told
  rw [List.zipIdx_append, List.filterMap_append, Nat.add_comm]
theorem told_yes {s : ByteArray} {pre : List (Nat × Nat × Nat)} {x : Nat × Nat × Nat} (h : saysV (lnT s x) = true) : told s (pre ++ [x]) = told s pre ++ [(pre.length + 1, lnT s x)] := by
  rw [told_app]
  simp [h, Nat.add_comm]
theorem told_no {s : ByteArray} {pre : List (Nat × Nat × Nat)} {x : Nat × Nat × Nat} (h : saysV (lnT s x) = false) : told s (pre ++ [x]) = told s pre := by
  rw [told_app]
  simp [h]
theorem told_pre {s : ByteArray} {pre xs : List (Nat × Nat × Nat)} (h : pre <+: xs) : told s pre <+: told s xs := by
  obtain ⟨t, rfl⟩ := h
  rw [told_app]
  exact List.prefix_append _ _
theorem told_len (s : ByteArray) (pre : List (Nat × Nat × Nat)) : (told s pre).length ≤ pre.length := by
  unfold told
  have := List.length_filterMap_le (fun y : (Nat × Nat × Nat) × Nat => if saysV (lnT s y.1) = true then some (y.2, lnT s y.1) else none) (pre.zipIdx 1)
  simpa using this
theorem told_mem {s : ByteArray} {pre : List (Nat × Nat × Nat)} {y : Nat × ByteArray} (h : y ∈ told s pre) : y.1 ≤ pre.length := by
  unfold told at h
  obtain ⟨⟨x, i⟩, hx, he⟩ := List.mem_filterMap.1 h
  have hi := List.mem_zipIdx hx
  simp only at he hi
  split at he
  · cases he
    show i ≤ _
    omega
  · cases he
/-- What is told of a script. -/
def SLs (s : ByteArray) : List (Nat × ByteArray) := told s (Ls (bl s))
def encS (y : Nat × ByteArray) : Array Value := #[.int .i64 (y.1 : Int), .string y.2]
end Go.Proofs.YtmhbhpjpnmggkaaDoor
