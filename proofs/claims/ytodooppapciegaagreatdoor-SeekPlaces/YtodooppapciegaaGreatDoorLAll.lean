/- What the iterator of utf.All tells: the characters of a text, in their order, till a round says no more. -/
import Derived.Test.YtodooppapciegaaGreatDoorLSeq
import Derived.Lib.OthersKept
import Derived.WalkSmall
namespace Go.Proofs.YtodooppapciegaaGreatDoor
open Go.RowKit Go.Shelf
set_option linter.unusedVariables false
attribute [local go_sem] Oper.semAt_some

theorem nxt_at {P : Program} (w : World) (k : Nat) (s : ByteArray) (pos : Nat) (ty : TypeId) (hk : w.heap[k]? = some (.stringIter s pos)) (h : pos < s.size) :
    (Instr.next (.pointer (some ⟨k, 0, none⟩)) true ty).run P w = .ok (.tuple #[.bool true, .int .i64 pos, .int .i32 (rune ((bl s).drop pos) : Nat)]) (w.iterAt k s (pos + cw ((bl s).drop pos))) := by
  rw [Lib.run_next_any_at w k s pos ty hk h, decode_eq s pos h]; rfl
theorem sub_iterAt {H : TypeId → Prop} {B k pos : Nat} {W : World} {s : ByteArray} (h : W.heap[k]? = some (.stringIter s pos)) (hB : B ≤ k) (pos' : Nat) : Sub H B W (W.iterAt k s pos') := by
  have hb := Lib.below_iterAt (Below.refl k W) (k := k) (Nat.le_refl _) s pos'
  refine ⟨⟨hb.os, hb.tape, hb.output, hb.size⟩, fun i o hi hc => ?_⟩
  by_cases e : i = k
  · subst e
    rw [h] at hi
    cases hi
    rcases hc with h1 | h1
    · omega
    · exact absurd h1 (not_held rfl)
  · rw [Lib.iterAt_other _ _ _ _ _ e]; exact hi
/-- What is told of a character: where it begins, and its rune. -/
def encC (e : Nat × Nat × Nat) : Array Value := #[.int .i64 (e.1 : Int), .int .i32 (e.2.1 : Int)]
theorem take_snoc {α : Type} {l : List α} {k : Nat} {e : α} (h : l[k]? = some e) : l.take k ++ [e] = l.take (k + 1) := by
  rw [List.take_add_one, h]; rfl
theorem take_pre {α : Type} (l : List α) (k : Nat) : l.take k <+: l := List.take_prefix _ _

end Go.Proofs.YtodooppapciegaaGreatDoor
