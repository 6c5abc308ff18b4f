/- Package persist: Bytes, whole. -/
import Derived.Test.YtgfgihpkbbjkfaaQByt
namespace Go.Proofs.Ytgfgihpkbbjkfaa
open Go.RowKit Go.Shelf
set_option linter.unusedVariables false

/-- What Bytes makes of a device. -/
def bytesDo (bs : List Nat) (at_ : Nat) (σ : St) : St := fenceDo (linesDo (writeDo bs at_ σ (wordsOf at_ bs.length)) (linesOf at_ bs.length))
theorem linesOf_len {at_ n : Nat} (h : at_ + n ≤ 4194304) : (linesOf at_ n).length ≤ 65537 := by
  unfold linesOf unitsV
  rw [List.length_map]
  split
  · simp
  · rw [upto_length]
    omega
theorem Atd.base {w W0 W : World} {b : Nat} {L : Lay} {σ σ' : St} {m : Nat} (h : Atd W0 b L σ W σ' m) (hB : Below w.heap.size w W0) : Atd w b L σ W σ' m := by
  obtain ⟨hg, L', hd, hf, hN⟩ := h
  exact ⟨(Gr.of_below hB).trans hg (fun i h => .inl h), L', hd, fun k hk => (hf k hk).imp id (fun h => Nat.le_trans hB.size h), hN⟩
section
variable {w : World} {b : Nat} {L : Lay} {σ : St}
def byA (b at_ n cap : Nat) (a : Option Addr) (j : Nat) : Array Value := if j = 0 then #[.agg #[.pointer (some ⟨b, 0, none⟩), .int .i64 (at_ : Int), .int .i64 (n : Int), .slice a n cap]] else if j = 1 then #[.agg #[.pointer (some ⟨b, 0, none⟩), .int .i64 (at_ : Int), .int .i64 (n : Int)]] else #[.pointer (some ⟨b, 0, none⟩)]
def byS (bs : List Nat) (at_ : Nat) (σ : St) (j : Nat) : St := if j = 0 then σ else if j = 1 then writeDo bs at_ σ (wordsOf at_ bs.length) else if j = 2 then linesDo (writeDo bs at_ σ (wordsOf at_ bs.length)) (linesOf at_ bs.length) else bytesDo bs at_ σ
def byM (at_ n j : Nat) : Nat := if j = 0 then 0 else if j = 1 then (wordsOf at_ n).length else (wordsOf at_ n).length + (linesOf at_ n).length
theorem three {j : Nat} (h : j < 3) : j = 0 ∨ j = 1 ∨ j = 2 := by omega
end
end Go.Proofs.Ytgfgihpkbbjkfaa
