/- What the statements' own textMark answers. -/
import Derived.Test.YtegplcomhahpfaaLSplit
import Derived.Lib.SlBytesConst
namespace Go.Proofs.Ytegplcomhahpfaa
open Go.RowKit Go.Shelf
set_option linter.unusedVariables false

/-- The text that is a mark. -/
def tmk (i k : Nat) : ByteArray := ⟨#[UInt8.ofNat i, UInt8.ofNat (k % 256), UInt8.ofNat (k / 256 % 256)]⟩
theorem run_mark (i k : Nat) (w : World) (hi : i ≤ 100) :
    (convert 64 9 (.slice (some ⟨w.heap.size, 0, none⟩) 3 3)).run Try.prog (w.alloc (.cells #[.int .u8 (i : Int), .int .u8 ((k : Int) % 256), .int .u8 ((k : Int) / 256 % 256)] 5)) = .ok (.string (tmk i k)) (w.alloc (.cells #[.int .u8 (i : Int), .int .u8 ((k : Int) % 256), .int .u8 ((k : Int) / 256 % 256)] 5)) := by
  refine run_convert_bytes_back (P := Try.prog) _ 64 9 5 ⟨w.heap.size, 0, none⟩ 3 [UInt8.ofNat i, UInt8.ofNat (k % 256), UInt8.ofNat (k / 256 % 256)] Try.underlying64 Try.underlying5 Try.underlying9 (fun j hj => ?_)
  have h1 : (UInt8.ofNat i).toNat = i := by simp; omega
  have h2 : ((UInt8.ofNat (k % 256)).toNat : Int) = (k : Int) % 256 := by simp
  have h3 : ((UInt8.ofNat (k / 256 % 256)).toNat : Int) = (k : Int) / 256 % 256 := by simp
  match j, hj with
  | 0, _ => simp only [List.getElem_cons_zero, h1]; simp [Addr.add]
  | 1, _ => simp only [List.getElem_cons_succ, List.getElem_cons_zero, h2]; simp [Addr.add]
  | 2, _ => simp only [List.getElem_cons_succ, List.getElem_cons_zero, h3]; simp [Addr.add]

set_option maxRecDepth 100000 in
set_option maxHeartbeats 1000000 in
theorem textMark_any (i k : Nat) (w : World) (hi : i ≤ 100) (hk : k ≤ 2199023255652) :
    Calls Try.prog 25 #[.int .i64 (i : Int), .int .i64 (k : Int)] w fun e w' => e = .returned (.string (tmk i k)) ∧ Below w.heap.size w w' := by
  have kc := fun w => run_mark i k w hi
  have hiI : (i : Int) ≤ 100 := by omega
  have hkI : (k : Int) ≤ 2199023255652 := by omega
  generalize tmk i k = t at *
  clear hi hk
  go_enter Try.func25, Try.ntmps25
  go_wp2
  go_ret
  exact ⟨rfl, (Below.refl _ w).alloc (Nat.le_refl _) _⟩
end Go.Proofs.Ytegplcomhahpfaa
