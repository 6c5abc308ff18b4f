/- What opening arguments leans on. -/
import Derived.Test.YtnghecdljjbcmaaUFirst
import Derived.ProofKit
import Derived.ChangeOld
import Derived.ChangeMaps5
import Derived.SizedLaws
import Derived.JoinedCond
namespace Go.Proofs.Ytnghecdljjbcmaa
open Go.ChangeShapes Go.WideShapes Go.ChangeAt Go.RowKit
set_option linter.unusedVariables false

theorem own : ownKnob Try.prog.godebug = none := by kernel_rfl
theorem laidOut : laidOutB Try.prog = true := by kernel_rfl
theorem size_of_sized {s : ByteArray} (h : s.data.toList.length ≤ reachBytes) : s.size ≤ 140737488351232 := by
  have : s.data.toList.length = s.size := by simp
  have e : reachBytes = 140737488351232 := by decide
  omega
theorem bulk_pos {H : Type} (d : DataW H) : 1 ≤ Rows.uptoBulk d := by
  cases d with
  | lit l => cases l <;> simp [Rows.uptoBulk]
  | _ => simp [Rows.uptoBulk]
theorem bulk_len {H : Type} (l : List (DataW H)) : l.length ≤ Rows.uptoBulkAll l := by
  induction l with
  | nil => simp [Rows.uptoBulkAll]
  | cons d r ih =>
    have := bulk_pos d
    simp only [Rows.uptoBulkAll, List.length_cons]
    omega
theorem bulk_string {H : Type} (s : ByteArray) : s.size ≤ Rows.uptoBulk (H := H) (.lit (.string s.data.toList)) := by
  simp [Rows.uptoBulk]
theorem bulk_nums {H : Type} {d : DataW H} {zs : List Int} (h : d = .nil ∧ zs = [] ∨ ∃ el sp, d = .slice el sp ∧ el.length = zs.length) : zs.length ≤ Rows.uptoBulk d := by
  rcases h with ⟨_, rfl⟩ | ⟨el, sp, rfl, h⟩
  · simp
  · have := bulk_len el
    simp only [Rows.uptoBulk]
    omega
theorem bulk_of {H : Type} {l : List (DataW H)} (h : Rows.uptoSmall H l = true) : Rows.uptoBulkAll l ≤ 1048576 := of_decide_eq_true h

theorem Try.bytes32 : Try.prog.bytesOf 21 = 4 := by kernel_rfl
end Go.Proofs.Ytnghecdljjbcmaa
