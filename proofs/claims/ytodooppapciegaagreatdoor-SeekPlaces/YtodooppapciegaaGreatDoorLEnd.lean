/- What lines.ends and lines.End answer. -/
import Derived.Test.YtodooppapciegaaGreatDoorLM
import Derived.Test.YtodooppapciegaaGreatDoorTShelf
import Derived.Test.YtodooppapciegaaGreatDoorUFirst
namespace Go.Proofs.YtodooppapciegaaGreatDoor
open Go.RowKit Go.Shelf
set_option linter.unusedVariables false

theorem suffix_one (l : List UInt8) (b : UInt8) : Lib.hasSuffix l [b] = decide (l.getLast? = some b) := by
  unfold Lib.hasSuffix
  rw [Bool.eq_iff_iff, List.isSuffixOf_iff_suffix, decide_eq_true_eq]
  constructor
  · rintro ⟨t, rfl⟩; simp
  · intro h
    obtain ⟨ys, rfl⟩ := List.getLast?_eq_some_iff.1 h
    exact ⟨ys, rfl⟩
theorem prefix_one (l : List UInt8) (b : UInt8) : Lib.hasPrefix l [b] = decide (l[0]? = some b) := by
  unfold Lib.hasPrefix
  cases l with
  | nil => simp
  | cons a l =>
    by_cases h : b = a
    · subst h; simp
    · have h2 : ¬ (a = b) := fun e => h e.symm
      have h3 : (b == a) = false := by simpa using h
      simp [List.isPrefixOf, h2, h3]
/-- The byte ahead of a place is 0D. -/
theorem suffix_pv (s : ByteArray) (i : Nat) (hi : i ≤ s.size) : Lib.hasSuffix (s.extract 0 i).data.toList [13] = decide (pv (bl s) i = 13) := by
  rw [suffix_one]
  have h := bl_to s i
  unfold bl at h
  rw [h, Bool.eq_iff_iff, decide_eq_true_eq, decide_eq_true_eq]
  unfold pv
  have hl := bl_len s
  unfold bl at hl
  by_cases h0 : i = 0
  · subst h0; simp
  · rw [if_neg h0, List.getLast?_take, if_neg h0]
    have hlt : i - 1 < s.data.toList.length := by rw [hl]; omega
    unfold by' bl
    rw [List.getElem?_eq_getElem hlt]
    simp only [Option.some_or, Option.getD_some, Option.some.injEq]
    constructor
    · intro h; rw [h]; rfl
    · intro h; exact UInt8.toNat_inj.1 h
theorem prefix_nx (s : ByteArray) (i : Nat) : Lib.hasPrefix (s.extract i s.size).data.toList [10] = decide (by' (bl s) i = 10) := by
  rw [prefix_one]
  have h := bl_from s i
  unfold bl at h
  rw [h, Bool.eq_iff_iff, decide_eq_true_eq, decide_eq_true_eq, List.getElem?_drop]
  unfold by' bl
  simp only [Nat.add_zero]
  cases s.data.toList[i]? with
  | none => simp
  | some x =>
    simp only [Option.getD_some, Option.some.injEq]
    constructor
    · intro h; rw [h]; rfl
    · intro h; exact UInt8.toNat_inj.1 h

/-- The answer of End as a pair. -/
def endV (l : List UInt8) (i : Int) : Int × Bool := if 0 ≤ i ∧ i < (l.length : Int) then ((endW l i.toNat : Int), decide (endW l i.toNat ≠ 0)) else (0, false)
theorem ret_ib {a b : Int} {p q : Bool} (h : a = b) (k : p = q) : Ending.returned (.tuple #[.int .i64 a, .bool p]) = .returned (.tuple #[.int .i64 b, .bool q]) := by rw [h, k]

end Go.Proofs.YtodooppapciegaaGreatDoor
