/- Package pmem: a content's bytes. -/
import Derived.Test.YtneknpkocjnmjaaPSt
namespace Go.Proofs.Ytneknpkocjnmjaa
open Go.RowKit Go.Shelf
set_option linter.unusedVariables false

theorem slice_whole (g : Nat) (w : World) : (Instr.sliceAt 76 (.pointer (some ⟨g, 0, none⟩)) none none none).run Try.prog w = .ok (.slice (some ⟨g, 0, none⟩) 8 8) w := by
  obtain ⟨it, h1, h2⟩ := info_of (t := 5) (n := 1) (by kernel_rfl)
  have hu : Try.prog.underlying 76 = some (.array 8 5) := by kernel_rfl
  simp [Instr.sliceAt, Sem.run_bind, run_underlying hu, Instr.sureAddr, Instr.sliceBounds, sizeOf, typeInfo, h1, Addr.add_mid]
theorem index_val (c : List Nat) (j : Nat) (hj : j < 8) (w : World) : (Instr.index 78 (.agg (c.map B8).toArray) (.int .i64 (j : Int))).run Try.prog w = .ok (.agg (((c.drop (j * 8)).take 8).map B8).toArray) w := by
  obtain ⟨it, h1, h2⟩ := info_of (t := 76) (n := 8) (by kernel_rfl)
  have hu : Try.prog.underlying 78 = some (.array 8 76) := by kernel_rfl
  have h3 : (0 : Int) ≤ (j : Int) ∧ (j : Int) < (8 : Nat) := by omega
  simp only [Instr.index, Sem.run_bind, run_underlying hu, Result.andThen_ok, Sem.run_pure, asIntOf, h3, and_self, if_true, sizeOf, typeInfo, h1, h2, Int.toNat_natCast, part, isAggW, run_program]
  rw [extract_map, Nat.add_sub_cancel_left]
theorem zero_word : ∃ Z : List Value, Z.length = 8 ∧ ∀ w : World, (zeroValue 76).run Try.prog w = .ok (.agg Z.toArray) w := by
  have h : (Try.prog.info? 76).map (fun i => (i.zero.map (fun z => match z with | .agg Z => Z.size | _ => 0))) = some (some 8) := by kernel_rfl
  cases hi : Try.prog.info? 76 with
  | none => rw [hi] at h; cases h
  | some it =>
    rw [hi] at h
    simp only [Option.map_some, Option.some.injEq] at h
    cases hz : it.zero with
    | none => rw [hz] at h; cases h
    | some z =>
      rw [hz] at h
      cases z <;> simp at h
      rename_i Z
      exact ⟨Z.toList, by simp [h], fun w => by simp [zeroValue, typeInfo, hi, hz]⟩
theorem splice_more (cur c : List Nat) (j : Nat) (hc : c.length = 64) (hn : 64 ≤ cur.length) (hj : j < 8) : splice (splice cur 0 (c.take (8 * j))) (j * 8) ((c.drop (j * 8)).take 8) = splice cur 0 (c.take (8 * (j + 1))) := by
  have l1 : (c.take (8 * j)).length = 8 * j := by rw [List.length_take]; omega
  have l2 : (c.take (8 * (j + 1))).length = 8 * (j + 1) := by rw [List.length_take]; omega
  have l3 : ((c.drop (j * 8)).take 8).length = 8 := by rw [List.length_take, List.length_drop]; omega
  have l4 := splice_len cur (c.take (8 * j)) 0 (by omega)
  refine List.ext_getElem? fun k => ?_
  rw [splice_get _ _ _ _ (by omega), splice_get _ _ _ _ (by omega), splice_get _ _ _ _ (by omega), l1, l2, l3]
  by_cases h1 : k < j * 8
  · rw [if_pos h1, if_neg (by omega), if_pos (by omega), if_neg (by omega), if_pos (by omega), List.getElem?_take, List.getElem?_take, if_pos (by omega), if_pos (by omega)]
  · rw [if_neg h1]
    by_cases h2 : k < j * 8 + 8
    · rw [if_pos h2, if_neg (by omega), if_pos (by omega), List.getElem?_take, List.getElem?_take, if_pos (by omega), if_pos (by omega), List.getElem?_drop]
      congr 1
      omega
    · rw [if_neg h2, if_neg (by omega), if_neg (by omega), if_neg (by omega), if_neg (by omega)]
end Go.Proofs.Ytneknpkocjnmjaa
