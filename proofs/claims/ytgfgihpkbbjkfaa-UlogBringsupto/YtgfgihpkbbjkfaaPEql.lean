/- Contents are compared byte by byte; pointers to one block are one. -/
import Derived.Test.YtgfgihpkbbjkfaaPDev
import Derived.ChangeKeysEq
import Derived.LaidEql
import Derived.Laws.StructEq
namespace Go.Proofs.Ytgfgihpkbbjkfaa
open Go.RowKit
set_option linter.unusedVariables false
set_option linter.unusedSimpArgs false

theorem infoDev : ∃ i, Try.prog.info? 69 = some i ∧ i.size = 8 := by
  have h : (Try.prog.info? 69).map (·.size) = some 8 := by kernel_rfl
  cases hq : Try.prog.info? 69 with
  | none => rw [hq] at h; cases h
  | some i => rw [hq] at h; exact ⟨i, rfl, by simpa using h⟩
theorem neq_same (a : Addr) (w : World) : (binOp .neq 28 (.pointer (some a)) (.pointer (some a))).run Try.prog w = .ok (.bool false) w := by
  obtain ⟨i, hi, hs⟩ := infoDev
  have h : ∀ d : Nat, (Op.equalIn (d + 1) 28 (.pointer (some a)) (.pointer (some a))).run Try.prog w = .ok true w := fun d => by
    simp [Op.equalIn, run_underlying Try.underlying28, sizeOf, typeInfo, hi, run_sameAddr_same]
  simp only [binOp]
  simp [Op.equal, Op.maxDepth, h 9999]

theorem info_of {t : TypeId} {n : Nat} (h : (Try.prog.info? t).map (·.size) = some n) : ∃ i, Try.prog.info? t = some i ∧ i.size = n := by
  cases hq : Try.prog.info? t with
  | none => rw [hq] at h; cases h
  | some i => rw [hq] at h; exact ⟨i, rfl, by simpa using h⟩
theorem cellsOf8 : Try.prog.cellsOf 5 = 1 := by kernel_rfl
theorem cellsOfW : Try.prog.cellsOf 71 = 8 := by kernel_rfl
theorem isAgg8 (w : World) : (isAgg 5).run Try.prog w = .ok false w := by kernel_rfl
theorem isAggW (w : World) : (isAgg 71).run Try.prog w = .ok true w := by kernel_rfl
theorem sizeW (w : World) : (sizeOf 71).run Try.prog w = .ok 8 w := by kernel_rfl

theorem drop_get {l : List Nat} {k : Nat} (h : k < l.length) : l.drop k = l[k] :: l.drop (k + 1) := List.drop_eq_getElem_cons h
theorem eqItems8 (d : Nat) (xs ys : List Nat) (w : World) : ∀ (m k : Nat), k + m ≤ xs.length → k + m ≤ ys.length →
    (Op.eqItems (d + 1) 5 1 (xs.map B8).toArray (ys.map B8).toArray (List.range' k m)).run Try.prog w = .ok (decide ((xs.drop k).take m = (ys.drop k).take m)) w
  | 0, k, _, _ => by simp [Op.eqItems]
  | m + 1, k, hx, hy => by
    have ih := eqItems8 d xs ys w m (k + 1) (by omega) (by omega)
    have gx : (xs.map B8).toArray[k]? = some (.int .u8 (xs[k]'(by omega) : Int)) := by simp [B8, List.getElem?_eq_getElem (show k < xs.length by omega)]
    have gy : (ys.map B8).toArray[k]? = some (.int .u8 (ys[k]'(by omega) : Int)) := by simp [B8, List.getElem?_eq_getElem (show k < ys.length by omega)]
    rw [List.range'_succ]
    simp only [Op.eqItems, Sem.run_bind, part, isAgg8, Result.andThen_ok, Nat.mul_one, Bool.false_eq_true, if_false, gx, gy, Sem.run_pure, run_equalIn_int w d 5 .u8 .u8 _ _ Try.underlying5]
    rw [drop_get (show k < xs.length by omega), drop_get (show k < ys.length by omega), List.take_succ_cons, List.take_succ_cons]
    by_cases e : xs[k]'(by omega) = ys[k]'(by omega)
    · rw [e]
      simp only [beq_self_eq_true, Bool.not_true, Bool.false_eq_true, if_false, List.cons.injEq, true_and]
      exact ih
    · have e' : ((xs[k]'(by omega) : Int) == (ys[k]'(by omega) : Int)) = false := beq_eq_false_iff_ne.2 (by omega)
      rw [e']
      simp [e]
theorem eqWord (d : Nat) (xs ys : List Nat) (w : World) (hx : xs.length = 8) (hy : ys.length = 8) : (Op.equalIn (d + 2) 71 (.agg (xs.map B8).toArray) (.agg (ys.map B8).toArray)).run Try.prog w = .ok (decide (xs = ys)) w := by
  obtain ⟨i, hi, hs⟩ := info_of (t := 5) (n := 1) (by kernel_rfl)
  rw [run_equalIn_array w (d + 1) _ _ (e := 5) (n := 8) (by kernel_rfl) hi, cellsOf8, List.range_eq_range', eqItems8 d xs ys w 8 0 (by omega) (by omega)]
  rw [List.drop_zero, List.drop_zero, List.take_of_length_le (by omega), List.take_of_length_le (by omega)]
theorem extract_map (xs : List Nat) (a b : Nat) : (xs.map B8).toArray.extract a b = (((xs.drop a).take (b - a)).map B8).toArray := by
  simp [List.map_take, List.map_drop]
theorem eqItemsW (d : Nat) (xs ys : List Nat) (w : World) : ∀ (m k : Nat), 8 * (k + m) ≤ xs.length → 8 * (k + m) ≤ ys.length →
    (Op.eqItems (d + 2) 71 8 (xs.map B8).toArray (ys.map B8).toArray (List.range' k m)).run Try.prog w = .ok (decide ((xs.drop (8 * k)).take (8 * m) = (ys.drop (8 * k)).take (8 * m))) w
  | 0, k, _, _ => by simp [Op.eqItems]
  | m + 1, k, hx, hy => by
    have ih := eqItemsW d xs ys w m (k + 1) (by omega) (by omega)
    have el : k * 8 + 8 - k * 8 = 8 := by omega
    have hwd := eqWord d ((xs.drop (k * 8)).take 8) ((ys.drop (k * 8)).take 8) w (by rw [List.length_take, List.length_drop]; omega) (by rw [List.length_take, List.length_drop]; omega)
    rw [List.range'_succ]
    simp only [Op.eqItems, Sem.run_bind, part, isAggW, sizeW, Result.andThen_ok, if_true, Sem.run_pure, extract_map, el, hwd]
    have e1 : (xs.drop (8 * k)).take (8 * (m + 1)) = (xs.drop (k * 8)).take 8 ++ (xs.drop (8 * (k + 1))).take (8 * m) := by
      rw [show 8 * (m + 1) = 8 + 8 * m by omega, List.take_add, List.drop_drop, show 8 * k = k * 8 by omega, show k * 8 + 8 = 8 * (k + 1) by omega]
    have e2 : (ys.drop (8 * k)).take (8 * (m + 1)) = (ys.drop (k * 8)).take 8 ++ (ys.drop (8 * (k + 1))).take (8 * m) := by
      rw [show 8 * (m + 1) = 8 + 8 * m by omega, List.take_add, List.drop_drop, show 8 * k = k * 8 by omega, show k * 8 + 8 = 8 * (k + 1) by omega]
    rw [e1, e2]
    have hl : ((xs.drop (k * 8)).take 8).length = ((ys.drop (k * 8)).take 8).length := by simp; omega
    by_cases e : (xs.drop (k * 8)).take 8 = (ys.drop (k * 8)).take 8
    · rw [e]
      simp only [decide_true, Bool.not_true, Bool.false_eq_true, if_false, List.append_cancel_left_eq]
      exact ih
    · rw [decide_eq_false e]
      have : ¬ ((xs.drop (k * 8)).take 8 ++ (xs.drop (8 * (k + 1))).take (8 * m) = (ys.drop (k * 8)).take 8 ++ (ys.drop (8 * (k + 1))).take (8 * m)) := fun h => e (List.append_inj_left h hl)
      rw [decide_eq_false this]
      rfl
/-- Are two contents one? -/
theorem eql_content (xs ys : List Nat) (w : World) (hx : xs.length = 64) (hy : ys.length = 64) : (Op.equalIn 10000 73 (.agg (xs.map B8).toArray) (.agg (ys.map B8).toArray)).run Try.prog w = .ok (decide (xs = ys)) w := by
  obtain ⟨i, hi, hs⟩ := info_of (t := 71) (n := 8) (by kernel_rfl)
  rw [run_equalIn_array w 9999 _ _ (e := 71) (n := 8) (by kernel_rfl) hi, cellsOfW, List.range_eq_range', eqItemsW 9997 xs ys w 8 0 (by omega) (by omega)]
  rw [List.drop_zero, List.drop_zero, List.take_of_length_le (by omega), List.take_of_length_le (by omega)]
end Go.Proofs.Ytgfgihpkbbjkfaa
