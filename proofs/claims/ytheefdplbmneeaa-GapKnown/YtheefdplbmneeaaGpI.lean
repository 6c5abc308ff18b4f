/- A gap is made, and opened out of a block. -/
import Derived.Test.YtheefdplbmneeaaGpH
namespace Go.Proofs.Ytheefdplbmneeaa
open Go.RowKit
set_option linter.unusedVariables false
set_option linter.unusedSimpArgs false

theorem laid_g {w : World} {g p : Nat} {S : ByteArray} (h : GapL w g S p) : Calls Try.prog 41 #[.pointer (some ⟨g, 0, none⟩)] w fun e w' => e = .returned (.agg ((blk S p).map B8).toArray) ∧ Below w.heap.size w w' :=
  laid_any h.2.2 h.dlen h.dlt (by have := h.1; have := h.2.1; omega) (by have := h.1; have := h.2.1; omega)
theorem gp_range8 {w : World} {b off : Nat} {bs : List Nat} (h : Seg w b off bs) : w.rangeAt b off (bs.map B8) := by
  intro j v hj
  rw [List.getElem?_map] at hj
  obtain ⟨x, hx, rfl⟩ := Option.map_eq_some_iff.1 hj
  exact (h j x hx).1
theorem bytes_world (w : World) (S : ByteArray) : ∃ c W, (convert 9 22 (.string S)).run Try.prog w = .ok (.slice (some ⟨w.heap.size, 0, none⟩) S.size c) W ∧ Sl W (some ⟨w.heap.size, 0, none⟩) (tx S) ∧ Below w.heap.size w W := by
  refine ⟨_, _, Lib.run_convert_string_bytes w 9 22 5 S Try.underlying9 Try.underlying22 Try.underlying5, ?_, ?_⟩
  · refine .inr ⟨w.heap.size, 0, rfl, by rw [Lib.bytesWorld_size]; omega, fun i x hi => ⟨?_, tx_lt S x (List.mem_of_getElem? hi)⟩⟩
    have hl := (List.getElem?_eq_some_iff.1 hi).1
    rw [tx_len] at hl
    rw [Nat.zero_add, Lib.bytesWorld_cell w 5 S i hl]
    unfold tx at hi
    rw [List.getElem?_map] at hi
    obtain ⟨c, hc, rfl⟩ := Option.map_eq_some_iff.1 hi
    simp [List.getD, hc]
  · exact ⟨rfl, rfl, rfl, by rw [Lib.bytesWorld_size]; omega, fun k hk => Lib.bytesWorld_at_old w 5 S k hk⟩
section
variable {w : World}
theorem make_no (S : ByteArray) (h : 252 < S.size) : Calls Try.prog 11 #[.string S] w fun e w' => e = .returned (.tuple #[.pointer none, .int .i64 161]) ∧ w' = w := by
  have hI : (252 : Int) < (S.size : Int) := by omega
  go_enter Try.func11, Try.ntmps11
  go_wp2
  go_ret2
  exact ⟨rfl, rfl⟩
theorem make_yes (S : ByteArray) (h : S.size ≤ 252) : Calls Try.prog 11 #[.string S] w fun e w' => ∃ g, e = .returned (.tuple #[.pointer (some ⟨g, 0, none⟩), .int .i64 0]) ∧ GapL w' g S S.size ∧ w.heap.size ≤ g ∧ Below w.heap.size w w' := by
  have hI : (S.size : Int) ≤ 252 := by omega
  obtain ⟨c, W, hcv, hsl, hB⟩ := bytes_world w S
  have kb : Calls Try.prog 32 #[.slice (some ⟨w.heap.size, 0, none⟩) S.size c, .slice none 0 0] W fun e w' => ∃ g, e = .returned (.pointer (some ⟨g, 0, none⟩)) ∧ GapL w' g S S.size ∧ W.heap.size ≤ g ∧ Below W.heap.size W w' := by
    have k := between_any (w := W) (some ⟨w.heap.size, 0, none⟩) none c 0 (tx S) [] hsl (.inl rfl) (by rw [tx_len]; simpa using h)
    rw [tx_len, List.append_nil] at k
    refine k.mono ?_
    rintro e w' ⟨g, rfl, hg, h3, h4⟩
    refine ⟨g, rfl, ⟨Nat.le_refl _, h, ?_⟩, h3, h4⟩
    rw [show S.size + (252 - S.size) = 252 - ([] : List Nat).length by simp; omega]
    exact hg
  have KB := hide kb
  have HB := hide hB
  clear kb hB hsl h
  go_enter Try.func11, Try.ntmps11
  go_wp2_with (go_at_call 32; refine (KB.out).mono ?_; rintro e W2 ⟨g, rfl, hg2, hn2, hb2⟩; have G2 := hide hg2; have N2 := hide hn2; have B2 := hide hb2; clear hg2 hn2 hb2)
  go_ret2
  exact ⟨g, rfl, G2.out, Nat.le_trans HB.out.size N2.out, bseq HB.out B2.out⟩
theorem gp_eqItems (d : Nat) (xs ys : List Nat) (w : World) : ∀ (m k : Nat), k + m ≤ xs.length → k + m ≤ ys.length →
    (Op.eqItems (d + 1) 5 1 (xs.map B8).toArray (ys.map B8).toArray (List.range' k m)).run Try.prog w = .ok (decide ((xs.drop k).take m = (ys.drop k).take m)) w
  | 0, k, _, _ => by simp [Op.eqItems]
  | m + 1, k, hx, hy => by
    have isAgg8 : (isAgg 5).run Try.prog w = .ok false w := by kernel_rfl
    have ih := gp_eqItems d xs ys w m (k + 1) (by omega) (by omega)
    have gx : (xs.map B8).toArray[k]? = some (.int .u8 (xs[k]'(by omega) : Int)) := by simp [B8, List.getElem?_eq_getElem (show k < xs.length by omega)]
    have gy : (ys.map B8).toArray[k]? = some (.int .u8 (ys[k]'(by omega) : Int)) := by simp [B8, List.getElem?_eq_getElem (show k < ys.length by omega)]
    rw [List.range'_succ]
    simp only [Op.eqItems, Sem.run_bind, part, isAgg8, Result.andThen_ok, Nat.mul_one, Bool.false_eq_true, if_false, gx, gy, Sem.run_pure, run_equalIn_int w d 5 .u8 .u8 _ _ Try.underlying5]
    rw [List.drop_eq_getElem_cons (show k < xs.length by omega), List.drop_eq_getElem_cons (show k < ys.length by omega), List.take_succ_cons, List.take_succ_cons]
    by_cases e : xs[k]'(by omega) = ys[k]'(by omega)
    · rw [e]
      simp only [beq_self_eq_true, Bool.not_true, Bool.false_eq_true, if_false, List.cons.injEq, true_and]
      exact ih
    · have e' : ((xs[k]'(by omega) : Int) == (ys[k]'(by omega) : Int)) = false := beq_eq_false_iff_ne.2 (by omega)
      rw [e']
      simp [e]
theorem gp_eql (xs ys : List Nat) (w : World) (hx : xs.length = 256) (hy : ys.length = 256) : (Op.equalIn 10000 69 (.agg (xs.map B8).toArray) (.agg (ys.map B8).toArray)).run Try.prog w = .ok (decide (xs = ys)) w := by
  obtain ⟨i, hi, hs⟩ := gp_info (t := 5) (n := 1) (by kernel_rfl)
  have cellsOf8 : Try.prog.cellsOf 5 = 1 := by kernel_rfl
  rw [run_equalIn_array w 9999 _ _ (e := 5) (n := 256) (by kernel_rfl) hi, cellsOf8, List.range_eq_range', gp_eqItems 9998 xs ys w 256 0 (by omega) (by omega)]
  rw [List.drop_zero, List.drop_zero, List.take_of_length_le (by omega), List.take_of_length_le (by omega)]
theorem cut_4 (b off cap : Nat) (h : 256 ≤ cap) (W : World) : (Instr.sliceAt 22 (.slice (some ⟨b, off, none⟩) 256 cap) (some (.int .i64 4)) none none).run Try.prog W = .ok (.slice (some ⟨b, off + 4, none⟩) 252 (cap - 4)) W := by
  obtain ⟨it, h1, h2⟩ := gp_info (t := 5) (n := 1) (by kernel_rfl)
  have e : ¬ (cap = 4) := by omega
  simp [Instr.sliceAt, Instr.slice, Sem.run_bind, run_underlying Try.underlying22, Instr.sliceBounds, Instr.sliceBound, asIntOf, sizeOf, typeInfo, h1, h2, e, Addr.add_mid]
theorem cut_to16 (b off k cap : Nat) (hk : k ≤ 252) (h : 252 ≤ cap) (W : World) : (Instr.sliceAt 22 (.slice (some ⟨b, off, none⟩) 252 cap) none (some (.int .u16 (k : Int))) none).run Try.prog W = .ok (.slice (some ⟨b, off, none⟩) k cap) W := by
  obtain ⟨it, h1, h2⟩ := gp_info (t := 5) (n := 1) (by kernel_rfl)
  have e : (k : Int) ≤ (cap : Int) := by omega
  by_cases h0 : cap = 0
  · omega
  · simp [Instr.sliceAt, Instr.slice, Sem.run_bind, run_underlying Try.underlying22, Instr.sliceBounds, Instr.sliceBound, asIntOf, sizeOf, typeInfo, h1, h2, e, h0, Addr.add_mid]
    omega
theorem cut_fr16 (b off k cap : Nat) (hk : k ≤ 252) (h : 252 ≤ cap) : ∃ q n : Nat, (∀ W, (Instr.sliceAt 22 (.slice (some ⟨b, off, none⟩) 252 cap) (some (.int .u16 (k : Int))) none none).run Try.prog W = .ok (.slice (some ⟨b, q, none⟩) (252 - k) n) W) ∧ (k < 252 → q = off + k) := by
  obtain ⟨it, h1, h2⟩ := gp_info (t := 5) (n := 1) (by kernel_rfl)
  have e : (k : Int) ≤ 252 := by omega
  by_cases h0 : cap = k
  · refine ⟨off, 0, fun W => ?_, fun hlt => by omega⟩
    have hk2 : k = 252 := by omega
    subst hk2
    simp [Instr.sliceAt, Instr.slice, Sem.run_bind, run_underlying Try.underlying22, Instr.sliceBounds, Instr.sliceBound, asIntOf, sizeOf, typeInfo, h1, h2, h0]
  · refine ⟨off + k, cap - k, fun W => ?_, fun _ => rfl⟩
    simp [Instr.sliceAt, Instr.slice, Sem.run_bind, run_underlying Try.underlying22, Instr.sliceBounds, Instr.sliceBound, asIntOf, sizeOf, typeInfo, h1, h2, e, h0, Addr.add_mid, hk]
theorem open_len (a : Option Addr) (n cap : Nat) (h : n ≠ 256) : Calls Try.prog 26 #[.slice a n cap] w fun e w' => e = .returned (.tuple #[.pointer none, .int .i64 160]) ∧ w' = w := by
  have hI : ((n : Int) != 256) = true := by simp; omega
  go_enter Try.func26, Try.ntmps26
  go_wp2
  go_ret2
  exact ⟨rfl, rfl⟩
end
end Go.Proofs.Ytheefdplbmneeaa
