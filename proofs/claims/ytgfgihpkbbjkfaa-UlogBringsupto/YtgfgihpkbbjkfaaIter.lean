/- What the iterators of bits.Lines tell: the numbers of the units that a range of addresses touches, rising, till a round says no more. -/
import Derived.RangeFuncNested
import Derived.RangeFuncBound
import Derived.RangeFuncCalls
import Derived.RangeFuncLeaves
import Derived.RangeFuncBox
import Derived.Shelf.Abstract
import Derived.Shelf.RegionOpen
import Derived.WalkKit
import Derived.OwnWalkIn
import Derived.TacticsInMore
import Derived.LoopNIn
import Derived.LoopIn
import Derived.Maps.AppendAt
import Derived.Test.YtgfgihpkbbjkfaaBase
namespace Go.Proofs.Ytgfgihpkbbjkfaa
open Go.RowKit Go.Shelf
set_option linter.unusedVariables false
attribute [local go_sem] Oper.semAt_some

theorem int_congr0 {k : IntKind} {a b : Int} (h : a = b) : Value.int k a = Value.int k b := by rw [h]

/-- So many numbers, rising from one on. -/
def upto (a : Int) (k : Nat) : List Int := (List.range k).map fun (i : Nat) => a + (i : Int)
theorem upto_succ (a : Int) (k : Nat) : upto a (k + 1) = upto a k ++ [a + k] := by simp [upto, List.range_succ]
theorem upto_length (a : Int) (k : Nat) : (upto a k).length = k := by simp [upto]
theorem upto_prefix (a : Int) (k m : Nat) (h : k ≤ m) : upto a k <+: upto a m := by
  obtain ⟨d, rfl⟩ := Nat.exists_eq_add_of_le h
  refine ⟨(List.range d).map fun (i : Nat) => a + ((k + i : Nat) : Int), ?_⟩
  unfold upto
  rw [List.range_add, List.map_append, List.map_map]
  rfl

/-- The numbers of the units of so many bytes that a range touches. -/
def unitsV (s at' n : Int) : List Int :=
  if at' < 0 ∨ n < 1 ∨ 9223372036854775807 - at' < n then [] else upto (at' / s) ((at' + n - 1) / s - at' / s + 1).toNat

set_option maxRecDepth 100000 in
set_option maxHeartbeats 1000000 in
theorem lines1_in (F : Fence) (n : Nat) (hf : F.fn 81) (hro : F.round = none) (hn : 1 ≤ n) (l Ba Bn : Nat) (a m : Int) (J Jx : List Int → World → Prop)
    (hY : ∀ pre x W, J pre W → pre.length < (unitsV 64 a m).length → pre ++ [x] <+: unitsV 64 a m → YieldAt F (n - 1) Try.prog l #[.int .i64 x] W fun e W' =>
      (e = .returned (.bool true) ∧ J (pre ++ [x]) W') ∨ (e = .returned (.bool false) ∧ Jx (pre ++ [x]) W'))
    (W : World) (hBa : W.cell? ⟨Ba, 0, none⟩ = some (.int .i64 a)) (hBn : W.cell? ⟨Bn, 0, none⟩ = some (.int .i64 m)) (h0 : J [] W)
    (g1 : 0 ≤ a) (g2 : 1 ≤ m) (g3 : m ≤ 9223372036854775807 - a) :
    CallsIn F n Try.prog 81 #[.func (.yield l) #[] #[], .pointer (some ⟨Ba, 0, none⟩), .pointer (some ⟨Bn, 0, none⟩)] W fun e W' => (∃ v, e = .returned v) ∧
      ((∃ ys, ys = unitsV 64 a m ∧ J ys W') ∨ (∃ pre, pre <+: unitsV 64 a m ∧ Jx pre W')) := by
  have hu : unitsV 64 a m = upto (a / 64) ((a + m - 1) / 64 - a / 64 + 1).toNat := by unfold unitsV; rw [if_neg (by omega)]
  rw [hu] at hY ⊢
  clear hu
  simp only [upto_length] at hY
  have hle : a / 64 ≤ (a + m - 1) / 64 := by omega
  have hmax : (a + m - 1) / 64 ≤ 144115188075855871 := by omega
  have hlo : 0 ≤ a / 64 := by omega
  have HN : Hid ((((a + m - 1) / 64 - a / 64 + 1).toNat : Int) = (a + m - 1) / 64 - a / 64 + 1) := show _ = _ by omega
  refine callsIn_of_wp Try.func81 rfl hf ?_ hro
  simp only [Try.ntmps81, List.size_toArray, List.length_cons, List.length_nil, Nat.reduceAdd, Nat.reduceSub, Array.replicate_succ, Array.replicate_zero, List.push_toArray, List.append_toArray, List.nil_append, List.cons_append]
  gi_wp2
  clear hBa hBn
  generalize hla : (a + m - 1) / 64 = la at *
  generalize hfi : a / 64 = fi at *
  have Hla := hide hla
  have Hfi := hide hfi
  clear hla hfi
  gi_loopw [5] (fun i wr => ∃ k : Nat, i = .int .i64 (fi + k) ∧ fi + k ≤ la + 1 ∧ J (upto fi k) wr) (fun i _ => (la + 1 - intOf i).toNat)
  case atStart => exact ⟨0, int_congr0 (by simp), by omega, h0⟩
  case round =>
    obtain ⟨k, rfl, hk, hJ⟩ := hrel
    by_cases hlt : fi + (k : Int) ≤ la
    · obtain ⟨fn, tmps, assign, body, hy, hR⟩ := hY (upto fi k) (fi + k) wr hJ (by rw [upto_length]; have := HN.out; omega) (by rw [← upto_succ]; exact upto_prefix _ _ _ (by have := HN.out; omega))
      clear hY
      have HJ := hide hJ
      clear hJ
      gi_wp2
      refine hR.mono ?_
      rintro e W3 (⟨rfl, hJ3⟩ | ⟨rfl, hJx3⟩)
      · have HJ3 := hide hJ3
        clear hJ3 hR hy
        gi_wp2
        go_roundw
        case rel => exact ⟨k + 1, int_congr0 (by omega), by omega, by rw [upto_succ]; exact HJ3.out⟩
        case measure => simp [intOf]; omega
      · have HJ3 := hide hJx3
        clear hJx3 hR hy
        gi_wp2
        refine bodyPost_ret (results_none rfl _ _ _) rfl ?_
        refine ⟨⟨_, rfl⟩, .inr ⟨_, ?_, HJ3.out⟩⟩
        rw [← upto_succ, Hla.out, Hfi.out]
        exact upto_prefix _ _ _ (by have := HN.out; omega)
    · have HJ := hide hJ
      clear hJ hY
      gi_wp2
      go_end0
      refine ⟨⟨_, rfl⟩, .inl ?_⟩
      rw [Hla.out, Hfi.out, show (la - fi + 1).toNat = k by omega]
      exact HJ.out
theorem lines1_none (F : Fence) (n : Nat) (hf : F.fn 81) (hro : F.round = none) (l Ba Bn : Nat) (a m : Int) (J : World → Prop)
    (W : World) (hBa : W.cell? ⟨Ba, 0, none⟩ = some (.int .i64 a)) (hBn : W.cell? ⟨Bn, 0, none⟩ = some (.int .i64 m)) (h0 : J W)
    (hb1 : -9223372036854775808 ≤ a) (hb2 : a ≤ 9223372036854775807) (hb : a < 0 ∨ m < 1 ∨ 9223372036854775807 - a < m) :
    CallsIn F n Try.prog 81 #[.func (.yield l) #[] #[], .pointer (some ⟨Ba, 0, none⟩), .pointer (some ⟨Bn, 0, none⟩)] W fun e W' => (∃ v, e = .returned v) ∧ J W' := by
  have HJ := hide h0
  clear h0
  by_cases c1 : a < 0
  · clear hb
    refine callsIn_of_wp Try.func81 rfl hf ?_ hro
    simp only [Try.ntmps81, List.size_toArray, List.length_cons, List.length_nil, Nat.reduceAdd, Nat.reduceSub, Array.replicate_succ, Array.replicate_zero, List.push_toArray, List.append_toArray, List.nil_append, List.cons_append]
    gi_wp2
    refine bodyPost_ret (results_none rfl _ _ _) rfl ?_
    exact ⟨⟨_, rfl⟩, HJ.out⟩
  · by_cases c2 : m < 1
    · have c3 : 0 ≤ a := by omega
      clear hb
      refine callsIn_of_wp Try.func81 rfl hf ?_ hro
      simp only [Try.ntmps81, List.size_toArray, List.length_cons, List.length_nil, Nat.reduceAdd, Nat.reduceSub, Array.replicate_succ, Array.replicate_zero, List.push_toArray, List.append_toArray, List.nil_append, List.cons_append]
      gi_wp2
      refine bodyPost_ret (results_none rfl _ _ _) rfl ?_
      exact ⟨⟨_, rfl⟩, HJ.out⟩
    · have c3 : 0 ≤ a := by omega
      have c4 : 1 ≤ m := by omega
      have c5 : 9223372036854775807 - a < m := by omega
      clear hb
      refine callsIn_of_wp Try.func81 rfl hf ?_ hro
      simp only [Try.ntmps81, List.size_toArray, List.length_cons, List.length_nil, Nat.reduceAdd, Nat.reduceSub, Array.replicate_succ, Array.replicate_zero, List.push_toArray, List.append_toArray, List.nil_append, List.cons_append]
      gi_wp2
      refine bodyPost_ret (results_none rfl _ _ _) rfl ?_
      exact ⟨⟨_, rfl⟩, HJ.out⟩

/-- The iterator that Lines hands back has its contract: all the numbers, in their order; or a beginning of them, where a round has said no more. -/
theorem lines_stops (F : Fence) (n : Nat) (hf : F.fn 81) (hro : F.round = none) (hn : 1 ≤ n) (Ba Bn n₀ : Nat) (a m : Int) (w : World) (hBa : Ba < w.heap.size) (hBn : Bn < w.heap.size)
    (ca : w.cell? ⟨Ba, 0, none⟩ = some (.int .i64 a)) (cn : w.cell? ⟨Bn, 0, none⟩ = some (.int .i64 m)) (hb1 : -9223372036854775808 ≤ a) (hb2 : a ≤ 9223372036854775807) :
    SeqStopsK F n Try.prog 81 #[.pointer (some ⟨Ba, 0, none⟩), .pointer (some ⟨Bn, 0, none⟩)] (fun x : Int => #[Value.int .i64 x]) (Below n₀) (fun ys => ys = unitsV 64 a m) (fun pre => pre <+: unitsV 64 a m) (unitsV 64 a m).length w := fun l J Jx W hW _ _ hY h0 => by
  have ca' := (hW.cell (p := ⟨Ba, 0, none⟩) hBa).trans ca
  have cn' := (hW.cell (p := ⟨Bn, 0, none⟩) hBn).trans cn
  by_cases hb : a < 0 ∨ m < 1 ∨ 9223372036854775807 - a < m
  · refine (lines1_none F n hf hro l Ba Bn a m (J []) W ca' cn' h0 hb1 hb2 hb).mono ?_
    rintro e W' ⟨he, hJ⟩
    exact ⟨he, .inl ⟨[], by unfold unitsV; rw [if_pos hb], hJ⟩⟩
  · exact lines1_in F n hf hro hn l Ba Bn a m J Jx (fun pre x W1 h1 h2 _ => (hY pre x W1 h1 h2).mono fun e W' h => by rcases h with h | h; exact .inl ⟨h.1, h.2.1⟩; exact .inr h) W ca' cn' h0 (by omega) (by omega) (by omega)

theorem lines_in (F : Fence) (n : Nat) (hf : F.fn 65) (hro : F.round = none) (a m : Int) (w : World) :
    CallsIn F n Try.prog 65 #[.int .i64 a, .int .i64 m] w fun e w' => e = .returned (.func (.func 81) #[] #[.pointer (some ⟨w.heap.size, 0, none⟩), .pointer (some ⟨w.heap.size + 1, 0, none⟩)]) ∧
      w' = (w.alloc (.cells #[.int .i64 a] 3)).alloc (.cells #[.int .i64 m] 3) := by
  refine callsIn_of_wp Try.func65 rfl hf ?_ hro
  simp only [Try.ntmps65, List.size_toArray, List.length_cons, List.length_nil, Nat.reduceAdd, Nat.reduceSub, Array.replicate_succ, Array.replicate_zero, List.push_toArray, List.append_toArray, List.nil_append, List.cons_append]
  gi_wp2
  go_ret
  exact ⟨rfl, rfl⟩

end Go.Proofs.Ytgfgihpkbbjkfaa
