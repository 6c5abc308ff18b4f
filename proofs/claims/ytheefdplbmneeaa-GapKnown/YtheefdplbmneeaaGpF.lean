/- slices.Grow of nothing, slices.Concat of bytes. -/
import Derived.Test.YtheefdplbmneeaaGpA
import Derived.Test.YtheefdplbmneeaaHelp
import Derived.Lib.AppendZerosOnto
namespace Go.Proofs.Ytheefdplbmneeaa
open Go.RowKit
set_option linter.unusedVariables false
set_option linter.unusedSimpArgs false

theorem zeroCells_size (z : Array Value) (n : Nat) : (Builtin.zeroCells z n).size = n * z.size := by simp [Builtin.zeroCells]
theorem wpList_app0 {ops : Array Oper} {rest : List Oper} {o : Oper} {a : Act} {w w' : World} {Q : Exit → Act → World → Prop} (hgd : o.guard = none) (x y : Operand)
    (ho : o.op = .call { callee := .builtin .append, args := #[x, y], argTypes := #[22, 3] }) (vx vy v : Value) (hx : a.eval x = vx) (hy : a.eval y = vy)
    (hr : (Builtin.append_ #[22, 3] o.type #[vx, vy]).run Try.prog w = .ok v w') (h : wpList Try.prog ops Q rest (a.put o.dst v) w') : wpList Try.prog ops Q (o :: rest) a w := by
  refine wpList_plain hgd fun K hK => ?_
  unfold Oper.wp
  simp [execOp, ho, resolve, invoke, builtin, hx, hy, hr, Result.andThen]
  exact hK _ _ h
set_option maxHeartbeats 1000000 in
theorem grow_any (n : Nat) (w : World) (h0 : 0 < n) (hn : n ≤ 1099511627776) : Calls Try.prog 49 #[.slice none 0 0, .int .i64 (n : Int)] w fun e w' => ∃ v, e = .returned v ∧ w'.ownsRow w.heap.size 5 1 v 0 [] ∧ Below w.heap.size w w' := by
  obtain ⟨i0, hi, hz0, hz1, hz2⟩ := info_parts Try.info5
  have hr := Lib.run_append_grow_zeros (P := Try.prog) w 22 3 22 5 i0 (.int .u8 0) .i64 .i64 Try.underlying22 Try.underlying3 hi hz0 none 0 0 [] (run_firstCells_none w.drew i0.size 0 0 0) n h0 (by omega) (by omega) (by omega) (by rw [hz2]; omega) (by rw [hz2]; exact growslice_fits (by omega) (by omega))
  rw [Nat.zero_add] at hr
  have h1 := grownCap_ge w n 0 5
  have h2 := grownCap_le_maxLen w n 0 5 (by unfold maxLen; omega)
  have hsz : (([] : List Value).toArray ++ Builtin.zeroCells (Value.int .u8 0).cells n ++ Builtin.zeroCells (Value.int .u8 0).cells (grownCap w n 0 5 - n)).size = grownCap w n 0 5 := by
    rw [Array.size_append, Array.size_append, zeroCells_size, zeroCells_size]
    simp [Value.cells]
    omega
  generalize ([] : List Value).toArray ++ Builtin.zeroCells (Value.int .u8 0).cells n ++ Builtin.zeroCells (Value.int .u8 0).cells (grownCap w n 0 5 - n) = C at hr hsz
  generalize grownCap w n 0 5 = cp at *
  have hnI : (0 : Int) < (n : Int) := by omega
  have hnI2 : (n : Int) ≤ 1099511627776 := by omega
  have H1 := hide h1
  have H2 := hide h2
  have HS := hide hsz
  unfold maxLen at h2
  clear hi hz0 hz1 hz2 hsz hn h0
  go_enter Try.func49, Try.ntmps49
  have HR := hide hr
  clear hr
  go_wp2_with (at_builtin; refine wpList_app0 rfl (.tmp 20) (.tmp 21) rfl _ _ _ rfl rfl HR.out ?_)
  go_ret
  refine ⟨_, rfl, ⟨by simp, .inr ⟨w.heap.size, cp, C, rfl, Nat.le_refl _, heap_alloc_new w _, Nat.zero_le _, H2.out, by rw [HS.out, Nat.mul_one], by simp⟩⟩, (Below.refl _ w).drew.alloc (Nat.le_refl _) _⟩

/-- Rows of bytes one behind the other in a block, none of them nil. -/
def RowsN (w : World) (b : Nat) (rs : List (List Nat)) : Prop := b < w.heap.size ∧ ∀ (i : Nat) r, rs[i]? = some r → ∃ ad cap, w.cell? ⟨b, i, none⟩ = some (.slice (some ad) r.length cap) ∧ Sl w (some ad) r
theorem sumN_next {rs : List (List Nat)} {i : Nat} {r : List Nat} (h : rs[i]? = some r) : (rs.take (i + 1)).flatten = (rs.take i).flatten ++ r := by
  simp [List.take_add_one, h]
theorem sumN_at {rs : List (List Nat)} {i : Nat} {r : List Nat} (h : rs[i]? = some r) : (rs.take i).flatten.length + r.length ≤ rs.flatten.length := by
  have e := List.take_append_drop (i + 1) rs
  have l := congrArg (fun l => l.flatten.length) e
  simp only [List.flatten_append, List.length_append, sumN_next h] at l
  omega
set_option maxHeartbeats 2000000 in
theorem concat_any (b cap : Nat) (rs : List (List Nat)) (w : World) (hg : RowsN w b rs) (hn : rs.length ≤ 1000000) (h0 : 0 < rs.flatten.length) (hl : rs.flatten.length ≤ 1099511627776) :
    Calls Try.prog 47 #[.slice (some ⟨b, 0, none⟩) rs.length cap] w fun e w' => ∃ v, e = .returned v ∧ w'.ownsRow w.heap.size 5 1 v rs.flatten.length (rs.flatten.map B8) ∧ Below w.heap.size w w' := by
  have HG := hide hg
  have H0 := hide h0
  have HL := hide hl
  clear hg h0 hl
  go_enter Try.func47, Try.ntmps47
  go_wp2
  go_loop [3, 11] (fun a i => ∃ k : Nat, k ≤ rs.length ∧ i = .int .i64 k ∧ a = .int .i64 ((rs.take k).flatten.length : Int)) (fun _ i => rs.length - (intOf i).toNat)
  case atStart => exact ⟨0, by omega, rfl, by simp⟩
  case round =>
    obtain ⟨k, hk, rfl, rfl⟩ := hrel
    by_cases hlt : k < rs.length
    · obtain ⟨r, hrk⟩ : ∃ r, rs[k]? = some r := ⟨_, List.getElem?_eq_getElem hlt⟩
      obtain ⟨ad, cp, hc, hsl⟩ := HG.out.2 k r hrk
      have hbd := sumN_at hrk
      have HN := hide (show (rs.take (k + 1)).flatten.length = (rs.take k).flatten.length + r.length by rw [sumN_next hrk, List.length_append])
      have hlI := HL.out
      generalize (rs.take k).flatten.length = A at *
      have hA : (A : Int) + (r.length : Int) ≤ 1099511627776 := by omega
      have hltI : (k : Int) < (rs.length : Int) := by omega
      clear hrk hsl hbd hlI
      go_wp2
      go_round
      case rel => exact ⟨k + 1, by omega, by go_num, by rw [HN.out]; go_num⟩
      case measure => simp [intOf]; omega
    · obtain rfl : k = rs.length := by omega
      rw [List.take_length]
      obtain ⟨N, hN⟩ : ∃ N, N = rs.flatten.length := ⟨_, rfl⟩
      have HN := hide hN
      rw [← hN]
      have kg := grow_any N w (by rw [hN]; exact H0.out) (by rw [hN]; exact HL.out)
      have KG := hide kg
      have hNI : (0 : Int) ≤ (N : Int) := by omega
      clear kg hN
      go_wp2_with (go_at_call 49; refine (KG.out).mono ?_; rintro e w1 ⟨v1, rfl, ho1, hb1⟩; have HO1 := hide ho1; have HB1 := hide hb1; clear ho1 hb1)
      go_loopw [6, 27] (fun v i wr => ∃ (k : Nat), k ≤ rs.length ∧ i = .int .i64 k ∧ wr.ownsRow w.heap.size 5 1 v (rs.take k).flatten.length ((rs.take k).flatten.map B8) ∧ Below w.heap.size w wr) (fun _ i _ => rs.length - (intOf i).toNat)
      case atStart => exact ⟨0, by omega, rfl, HO1.out, HB1.out⟩
      case round =>
        obtain ⟨k, hk, rfl, hown, hB⟩ := hrel
        have HO := hide hown
        have HB := hide hB
        clear hown hB
        by_cases hlt : k < rs.length
        · obtain ⟨r, hrk⟩ : ∃ r, rs[k]? = some r := ⟨_, List.getElem?_eq_getElem hlt⟩
          obtain ⟨ad, cp, hc0, hsl⟩ := HG.out.2 k r hrk
          have hc : wr.cell? ⟨b, k, none⟩ = some (.slice (some ad) r.length cp) := (HB.out.cell (p := ⟨b, k, none⟩) HG.out.1).trans hc0
          have hbd := sumN_at hrk
          have HN := hide (sumN_next hrk)
          have HS := hide (hsl.below (HB.out.mono (Nat.le_refl _)))
          have HLN := hide (Nat.le_trans hbd HL.out)
          have HSZ := hide HB.out.size
          generalize (rs.take k).flatten = A at *
          have hltI : (k : Int) < (rs.length : Int) := by omega
          clear hrk hsl hbd hc0
          go_wp2_with (at_builtin; refine wpList_app_bytes rfl (.tmp 31) (.tmp 32) rfl w.heap.size _ A rfl HO.out (some ad) cp r rfl (fun e => nomatch e) HS.out (by have := HLN.out; omega) HSZ.out ?_; intro v3 w3 hown3 hB3)
          have HO3 := hide hown3
          have HB3 := hide hB3
          clear hown3 hB3
          go_wp2
          go_roundw
          case rel => exact ⟨k + 1, by omega, by go_num, by rw [HN.out]; exact HO3.out, HB.out.trans HB3.out⟩
          case measure => simp [intOf]; omega
        · obtain rfl : k = rs.length := by omega
          rw [List.take_length] at HO
          go_wp2
          go_ret
          exact ⟨_, rfl, HO.out, HB.out⟩
end Go.Proofs.Ytheefdplbmneeaa
