/- The road of GapKnown. -/
import Derived.Test.YtheefdplbmneeaaGpKi
import Derived.Test.YtheefdplbmneeaaGpQ
import Derived.Test.YtheefdplbmneeaaGpZ
import Derived.Test.YtheefdplbmneeaaGpX
import Derived.Test.YtheefdplbmneeaaGpV
import Derived.Test.YtheefdplbmneeaaGpO
import Derived.Deep.Cut
import Derived.Maps.RangeWalk
import Derived.Laws.BitsAllLaws
namespace Go.Proofs.Ytheefdplbmneeaa
open Go.RowKit
set_option linter.unusedVariables false
set_option linter.unusedSimpArgs false

theorem kn_size (bs : List Nat) (h : ∀ x ∈ bs, x < 256) : (ofB bs).size = bs.length := by
  have := tx_len (ofB bs)
  rw [tx_of h] at this
  exact this.symm
theorem knCel {w : World} {B : Nat} {cs : Array Value} {t : TypeId} (h : w.heap[B]? = some (.cells cs t (0, 0))) (i : Nat) (v : Value) (hv : cs[i]? = some v) : w.cell? ⟨B, i, none⟩ = some v := by
  simp only [World.cell?, h]
  exact hv
theorem kn_cut (g k : Nat) (hk : k ≤ 253) (W : World) : (Instr.sliceAt 22 (.slice (some ⟨g, 0, none⟩) 253 253) none (some (.int .i64 (k : Int))) none).run Try.prog W = .ok (.slice (some ⟨g, 0, none⟩) k 253) W := by
  obtain ⟨it, h1, h2⟩ := gp_info (t := 5) (n := 1) (by kernel_rfl)
  have e : (k : Int) ≤ 253 := by omega
  simp [Instr.sliceAt, Instr.slice, Sem.run_bind, run_underlying Try.underlying22, Instr.sliceBounds, Instr.sliceBound, asIntOf, sizeOf, typeInfo, h1, h2, e, Addr.add_mid]
  omega
theorem kn_cut2 (g k : Nat) (hk : k ≤ 256) (W : World) : (Instr.sliceAt 22 (.slice (some ⟨g, 0, none⟩) 256 256) none (some (.int .i64 (k : Int))) none).run Try.prog W = .ok (.slice (some ⟨g, 0, none⟩) k 256) W := by
  obtain ⟨it, h1, h2⟩ := gp_info (t := 5) (n := 1) (by kernel_rfl)
  have e : (k : Int) ≤ 256 := by omega
  simp [Instr.sliceAt, Instr.slice, Sem.run_bind, run_underlying Try.underlying22, Instr.sliceBounds, Instr.sliceBound, asIntOf, sizeOf, typeInfo, h1, h2, e, Addr.add_mid]
  omega
theorem kn_owns {W : World} {base : Nat} {v : Value} {bs : List Nat} (h : W.ownsRow base 5 1 v bs.length (bs.map B8)) (hx : ∀ x ∈ bs, x < 256) : ∃ a cap, v = .slice a bs.length cap ∧ Sl W a bs ∧ bs.length ≤ cap := by
  rcases h.2 with ⟨rfl, h0⟩ | ⟨g, cap, cur, rfl, _, hg, hn, _, hs, hc⟩
  · exact ⟨none, 0, by rw [h0], .inl (List.eq_nil_of_length_eq_zero h0), by omega⟩
  · refine ⟨_, cap, rfl, .inr ⟨g, 0, rfl, (Array.getElem?_eq_some_iff.1 hg).1, fun i x hx' => ⟨?_, hx x (List.mem_of_getElem? hx')⟩⟩, hn⟩
    have h1 : (bs.map B8)[i]? = some (B8 x) := by rw [List.getElem?_map, hx']; rfl
    have h2 : i < bs.length := (List.getElem?_eq_some_iff.1 hx').1
    rw [← hc, List.getElem?_take, if_pos (by omega)] at h1
    simp only [Nat.zero_add, World.cell?, hg]
    simpa [B8] using h1
theorem kn_append {ops : Array Oper} {rest : List Oper} {o : Oper} {a : Act} {w : World} {Q : Exit → Act → World → Prop} (hw : Region.wanted o (yielded ops a.tmps) = true) (s x : Operand)
    (ho : o.op = .call { callee := .builtin .append, args := #[s, x], argTypes := #[22, 22] })
    (base : Nat) (v : Value) (n : Nat) (xs : List Value) (hs : a.eval s = v) (hown : w.ownsRow base 5 1 v n xs) (ad : Addr) (c : Nat) (hx : a.eval x = .slice (some ad) 1 c) (hc : ∀ j u, [Value.int .u8 0][j]? = some u → w.cell? (ad.add j) = some u) (hb : base ≤ w.heap.size) (hn : n + 1 ≤ 1000)
    (h : ∀ v' w', w'.ownsRow base 5 1 v' (n + 1) (xs ++ [.int .u8 0]) → w.grownBy w' v.ownBlock → wpList Try.prog ops Q rest (a.put o.dst v') w') : wpList Try.prog ops Q (o :: rest) a w := by
  obtain ⟨i0, hi, hz0, hz1, hz2⟩ := info_parts Try.info5
  refine wpList_step fun K hK => ?_
  simp only [hw, if_true]
  refine wp_append_own w s x 22 ho base 5 i0 (.int .u8 0) 1 1 Try.underlying22 hi hz0 hz1 hz2 rfl (by omega) v n xs hs hown ad 1 c [.int .u8 0] hx rfl hc (fun u hu => by rw [List.mem_singleton.1 hu]; rfl) (by unfold maxLen; omega) (by omega) hb fun v' w' h2 h3 h4 => hK _ _ (h v' w' h2 h3)
theorem kn_str {W : World} {g : Nat} {L : List Nat} (k : Nat) (hk : k ≤ L.length) (ho : OwnB W g L) (hx : ∀ x ∈ L, x < 256) (c : Nat) : (convert 22 9 (.slice (some ⟨g, 0, none⟩) k c)).run Try.prog W = .ok (.string (ofB (L.take k))) W := by
  have hx2 : ∀ x ∈ L.take k, x < 256 := fun x h => hx x (List.mem_of_mem_take h)
  have h := str_of W (some ⟨g, 0, none⟩) c (L.take k) (by rw [← List.take_append_drop k L] at ho; exact ho.head hx2) hx2
  rwa [List.length_take, Nat.min_eq_left hk] at h

/-- The script of the chapter's examples. -/
def knSteps : List GSt := [⟨2, 1, 0, { data := #[120, 121] }⟩, ⟨1, 5, 0, { data := #[] }⟩, ⟨1, 252, 0, { data := #[] }⟩, ⟨4, 252, 252, { data := #[] }⟩, ⟨1, 6, 0, { data := #[] }⟩, ⟨1, (-1), 0, { data := #[] }⟩, ⟨3, 0, 2, { data := #[] }⟩, ⟨3, 2, 1, { data := #[] }⟩, ⟨0, 0, 0, { data := #[] }⟩, ⟨2, 9, 0, { data := #[] }⟩, ⟨4, 1, 3, { data := #[] }⟩, ⟨4, 3, 1, { data := #[] }⟩, ⟨2, 0, 0, { data := #[97] }⟩, ⟨2, 0, 0, { data := #[98] }⟩, ⟨3, (-1), 1, { data := #[] }⟩, ⟨3, 0, 253, { data := #[] }⟩, ⟨4, (-1), 0, { data := #[] }⟩]
theorem kn_flat : ∀ (xs : List GSt) (i : Nat) (x : GSt) (j : Nat) (v : Value), xs[i]? = some x → x.vals[j]? = some v → (xs.flatMap GSt.vals)[i * 4 + j]? = some v
  | [], i, x, j, v, h, _ => by simp at h
  | a :: r, 0, x, j, v, h, hj => by
    obtain rfl : a = x := by simpa using h
    have hl : j < a.vals.length := (List.getElem?_eq_some_iff.1 hj).1
    rw [List.flatMap_cons, Nat.zero_mul, Nat.zero_add, List.getElem?_append_left hl, hj]
  | a :: r, i + 1, x, j, v, h, hj => by
    have h2 : r[i]? = some x := by simpa using h
    have k := kn_flat r i x j v h2 hj
    have hl : a.vals.length = 4 := rfl
    rw [List.flatMap_cons, List.getElem?_append_right (by omega), hl, show (i + 1) * 4 + j - 4 = i * 4 + j by omega, k]
theorem kn_gst (w : World) : GStR (w.alloc (.cells #[.int .i64 2, .int .i64 1, .int .i64 0, .string { data := #[120, 121] }, .int .i64 1, .int .i64 5, .int .i64 0, .string { data := #[] }, .int .i64 1, .int .i64 252, .int .i64 0, .string { data := #[] }, .int .i64 4, .int .i64 252, .int .i64 252, .string { data := #[] }, .int .i64 1, .int .i64 6, .int .i64 0, .string { data := #[] }, .int .i64 1, .int .i64 (-1), .int .i64 0, .string { data := #[] }, .int .i64 3, .int .i64 0, .int .i64 2, .string { data := #[] }, .int .i64 3, .int .i64 2, .int .i64 1, .string { data := #[] }, .int .i64 0, .int .i64 0, .int .i64 0, .string { data := #[] }, .int .i64 2, .int .i64 9, .int .i64 0, .string { data := #[] }, .int .i64 4, .int .i64 1, .int .i64 3, .string { data := #[] }, .int .i64 4, .int .i64 3, .int .i64 1, .string { data := #[] }, .int .i64 2, .int .i64 0, .int .i64 0, .string { data := #[97] }, .int .i64 2, .int .i64 0, .int .i64 0, .string { data := #[98] }, .int .i64 3, .int .i64 (-1), .int .i64 1, .string { data := #[] }, .int .i64 3, .int .i64 0, .int .i64 253, .string { data := #[] }, .int .i64 4, .int .i64 (-1), .int .i64 0, .string { data := #[] }] 25)) (some ⟨w.heap.size, 0, none⟩) knSteps := by
  refine ⟨.inr ⟨w.heap.size, 0, rfl, by simp, fun i x hx j v hv => ?_⟩, ?_⟩
  · have h := kn_flat knSteps i x j v hx hv
    have e := heap_alloc_new w (.cells #[.int .i64 2, .int .i64 1, .int .i64 0, .string { data := #[120, 121] }, .int .i64 1, .int .i64 5, .int .i64 0, .string { data := #[] }, .int .i64 1, .int .i64 252, .int .i64 0, .string { data := #[] }, .int .i64 4, .int .i64 252, .int .i64 252, .string { data := #[] }, .int .i64 1, .int .i64 6, .int .i64 0, .string { data := #[] }, .int .i64 1, .int .i64 (-1), .int .i64 0, .string { data := #[] }, .int .i64 3, .int .i64 0, .int .i64 2, .string { data := #[] }, .int .i64 3, .int .i64 2, .int .i64 1, .string { data := #[] }, .int .i64 0, .int .i64 0, .int .i64 0, .string { data := #[] }, .int .i64 2, .int .i64 9, .int .i64 0, .string { data := #[] }, .int .i64 4, .int .i64 1, .int .i64 3, .string { data := #[] }, .int .i64 4, .int .i64 3, .int .i64 1, .string { data := #[] }, .int .i64 2, .int .i64 0, .int .i64 0, .string { data := #[97] }, .int .i64 2, .int .i64 0, .int .i64 0, .string { data := #[98] }, .int .i64 3, .int .i64 (-1), .int .i64 1, .string { data := #[] }, .int .i64 3, .int .i64 0, .int .i64 253, .string { data := #[] }, .int .i64 4, .int .i64 (-1), .int .i64 0, .string { data := #[] }] 25)
    have e2 : (knSteps.flatMap GSt.vals).toArray[i * 4 + j]? = some v := by simpa using h
    rw [Nat.zero_add]
    simp only [World.cell?, e]
    exact e2
  · intro s hs
    unfold knSteps at hs
    simp only [List.mem_cons, List.not_mem_nil, or_false] at hs
    rcases hs with rfl | rfl | rfl | rfl | rfl | rfl | rfl | rfl | rfl | rfl | rfl | rfl | rfl | rfl | rfl | rfl | rfl <;> exact ⟨⟨by decide, by decide⟩, ⟨by decide, by decide⟩, by decide⟩

set_option maxRecDepth 100000 in
set_option maxHeartbeats 8000000 in
theorem known_walk (w : World) : Calls Try.prog 3 #[] w fun e w' => e = .returned (.bool true) ∧ Below w.heap.size w w' := by
  have o1 := OwnB.made w 253
  have b1 : Below w.heap.size w (w.alloc (.cells (madeCells #[.int .u8 0] 253) 5)) := (Below.refl _ _).alloc (Nat.le_refl _) _
  have O1 := hide o1
  have B1 := hide b1
  have m1 : ∀ W : World, (Instr.makeSlice 22 (.int .i64 253) (.int .i64 253)).run Try.prog W = .ok (.slice (some ⟨W.heap.size, 0, none⟩) 253 253) (W.alloc (.cells (madeCells #[.int .u8 0] 253) 5)) := fun W => run_make_row' (P := Try.prog) 22 5 (.int .u8 0) 1 Try.underlying22 Try.info5 rfl .i64 .i64 253 (by omega) (by omega) W
  clear o1 b1
  go_enter Try.func3, Try.ntmps3
  go_wp2_with (fail)
  obtain ⟨I, hI⟩ : ∃ I, I = w.heap.size := ⟨_, rfl⟩
  rw [← hI] at O1 ⊢
  have HI := hide hI
  clear hI
  go_loopw [2] (fun iv wr => ∃ (k : Nat) (L : List Nat), k ≤ 253 ∧ L.length = 253 ∧ (∀ x ∈ L, x < 256) ∧ iv = .int .i64 (k : Int) ∧ OwnB wr I L ∧ Below w.heap.size w wr) (fun iv _ => (253 - intOf iv).toNat)
  case atStart => exact ⟨0, _, by omega, by rw [List.length_replicate], fun x hx => by rw [(List.mem_replicate.1 hx).2]; decide, rfl, O1.out, B1.out⟩
  case round =>
    obtain ⟨k, L, hk, hLl, hLx, rfl, ho, hb⟩ := hrel
    have O5 := hide ho
    have B5 := hide hb
    have HLL := hide hLl
    have HLX := hide hLx
    clear ho hb hLl hLx
    by_cases hlt : k < 253
    · have hltI : (k : Int) < 253 := by omega
      obtain ⟨x, hx⟩ : ∃ x, L[k]? = some x := ⟨_, List.getElem?_eq_getElem (by rw [HLL.out]; omega)⟩
      have cx := O5.out.cell k x hx
      have fx := O5.out.frozen k
      obtain ⟨v, hv⟩ : ∃ v : Nat, v = (k + 1) % 256 := ⟨_, rfl⟩
      have wi : IntKind.i64.wrap ((k : Int) + 1) = (k : Int) + 1 := by rw [IntKind.wrap_i64]; omega
      have wu : IntKind.u8.wrap ((k : Int) + 1) = (v : Int) := by rw [IntKind.wrap_u8]; omega
      have HV : Hid (v < 256) := show v < 256 by omega
      have O6 := hide (O5.out.set k v)
      have kk := Ke.set (X := fun i => i = I) wr I k (.int .u8 (v : Int)) rfl
      have B6 := hide (B5.out.trans (kk.below (B := w.heap.size) B5.out.size (fun i hi => by have := HI.out; omega)))
      clear hx kk hv
      go_wp2_with (fail)
      go_roundw
      case rel => exact ⟨k + 1, L.set k v, by omega, by rw [List.length_set, HLL.out], fun x hx => (List.mem_or_eq_of_mem_set hx).elim (HLX.out x) (fun e => by rw [e]; exact HV.out), by go_num, O6.out, B6.out⟩
      case measure => simp [intOf]; omega
    · obtain rfl : k = 253 := by omega
      clear hlt hk
      go_upto_region 6 with (fail)
      obtain ⟨sa, hsa⟩ : ∃ s, s = ofB (L.take 251) := ⟨_, rfl⟩
      obtain ⟨sb, hsb⟩ : ∃ s, s = ofB (L.take 252) := ⟨_, rfl⟩
      obtain ⟨sc, hsc⟩ : ∃ s, s = ofB (L.take 253) := ⟨_, rfl⟩
      have ea : sa.size = 251 := by rw [hsa, kn_size _ (fun x h => HLX.out x (List.mem_of_mem_take h)), List.length_take, HLL.out]; rfl
      have eb : sb.size = 252 := by rw [hsb, kn_size _ (fun x h => HLX.out x (List.mem_of_mem_take h)), List.length_take, HLL.out]; rfl
      have ec : sc.size = 253 := by rw [hsc, kn_size _ (fun x h => HLX.out x (List.mem_of_mem_take h)), List.length_take, HLL.out]; rfl
      have CA : Hid (∀ W, OwnB W I L → (convert 22 9 (.slice (some ⟨I, 0, none⟩) 251 253)).run Try.prog W = .ok (.string sa) W) := fun W h => by rw [hsa]; exact kn_str 251 (by rw [HLL.out]; decide) h HLX.out 253
      have CB : Hid (∀ W, OwnB W I L → (convert 22 9 (.slice (some ⟨I, 0, none⟩) 252 253)).run Try.prog W = .ok (.string sb) W) := fun W h => by rw [hsb]; exact kn_str 252 (by rw [HLL.out]; decide) h HLX.out 253
      have CC : Hid (∀ W, OwnB W I L → (convert 22 9 (.slice (some ⟨I, 0, none⟩) 253 253)).run Try.prog W = .ok (.string sc) W) := fun W h => by rw [hsc]; exact kn_str 253 (by rw [HLL.out]; decide) h HLX.out 253
      have EA := hide ea
      have EB := hide eb
      have EC := hide ec
      have q1 := fun W => kn_cut I 251 (by decide) W
      have q2 := fun W => kn_cut I 252 (by decide) W
      clear hsa hsb hsc ea eb ec
      have O7 : Hid (OwnB wr.drew I L) := O5.out.below (Below.refl _ _).drew O5.out.lt
      refine wp_region_held_drew (S := fun Y => OwnB Y I L) (by kernel_rfl) O7.out (fun hS => ?_)
      refine wpAnyH_take (i := 0) (v := (.slice (some ⟨I, 0, none⟩) 253 253)) rfl (by kernel_rfl) (by kernel_rfl) (by kernel_rfl) (fun _ _ _ h => h) (Or.inl ⟨by kernel_rfl, fun w' hw => by (go_simp)⟩) hS ?_
      refine wpAnyH_take (i := 1) (v := (.slice (some ⟨I, 0, none⟩) 251 253)) rfl (by kernel_rfl) (by kernel_rfl) (by kernel_rfl) (fun _ _ _ h => h) (Or.inl ⟨by kernel_rfl, fun w' hw => by (go_simp)⟩) hS ?_
      refine wpAnyH_take (i := 2) (v := (.string sa)) rfl (by kernel_rfl) (by kernel_rfl) (by kernel_rfl) (fun _ _ _ h => h) (Or.inl ⟨by kernel_rfl, fun w' hw => by (have k := CA.out _ hw; go_simp)⟩) hS ?_
      refine wpAnyH_take (i := 3) (v := (.slice (some ⟨I, 0, none⟩) 253 253)) rfl (by kernel_rfl) (by kernel_rfl) (by kernel_rfl) (fun _ _ _ h => h) (Or.inl ⟨by kernel_rfl, fun w' hw => by (go_simp)⟩) hS ?_
      refine wpAnyH_take (i := 4) (v := (.slice (some ⟨I, 0, none⟩) 252 253)) rfl (by kernel_rfl) (by kernel_rfl) (by kernel_rfl) (fun _ _ _ h => h) (Or.inl ⟨by kernel_rfl, fun w' hw => by (go_simp)⟩) hS ?_
      refine wpAnyH_take (i := 5) (v := (.string sb)) rfl (by kernel_rfl) (by kernel_rfl) (by kernel_rfl) (fun _ _ _ h => h) (Or.inl ⟨by kernel_rfl, fun w' hw => by (have k := CB.out _ hw; go_simp)⟩) hS ?_
      refine wpAnyH_take (i := 6) (v := (.slice (some ⟨I, 0, none⟩) 253 253)) rfl (by kernel_rfl) (by kernel_rfl) (by kernel_rfl) (fun _ _ _ h => h) (Or.inl ⟨by kernel_rfl, fun w' hw => by (go_simp)⟩) hS ?_
      refine wpAnyH_take (i := 7) (v := (.string sc)) rfl (by kernel_rfl) (by kernel_rfl) (by kernel_rfl) (fun _ _ _ h => h) (Or.inl ⟨by kernel_rfl, fun w' hw => by (have k := CC.out _ hw; go_simp)⟩) hS ?_
      refine gp_go (i := 8) (by kernel_rfl) rfl (by kernel_rfl) (fun K hK => ?_)
      go_wp2_with (fail)
      have hS := O7.out.below ((Below.refl _ _).alloc (Nat.le_refl _) (.cells #[.string { data := #[] }, .string { data := #[97, 98, 99] }, .string sa, .string sb, .string sc] 9)) O7.out.lt
      refine hK.out _ _ hS ?_
      clear hK K
      refine gp_go (i := 9) (by kernel_rfl) rfl (by kernel_rfl) (fun K hK => ?_)
      go_wp2_with (fail)
      refine hK.out _ _ hS ?_
      clear hK K
      refine wpAnyH_done (by kernel_rfl) ?_ _
      try simp only [Act.put, List.getElem_toArray, List.getElem_cons_zero, List.getElem_cons_succ, List.setIfInBounds_toArray, List.set_cons_zero, List.set_cons_succ]
      try go_frame
      have hb2 : Below w.heap.size w (wr.alloc (.cells #[.string { data := #[] }, .string { data := #[97, 98, 99] }, .string sa, .string sb, .string sc] 9)).drew := (B5.out.alloc B5.out.size _).drew
      have hc : ∀ i, i < 5 → ∃ t : ByteArray, t.size ≤ 253 ∧ (wr.alloc (.cells #[.string { data := #[] }, .string { data := #[97, 98, 99] }, .string sa, .string sb, .string sc] 9)).drew.cell? ⟨wr.heap.size, i, none⟩ = some (.string t) := by
        intro i hi
        have h := heap_alloc_new wr (.cells #[.string { data := #[] }, .string { data := #[97, 98, 99] }, .string sa, .string sb, .string sc] 9)
        have ea := EA.out
        have eb := EB.out
        have ec := EC.out
        match i, hi with
        | 0, _ => exact ⟨_, by decide, knCel h 0 _ rfl⟩
        | 1, _ => exact ⟨_, by decide, knCel h 1 _ rfl⟩
        | 2, _ => exact ⟨sa, by omega, knCel h 2 _ rfl⟩
        | 3, _ => exact ⟨sb, by omega, knCel h 3 _ rfl⟩
        | 4, _ => exact ⟨sc, by omega, knCel h 4 _ rfl⟩
        | n + 5, h => omega
      obtain ⟨T, hT⟩ : ∃ T, T = wr.heap.size := ⟨_, rfl⟩
      rw [← hT] at hc ⊢
      generalize (wr.alloc (.cells #[.string { data := #[] }, .string { data := #[97, 98, 99] }, .string sa, .string sb, .string sc] 9)).drew = A at *
      have HC := hide hc
      have HBA := hide hb2
      clear hc hb2 hT EA EB EC CA CB CC O5 O7 B5 O1 B1 HLL HLX HI q1 q2 hS
      go_wp2_with (fail)
      go_loopw [4] (fun q w' => ∃ i : Nat, q = .int .i64 (i : Int) ∧ i ≤ 5 ∧ Below A.heap.size A w') (fun q _ => (5 - intOf q).toNat)
      case atStart => exact ⟨0, rfl, by omega, Below.refl _ _⟩
      case round =>
        obtain ⟨i, rfl, hi, hB⟩ := hrel
        by_cases hlt : i < 5
        · have hltI : (i : Int) < 5 := by omega
          obtain ⟨t, ht, hct⟩ := HC.out i hlt
          obtain ⟨j, hj⟩ : ∃ j, j = 4 - i := ⟨_, rfl⟩
          obtain ⟨u, hu, hcu⟩ := HC.out j (by omega)
          have WS : Hid (IntKind.i64.wrap ((4 : Int) - (i : Int)) = (j : Int)) := by show _ = _; rw [IntKind.wrap_i64]; omega
          have hjI : (j : Int) < 5 := by omega
          have CT : Hid (∀ W, Below A.heap.size A W → W.cell? ⟨T, i, none⟩ = some (.string t) ∧ W.cell? ⟨T, j, none⟩ = some (.string u)) := fun W hW => ⟨(hW.cell (p := ⟨T, i, none⟩) (World.block_lt_of_cell? _ _ hct)).trans hct, (hW.cell (p := ⟨T, j, none⟩) (World.block_lt_of_cell? _ _ hcu)).trans hcu⟩
          have gs := kn_gst wr
          have bv : Below A.heap.size A (wr.alloc (.cells #[.int .i64 2, .int .i64 1, .int .i64 0, .string { data := #[120, 121] }, .int .i64 1, .int .i64 5, .int .i64 0, .string { data := #[] }, .int .i64 1, .int .i64 252, .int .i64 0, .string { data := #[] }, .int .i64 4, .int .i64 252, .int .i64 252, .string { data := #[] }, .int .i64 1, .int .i64 6, .int .i64 0, .string { data := #[] }, .int .i64 1, .int .i64 (-1), .int .i64 0, .string { data := #[] }, .int .i64 3, .int .i64 0, .int .i64 2, .string { data := #[] }, .int .i64 3, .int .i64 2, .int .i64 1, .string { data := #[] }, .int .i64 0, .int .i64 0, .int .i64 0, .string { data := #[] }, .int .i64 2, .int .i64 9, .int .i64 0, .string { data := #[] }, .int .i64 4, .int .i64 1, .int .i64 3, .string { data := #[] }, .int .i64 4, .int .i64 3, .int .i64 1, .string { data := #[] }, .int .i64 2, .int .i64 0, .int .i64 0, .string { data := #[97] }, .int .i64 2, .int .i64 0, .int .i64 0, .string { data := #[98] }, .int .i64 3, .int .i64 (-1), .int .i64 1, .string { data := #[] }, .int .i64 3, .int .i64 0, .int .i64 253, .string { data := #[] }, .int .i64 4, .int .i64 (-1), .int .i64 0, .string { data := #[] }] 25)) := hB.alloc hB.size _
          have HI5 : Hid (i + 1 ≤ 5) := show i + 1 ≤ 5 by omega
          have HJ := hide hj
          have GS := hide gs
          have BV := hide bv
          clear gs bv hB hct hcu hj hi
          go_upto_region 11 with (fail)
          obtain ⟨X, hX⟩ : ∃ X, X = wr.heap.size := ⟨_, rfl⟩
          rw [← hX] at GS ⊢
          clear hX
          generalize (wr.alloc (.cells #[.int .i64 2, .int .i64 1, .int .i64 0, .string { data := #[120, 121] }, .int .i64 1, .int .i64 5, .int .i64 0, .string { data := #[] }, .int .i64 1, .int .i64 252, .int .i64 0, .string { data := #[] }, .int .i64 4, .int .i64 252, .int .i64 252, .string { data := #[] }, .int .i64 1, .int .i64 6, .int .i64 0, .string { data := #[] }, .int .i64 1, .int .i64 (-1), .int .i64 0, .string { data := #[] }, .int .i64 3, .int .i64 0, .int .i64 2, .string { data := #[] }, .int .i64 3, .int .i64 2, .int .i64 1, .string { data := #[] }, .int .i64 0, .int .i64 0, .int .i64 0, .string { data := #[] }, .int .i64 2, .int .i64 9, .int .i64 0, .string { data := #[] }, .int .i64 4, .int .i64 1, .int .i64 3, .string { data := #[] }, .int .i64 4, .int .i64 3, .int .i64 1, .string { data := #[] }, .int .i64 2, .int .i64 0, .int .i64 0, .string { data := #[97] }, .int .i64 2, .int .i64 0, .int .i64 0, .string { data := #[98] }, .int .i64 3, .int .i64 (-1), .int .i64 1, .string { data := #[] }, .int .i64 3, .int .i64 0, .int .i64 253, .string { data := #[] }, .int .i64 4, .int .i64 (-1), .int .i64 0, .string { data := #[] }] 25)) = V at *
          have G0 : Hid (GStR V.drew (some ⟨X, 0, none⟩) knSteps) := ⟨GS.out.1.below (Below.refl _ _).drew, GS.out.2⟩
          have B0 : Hid (Below A.heap.size A V.drew) := BV.out.drew
          have KP : Hid (∀ W, GStR W (some ⟨X, 0, none⟩) knSteps → Calls Try.prog 4 #[.agg #[.string t, .string u, .slice (some ⟨X, 0, none⟩) 17 17, .slice (some ⟨X, 0, none⟩) 17 17]] W fun e w' => e = .returned (.bool true) ∧ Below W.heap.size W w') := fun W h => plays_walk t u _ 17 _ 17 knSteps knSteps W h h (by decide) (by decide)
          have KG : Hid (∀ W, GStR W (some ⟨X, 0, none⟩) knSteps → Calls Try.prog 5 #[.string t, .slice (some ⟨X, 0, none⟩) 17 17] W fun e w' => e = .returned (.bool true) ∧ Below W.heap.size W w') := fun W h => goes_walk t _ 17 knSteps W (by omega) h (by decide)
          have KO : Hid (∀ W, Calls Try.prog 6 #[.string t, .int .i64 100] W fun e w' => e = .returned (.bool true) ∧ Below W.heap.size W w') := fun W => one_walk t 100 W (by omega) (by omega) (by omega)
          clear ht hu
          refine wp_region_held_drew (S := fun Y => Y.cell? ⟨T, i, none⟩ = some (.string t) ∧ Y.cell? ⟨T, j, none⟩ = some (.string u)) (by kernel_rfl) (CT.out _ B0.out) (fun hS => ?_)
          refine wpAnyH_take (i := 0) (v := (.slice (some ⟨T, 0, none⟩) 5 5)) rfl (by kernel_rfl) (by kernel_rfl) (by kernel_rfl) (fun _ _ _ h => h) (Or.inl ⟨by kernel_rfl, fun w' hw => by (go_simp)⟩) hS ?_
          refine wpAnyH_take (i := 1) (v := (.int .i64 (i : Int))) rfl (by kernel_rfl) (by kernel_rfl) (by kernel_rfl) (fun _ _ _ h => h) (Or.inl ⟨by kernel_rfl, fun w' hw => by (go_simp)⟩) hS ?_
          refine wpAnyH_take (i := 2) (v := (.pointer (some ⟨T, i, none⟩))) rfl (by kernel_rfl) (by kernel_rfl) (by kernel_rfl) (fun _ _ _ h => h) (Or.inl ⟨by kernel_rfl, fun w' hw => by (go_simp)⟩) hS ?_
          refine wpAnyH_take (i := 3) (v := (.string t)) rfl (by kernel_rfl) (by kernel_rfl) (by kernel_rfl) (fun _ _ _ h => h) (Or.inl ⟨by kernel_rfl, fun w' hw => by (go_simp)⟩) hS ?_
          refine wpAnyH_take (i := 4) (v := (.slice (some ⟨T, 0, none⟩) 5 5)) rfl (by kernel_rfl) (by kernel_rfl) (by kernel_rfl) (fun _ _ _ h => h) (Or.inl ⟨by kernel_rfl, fun w' hw => by (go_simp)⟩) hS ?_
          refine wpAnyH_take (i := 5) (v := (.slice (some ⟨T, 0, none⟩) 5 5)) rfl (by kernel_rfl) (by kernel_rfl) (by kernel_rfl) (fun _ _ _ h => h) (Or.inl ⟨by kernel_rfl, fun w' hw => by (go_simp)⟩) hS ?_
          refine wpAnyH_take (i := 6) (v := (.int .i64 5)) rfl (by kernel_rfl) (by kernel_rfl) (by kernel_rfl) (fun _ _ _ h => h) (Or.inl ⟨by kernel_rfl, fun w' hw => by (go_simp)⟩) hS ?_
          refine wpAnyH_take (i := 7) (v := (.int .i64 4)) rfl (by kernel_rfl) (by kernel_rfl) (by kernel_rfl) (fun _ _ _ h => h) (Or.inl ⟨by kernel_rfl, fun w' hw => by (go_simp; kernel_rfl)⟩) hS ?_
          refine wpAnyH_take (i := 8) (v := (.int .i64 (i : Int))) rfl (by kernel_rfl) (by kernel_rfl) (by kernel_rfl) (fun _ _ _ h => h) (Or.inl ⟨by kernel_rfl, fun w' hw => by (go_simp)⟩) hS ?_
          refine wpAnyH_take (i := 9) (v := (.int .i64 (j : Int))) rfl (by kernel_rfl) (by kernel_rfl) (by kernel_rfl) (fun _ _ _ h => h) (Or.inl ⟨by kernel_rfl, fun w' hw => by (have ws := WS.out; go_simp)⟩) hS ?_
          refine wpAnyH_take (i := 10) (v := (.pointer (some ⟨T, j, none⟩))) rfl (by kernel_rfl) (by kernel_rfl) (by kernel_rfl) (fun _ _ _ h => h) (Or.inl ⟨by kernel_rfl, fun w' hw => by (go_simp)⟩) hS ?_
          refine wpAnyH_take (i := 11) (v := (.string u)) rfl (by kernel_rfl) (by kernel_rfl) (by kernel_rfl) (fun _ _ _ h => h) (Or.inl ⟨by kernel_rfl, fun w' hw => by (go_simp)⟩) hS ?_
          refine wpAnyH_take (i := 12) (v := (.slice (some ⟨X, 0, none⟩) 17 17)) rfl (by kernel_rfl) (by kernel_rfl) (by kernel_rfl) (fun _ _ _ h => h) (Or.inl ⟨by kernel_rfl, fun w' hw => by (go_simp)⟩) hS ?_
          refine wpAnyH_take (i := 13) (v := (.slice (some ⟨X, 0, none⟩) 17 17)) rfl (by kernel_rfl) (by kernel_rfl) (by kernel_rfl) (fun _ _ _ h => h) (Or.inl ⟨by kernel_rfl, fun w' hw => by (go_simp)⟩) hS ?_
          refine gp_go (i := 14) (by kernel_rfl) rfl (by kernel_rfl) (fun K hK => ?_)
          go_wp2_with (fail)
          refine hK.out _ _ hS ?_
          clear hK K
          refine gp_go (i := 15) (by kernel_rfl) rfl (by kernel_rfl) (fun K hK => ?_)
          go_wp2_with (go_at_call 4; refine (KP.out _ G0.out).mono ?_; rintro e W1 ⟨rfl, hb1⟩; have G1 := hide (show GStR W1 (some ⟨X, 0, none⟩) knSteps from ⟨G0.out.1.below hb1, G0.out.2⟩); have B1 := hide (bseq B0.out hb1); clear hb1)
          have hS := CT.out _ B1.out
          refine hK.out _ _ hS ?_
          clear hK K
          refine wpAnyH_take (i := 16) (v := (.bool false)) rfl (by kernel_rfl) (by kernel_rfl) (by kernel_rfl) (fun _ _ _ h => h) (Or.inl ⟨by kernel_rfl, fun w' hw => by (go_simp)⟩) hS ?_
          refine wpAnyH_take (i := 17) (v := (.bool false)) rfl (by kernel_rfl) (by kernel_rfl) (by kernel_rfl) (fun _ _ _ h => h) (Or.inl ⟨by kernel_rfl, fun w' hw => by (go_simp)⟩) hS ?_
          refine wpAnyH_take (i := 18) (v := (.slice (some ⟨T, 0, none⟩) 5 5)) rfl (by kernel_rfl) (by kernel_rfl) (by kernel_rfl) (fun _ _ _ h => h) (Or.inl ⟨by kernel_rfl, fun w' hw => by (go_simp)⟩) hS ?_
          refine wpAnyH_take (i := 19) (v := (.int .i64 (i : Int))) rfl (by kernel_rfl) (by kernel_rfl) (by kernel_rfl) (fun _ _ _ h => h) (Or.inl ⟨by kernel_rfl, fun w' hw => by (go_simp)⟩) hS ?_
          refine wpAnyH_take (i := 20) (v := (.pointer (some ⟨T, i, none⟩))) rfl (by kernel_rfl) (by kernel_rfl) (by kernel_rfl) (fun _ _ _ h => h) (Or.inl ⟨by kernel_rfl, fun w' hw => by (go_simp)⟩) hS ?_
          refine wpAnyH_take (i := 21) (v := (.string t)) rfl (by kernel_rfl) (by kernel_rfl) (by kernel_rfl) (fun _ _ _ h => h) (Or.inl ⟨by kernel_rfl, fun w' hw => by (go_simp)⟩) hS ?_
          refine wpAnyH_take (i := 22) (v := (.slice (some ⟨X, 0, none⟩) 17 17)) rfl (by kernel_rfl) (by kernel_rfl) (by kernel_rfl) (fun _ _ _ h => h) (Or.inl ⟨by kernel_rfl, fun w' hw => by (go_simp)⟩) hS ?_
          refine gp_go (i := 23) (by kernel_rfl) rfl (by kernel_rfl) (fun K hK => ?_)
          go_wp2_with (go_at_call 5; refine (KG.out _ G1.out).mono ?_; rintro e W2 ⟨rfl, hb2⟩; have G2 := hide (show GStR W2 (some ⟨X, 0, none⟩) knSteps from ⟨G1.out.1.below hb2, G1.out.2⟩); have B2 := hide (bseq B1.out hb2); clear hb2)
          have hS := CT.out _ B2.out
          refine hK.out _ _ hS ?_
          clear hK K
          refine wpAnyH_take (i := 24) (v := (.bool false)) rfl (by kernel_rfl) (by kernel_rfl) (by kernel_rfl) (fun _ _ _ h => h) (Or.inl ⟨by kernel_rfl, fun w' hw => by (go_simp)⟩) hS ?_
          refine wpAnyH_take (i := 25) (v := (.bool false)) rfl (by kernel_rfl) (by kernel_rfl) (by kernel_rfl) (fun _ _ _ h => h) (Or.inl ⟨by kernel_rfl, fun w' hw => by (go_simp)⟩) hS ?_
          refine wpAnyH_take (i := 26) (v := (.bool false)) rfl (by kernel_rfl) (by kernel_rfl) (by kernel_rfl) (fun _ _ _ h => h) (Or.inl ⟨by kernel_rfl, fun w' hw => by (go_simp)⟩) hS ?_
          refine wpAnyH_take (i := 27) (v := (.slice (some ⟨T, 0, none⟩) 5 5)) rfl (by kernel_rfl) (by kernel_rfl) (by kernel_rfl) (fun _ _ _ h => h) (Or.inl ⟨by kernel_rfl, fun w' hw => by (go_simp)⟩) hS ?_
          refine wpAnyH_take (i := 28) (v := (.int .i64 (i : Int))) rfl (by kernel_rfl) (by kernel_rfl) (by kernel_rfl) (fun _ _ _ h => h) (Or.inl ⟨by kernel_rfl, fun w' hw => by (go_simp)⟩) hS ?_
          refine wpAnyH_take (i := 29) (v := (.pointer (some ⟨T, i, none⟩))) rfl (by kernel_rfl) (by kernel_rfl) (by kernel_rfl) (fun _ _ _ h => h) (Or.inl ⟨by kernel_rfl, fun w' hw => by (go_simp)⟩) hS ?_
          refine wpAnyH_take (i := 30) (v := (.string t)) rfl (by kernel_rfl) (by kernel_rfl) (by kernel_rfl) (fun _ _ _ h => h) (Or.inl ⟨by kernel_rfl, fun w' hw => by (go_simp)⟩) hS ?_
          refine gp_go (i := 31) (by kernel_rfl) rfl (by kernel_rfl) (fun K hK => ?_)
          go_wp2_with (go_at_call 6; refine (KO.out _).mono ?_; rintro e W3 ⟨rfl, hb3⟩; have G3 := hide (show GStR W3 (some ⟨X, 0, none⟩) knSteps from ⟨G2.out.1.below hb3, G2.out.2⟩); have B3 := hide (bseq B2.out hb3); clear hb3)
          have hS := CT.out _ B3.out
          refine hK.out _ _ hS ?_
          clear hK K
          refine wpAnyH_take (i := 32) (v := (.bool false)) rfl (by kernel_rfl) (by kernel_rfl) (by kernel_rfl) (fun _ _ _ h => h) (Or.inl ⟨by kernel_rfl, fun w' hw => by (go_simp)⟩) hS ?_
          refine gp_go (i := 33) (by kernel_rfl) rfl (by kernel_rfl) (fun K hK => ?_)
          go_wp2_with (fail)
          refine hK.out _ _ hS ?_
          clear hK K
          refine wpAnyH_done (by kernel_rfl) ?_ _
          try simp only [Act.put, List.getElem_toArray, List.getElem_cons_zero, List.getElem_cons_succ, List.setIfInBounds_toArray, List.set_cons_zero, List.set_cons_succ]
          go_wp2_with (fail)
          go_roundw
          case rel => exact ⟨i + 1, by go_num, HI5.out, B3.out⟩
          case measure => simp [intOf]; omega
        · have hltI : (5 : Int) ≤ (i : Int) := by omega
          obtain rfl : i = 5 := by omega
          have B0 := hide (HBA.out.trans (hB.mono HBA.out.size))
          have m2 : ∀ W : World, (Instr.makeSlice 22 (.int .i64 256) (.int .i64 256)).run Try.prog W = .ok (.slice (some ⟨W.heap.size, 0, none⟩) 256 256) (W.alloc (.cells (madeCells #[.int .u8 0] 256) 5)) := fun W => run_make_row' (P := Try.prog) 22 5 (.int .u8 0) 1 Try.underlying22 Try.info5 rfl .i64 .i64 256 (by omega) (by omega) W
          have o2 := OwnB.made wr 256
          have b2 : Below w.heap.size w (wr.alloc (.cells (madeCells #[.int .u8 0] 256) 5)) := B0.out.alloc B0.out.size _
          have O0 := hide o2
          have B1 := hide b2
          have nB : wr.heap.size < (wr.alloc (.cells (madeCells #[.int .u8 0] 256) 5)).heap.size := by simp
          have NB := hide nB
          have hnb : w.heap.size ≤ wr.heap.size := B0.out.size
          have HNB := hide hnb
          clear hnb o2 b2 nB hB B0 HC HBA hi hlt m1
          go_upto_region 14 with (fail)
          obtain ⟨N, hN⟩ : ∃ N, N = wr.heap.size := ⟨_, rfl⟩
          rw [← hN] at O0 NB HNB ⊢
          clear hN
          generalize wr.alloc (.cells (madeCells #[.int .u8 0] 256) 5) = V at *
          obtain ⟨Z, hZ⟩ : ∃ Z, Z = List.replicate 256 0 := ⟨_, rfl⟩
          have HZ : Hid (Z.length = 256) := by show _ = _; rw [hZ, List.length_replicate]
          have HZX : Hid (∀ x ∈ Z, x < 256) := fun x hx => by rw [hZ] at hx; rw [(List.mem_replicate.1 hx).2]; decide
          rw [← hZ] at O0
          clear hZ
          have KA : Hid (∀ W, OwnB W N Z → Calls Try.prog 7 #[.slice (some ⟨N, 0, none⟩) 256 256] W fun e w' => e = .returned (.bool true) ∧ Below W.heap.size W w') := fun W h => by
            have k := opens_walk (some ⟨N, 0, none⟩) 256 Z W (h.sl HZX.out) (by rw [HZ.out]; decide) (by rw [HZ.out]; decide)
            rwa [HZ.out] at k
          have KB : Hid (∀ W, OwnB W N Z → Calls Try.prog 7 #[.slice (some ⟨N, 0, none⟩) 255 256] W fun e w' => e = .returned (.bool true) ∧ Below W.heap.size W w') := fun W h => by
            have hx2 : ∀ x ∈ Z.take 255, x < 256 := fun x h => HZX.out x (List.mem_of_mem_take h)
            have hl : (Z.take 255).length = 255 := by rw [List.length_take, HZ.out]; decide
            have k := opens_walk (some ⟨N, 0, none⟩) 256 (Z.take 255) W (by rw [← List.take_append_drop 255 Z] at h; exact h.head hx2) (by rw [hl]; decide) (by rw [hl]; decide)
            rwa [hl] at k
          have KC : Hid (∀ W v base, W.ownsRow base 5 1 v (256 + 1) (Z.map B8 ++ [.int .u8 0]) → Calls Try.prog 7 #[v] W fun e w' => e = .returned (.bool true) ∧ Below W.heap.size W w') := fun W v base h => by
            have hl : (Z ++ [0]).length = 257 := by rw [List.length_append, HZ.out]; rfl
            have hx2 : ∀ x ∈ Z ++ [0], x < 256 := fun x hx => by
              rcases List.mem_append.1 hx with h | h
              · exact HZX.out x h
              · rw [List.mem_singleton.1 h]; decide
            obtain ⟨a, c, rfl, hs, hc⟩ := kn_owns (bs := Z ++ [0]) (by rw [hl, List.map_append]; exact h) hx2
            exact opens_walk a c (Z ++ [0]) W hs (by rw [hl]; decide) hc
          have KD : Hid (∀ W, Calls Try.prog 7 #[.slice none 0 0] W fun e w' => e = .returned (.bool true) ∧ Below W.heap.size W w') := fun W => opens_walk none 0 [] W (.inl rfl) (by decide) (by decide)
          have q3 := fun W => kn_cut2 N 255 (by decide) W
          go_wp2_with (first
            | (go_at_call 7; refine (KA.out _ O0.out).mono ?_; rintro e W1 ⟨rfl, hb1⟩; have O1 := hide (O0.out.below hb1 NB.out); have N1 := hide (Nat.lt_of_lt_of_le NB.out hb1.size); have B2 := hide (bseq B1.out hb1); clear hb1 KA)
            | (go_at_call 7; refine (KB.out _ O1.out).mono ?_; rintro e W2 ⟨rfl, hb2⟩; have O2 := hide (O1.out.below hb2 N1.out); have N2 := hide (Nat.lt_of_lt_of_le N1.out hb2.size); have B3 := hide (bseq B2.out hb2); clear hb2 KB)
            | (at_builtin; go_loud (have ho := owns_of_ownB (W := W2) (base := w.heap.size) O2.out HNB.out (by rw [HZ.out]; decide); rw [HZ.out] at ho; refine kn_append (by kernel_rfl) (.tmp 102) (.tmp 103) rfl w.heap.size (.slice (some ⟨N, 0, none⟩) 256 256) 256 (Z.map B8) (by kernel_rfl) (ho.alloc _) ⟨W2.heap.size, 0, none⟩ 1 (by kernel_rfl) (cell_one_new _ _ _) (by have := B3.out.size; simp; omega) (by decide) ?_); intro v3 W3 ho3 hg3; have H3 := hide ho3; have B4 : Hid (Below w.heap.size w W3) := (B3.out.alloc B3.out.size _).grown hg3 (by have := B3.out.size; simp; omega) (fun j e => by cases e; exact HNB.out); clear ho ho3 hg3)
            | (go_at_call 7; refine (KC.out _ _ _ H3.out).mono ?_; rintro e W4 ⟨rfl, hb4⟩; have B5 := hide (bseq B4.out hb4); clear hb4 KC)
            | (go_at_call 7; refine (KD.out _).mono ?_; rintro e W5 ⟨rfl, hb5⟩; have B6 := hide (bseq B5.out hb5); clear hb5 KD))
          obtain ⟨hb5, hh5⟩ := kn_heads W5
          have HA := hide (bseq B6.out hb5)
          have HH := hide hh5
          clear hb5 hh5 B6 B5 B4 B3 B2 B1 H3 HNB HZ HZX O0 O1 O2 N1 N2 NB m2 q3
          generalize (((((((((W5.alloc (.cells #[.int .u8 5, .int .u8 0, .int .u8 4, .int .u8 0] 5)).alloc (.cells #[.int .u8 0, .int .u8 0, .int .u8 253, .int .u8 0] 5)).alloc (.cells #[.int .u8 252, .int .u8 0, .int .u8 252, .int .u8 0] 5)).alloc (.cells #[.int .u8 253, .int .u8 0, .int .u8 253, .int .u8 0] 5)).alloc (.cells #[.int .u8 0, .int .u8 1, .int .u8 0, .int .u8 1] 5)).alloc (.cells #[.int .u8 3, .int .u8 0, .int .u8 9, .int .u8 0] 5)).alloc (.cells #[.int .u8 3, .int .u8 0, .int .u8 252, .int .u8 0] 5)).alloc (.cells #[.int .u8 0, .int .u8 0, .int .u8 252, .int .u8 0] 5)).alloc (.cells #[.slice (some ⟨W5.heap.size, 0, none⟩) 4 4, .slice (some ⟨W5.heap.size + 1, 0, none⟩) 4 4, .slice (some ⟨W5.heap.size + 1 + 1, 0, none⟩) 4 4, .slice (some ⟨W5.heap.size + 1 + 1 + 1, 0, none⟩) 4 4, .slice (some ⟨W5.heap.size + 1 + 1 + 1 + 1, 0, none⟩) 4 4, .slice (some ⟨W5.heap.size + 1 + 1 + 1 + 1 + 1, 0, none⟩) 4 4, .slice (some ⟨W5.heap.size + 1 + 1 + 1 + 1 + 1 + 1, 0, none⟩) 4 4, .slice (some ⟨W5.heap.size + 1 + 1 + 1 + 1 + 1 + 1 + 1, 0, none⟩) 4 4] 22)) = A at *
          generalize W5.heap.size + 1 + 1 + 1 + 1 + 1 + 1 + 1 + 1 = H at *
          go_loopw [8] (fun q w' => ∃ i : Nat, q = .int .i64 (i : Int) ∧ i ≤ 8 ∧ Below A.heap.size A w') (fun q _ => (8 - intOf q).toNat)
          case atStart => exact ⟨0, rfl, by omega, Below.refl _ _⟩
          case round =>
            obtain ⟨i, rfl, hi, hB⟩ := hrel
            by_cases hlt : i < 8
            · have hltI : (i : Int) < 8 := by omega
              obtain ⟨b, hd, hdl, hch, hsh⟩ := HH.out i hlt
              have CT : Hid (∀ W, Below A.heap.size A W → W.cell? ⟨H, i, none⟩ = some (.slice (some ⟨b, 0, none⟩) 4 4) ∧ Sl W (some ⟨b, 0, none⟩) hd) := fun W hW => ⟨(hW.cell (p := ⟨H, i, none⟩) (World.block_lt_of_cell? _ _ hch)).trans hch, hsh.below hW⟩
              have HDL := hide hdl
              have HDX : Hid (∀ x ∈ hd, x < 256) := hsh.lt
              have HI8 : Hid (i + 1 ≤ 8) := show i + 1 ≤ 8 by omega
              have BR := hide hB
              clear hch hsh hdl hB hi
              go_wp2_with (fail)
              go_loopw [9] (fun q w' => ∃ k : Nat, q = .int .i64 (k : Int) ∧ k ≤ 260 ∧ Below A.heap.size A w') (fun q _ => (260 - intOf q).toNat)
              case atStart => exact ⟨0, rfl, by omega, BR.out⟩
              case round =>
                obtain ⟨k, rfl, hk, hB⟩ := hrel
                by_cases hlk : k < 256
                · have hlkI : (k : Int) < 256 := by omega
                  have BA := hide hB
                  clear hB
                  obtain ⟨Z, hZ⟩ : ∃ Z, Z = List.replicate 252 0 := ⟨_, rfl⟩
                  have HZ : Hid (Z.length = 252) := by show _ = _; rw [hZ, List.length_replicate]
                  have HZX : Hid (∀ x ∈ Z, x < 256) := fun x hx => by rw [hZ] at hx; rw [(List.mem_replicate.1 hx).2]; decide
                  have m3 : ∀ W : World, (Instr.makeSlice 22 (.int .i64 252) (.int .i64 252)).run Try.prog W = .ok (.slice (some ⟨W.heap.size, 0, none⟩) 252 252) (W.alloc (.cells (madeCells #[.int .u8 0] 252) 5)) := fun W => run_make_row' (P := Try.prog) 22 5 (.int .u8 0) 1 Try.underlying22 Try.info5 rfl .i64 .i64 252 (by omega) (by omega) W
                  have OZ : Hid (∀ W : World, OwnB (W.alloc (.cells (madeCells #[.int .u8 0] 252) 5)) W.heap.size Z) := fun W => by rw [hZ]; exact OwnB.made W 252
                  have KT : Hid (∀ W N, Sl W (some ⟨b, 0, none⟩) hd → OwnB W N Z → Calls Try.prog 8 #[.slice (some ⟨b, 0, none⟩) 4 4, .slice (some ⟨N, 0, none⟩) 252 252] W fun e w' => ∃ g c, e = .returned (.slice (some ⟨g, 0, none⟩) 256 c) ∧ W.heap.size ≤ g ∧ Lies w' g (hd ++ Z) ∧ 256 ≤ c ∧ Below W.heap.size W w') := fun W N h1 h2 => kn_two h1 (h2.sl HZX.out) HDL.out HZ.out
                  have B1 : Hid (Below A.heap.size A (wr.drew.alloc (.cells (madeCells #[.int .u8 0] 252) 5))) := BA.out.drew.alloc BA.out.drew.size _
                  clear hZ
                  go_upto_region 23 with (fail)
                  refine wp_region_held_drew (S := fun Y => Y.cell? ⟨H, i, none⟩ = some (.slice (some ⟨b, 0, none⟩) 4 4)) (by kernel_rfl) (CT.out _ BA.out.drew).1 (fun hS => ?_)
                  refine wpAnyH_take (i := 0) (v := (.slice (some ⟨H, 0, none⟩) 8 8)) rfl (by kernel_rfl) (by kernel_rfl) (by kernel_rfl) (fun _ _ _ h => h) (Or.inl ⟨by kernel_rfl, fun w' hw => by (go_simp)⟩) hS ?_
                  refine wpAnyH_take (i := 1) (v := (.int .i64 (i : Int))) rfl (by kernel_rfl) (by kernel_rfl) (by kernel_rfl) (fun _ _ _ h => h) (Or.inl ⟨by kernel_rfl, fun w' hw => by (go_simp)⟩) hS ?_
                  refine wpAnyH_take (i := 2) (v := (.pointer (some ⟨H, i, none⟩))) rfl (by kernel_rfl) (by kernel_rfl) (by kernel_rfl) (fun _ _ _ h => h) (Or.inl ⟨by kernel_rfl, fun w' hw => by (go_simp)⟩) hS ?_
                  refine wpAnyH_take (i := 3) (v := (.slice (some ⟨b, 0, none⟩) 4 4)) rfl (by kernel_rfl) (by kernel_rfl) (by kernel_rfl) (fun _ _ _ h => h) (Or.inl ⟨by kernel_rfl, fun w' hw => by (go_simp)⟩) hS ?_
                  refine gp_go (i := 4) (by kernel_rfl) rfl (by kernel_rfl) (fun K hK => ?_)
                  go_wp2_with (fail)
                  have hS := (CT.out _ B1.out).1
                  refine hK.out _ _ hS ?_
                  clear hK K
                  refine gp_go (i := 5) (by kernel_rfl) rfl (by kernel_rfl) (fun K hK => ?_)
                  go_wp2_with (go_at_call 8; refine (KT.out _ _ (CT.out _ B1.out).2 (OZ.out _)).mono ?_; rintro e W2 ⟨g, c, rfl, hg2, hl2, hc2, hb2⟩; have L2 := hide hl2; have C2 := hide hc2; have B2 := hide (bseq B1.out hb2); clear hl2 hc2 hb2)
                  have hS := (CT.out _ B2.out).1
                  refine hK.out _ _ hS ?_
                  clear hK K
                  refine gp_go (i := 6) (by kernel_rfl) rfl (by kernel_rfl) (fun K hK => ?_)
                  go_wp2_with (fail)
                  refine hK.out _ _ hS ?_
                  clear hK K
                  refine wpAnyH_done (by kernel_rfl) ?_ _
                  try simp only [Act.put, List.getElem_toArray, List.getElem_cons_zero, List.getElem_cons_succ, List.setIfInBounds_toArray, List.set_cons_zero, List.set_cons_succ]
                  obtain ⟨x, hx⟩ : ∃ x, (hd ++ Z)[k]? = some x := ⟨_, List.getElem?_eq_getElem (by rw [List.length_append, HDL.out, HZ.out]; omega)⟩
                  have hxs : ∀ x ∈ hd ++ Z, x < 256 := fun x h => (List.mem_append.1 h).elim (HDX.out x) (HZX.out x)
                  have hx8 : x < 256 := hxs x (List.mem_of_getElem? hx)
                  obtain ⟨y, hy⟩ : ∃ y, y = x ^^^ 1 := ⟨_, rfl⟩
                  have hy8 : y < 256 := by rw [hy]; exact Nat.xor_lt_two_pow (n := 8) hx8 (by decide)
                  have wx : bits .xor .u8 (x : Int) 1 = (y : Int) := by rw [hy]; exact u8_xor_nat x 1 hx8 (by decide)
                  have cx := L2.out.cell k x hx
                  have fx := L2.out.frozen k
                  have LS := hide (L2.out.set k y)
                  have BS := hide (B2.out.trans ((Ke.set (X := fun i => i = g) W2 g k (.int .u8 (y : Int)) rfl).below (B := A.heap.size) B2.out.size (fun i hi => by have := B1.out.size; rw [hi]; omega)))
                  have LX : Hid (∀ x ∈ (hd ++ Z).set k y, x < 256) := fun z hz => (List.mem_or_eq_of_mem_set hz).elim (hxs z) (fun e => by rw [e]; exact hy8)
                  have LL : Hid (((hd ++ Z).set k y).length = 256) := by show _ = _; rw [List.length_set, List.length_append, HDL.out, HZ.out]
                  clear hx hxs hx8 hy hy8 hg2
                  go_upto_region 25 with (fail)
                  generalize W2.setCell ⟨g, k, none⟩ (.int .u8 (y : Int)) = V at *
                  have BV : Hid (Below A.heap.size A V.drew) := BS.out.drew
                  have LV : Hid (Lies V.drew g ((hd ++ Z).set k y)) := LS.out
                  have KO : Hid (∀ W, Lies W g ((hd ++ Z).set k y) → Calls Try.prog 7 #[.slice (some ⟨g, 0, none⟩) 256 c] W fun e w' => e = .returned (.bool true) ∧ Below W.heap.size W w') := fun W h => by
                    have kk := opens_walk (some ⟨g, 0, none⟩) c ((hd ++ Z).set k y) W (h.sl LX.out) (by rw [LL.out]; decide) (by rw [LL.out]; exact C2.out)
                    rwa [LL.out] at kk
                  have B3m : Hid (∀ W3, Below A.heap.size A W3 → Below A.heap.size A (W3.alloc (.cells (madeCells #[.int .u8 0] 252) 5))) := fun W3 h => h.alloc h.size _
                  have KP : Hid (∀ W h c2, Lies W h (hd ++ Z) → 256 ≤ c2 → Calls Try.prog 7 #[.slice (some ⟨h, 0, none⟩) 256 c2] W fun e w' => e = .returned (.bool true) ∧ Below W.heap.size W w') := fun W g2 c2 h hc => by
                    have hl : (hd ++ Z).length = 256 := by rw [List.length_append, HDL.out, HZ.out]
                    have kk := opens_walk (some ⟨g2, 0, none⟩) c2 (hd ++ Z) W (h.sl (fun x h => (List.mem_append.1 h).elim (HDX.out x) (HZX.out x))) (by rw [hl]; decide) (by rw [hl]; exact hc)
                    rwa [hl] at kk
                  clear hS
                  refine wp_region_held_drew (S := fun Y => Y.cell? ⟨H, i, none⟩ = some (.slice (some ⟨b, 0, none⟩) 4 4)) (by kernel_rfl) (CT.out _ BV.out).1 (fun hS => ?_)
                  refine wpAnyH_take (i := 0) (v := (.slice (some ⟨g, 0, none⟩) 256 c)) rfl (by kernel_rfl) (by kernel_rfl) (by kernel_rfl) (fun _ _ _ h => h) (Or.inl ⟨by kernel_rfl, fun w' hw => by (go_simp)⟩) hS ?_
                  refine gp_go (i := 1) (by kernel_rfl) rfl (by kernel_rfl) (fun K hK => ?_)
                  go_wp2_with (go_at_call 7; refine (KO.out _ LV.out).mono ?_; rintro e W3 ⟨rfl, hb3⟩; have B3 := hide (bseq BV.out hb3); have B4 := hide (B3m.out _ B3.out); clear hb3 KO)
                  have hS := (CT.out _ B3.out).1
                  refine hK.out _ _ hS ?_
                  clear hK K
                  refine wpAnyH_take (i := 2) (v := (.bool false)) rfl (by kernel_rfl) (by kernel_rfl) (by kernel_rfl) (fun _ _ _ h => h) (Or.inl ⟨by kernel_rfl, fun w' hw => by (go_simp)⟩) hS ?_
                  refine wpAnyH_take (i := 3) (v := (.bool false)) rfl (by kernel_rfl) (by kernel_rfl) (by kernel_rfl) (fun _ _ _ h => h) (Or.inl ⟨by kernel_rfl, fun w' hw => by (go_simp)⟩) hS ?_
                  refine wpAnyH_take (i := 4) (v := (.slice (some ⟨H, 0, none⟩) 8 8)) rfl (by kernel_rfl) (by kernel_rfl) (by kernel_rfl) (fun _ _ _ h => h) (Or.inl ⟨by kernel_rfl, fun w' hw => by (go_simp)⟩) hS ?_
                  refine wpAnyH_take (i := 5) (v := (.int .i64 (i : Int))) rfl (by kernel_rfl) (by kernel_rfl) (by kernel_rfl) (fun _ _ _ h => h) (Or.inl ⟨by kernel_rfl, fun w' hw => by (go_simp)⟩) hS ?_
                  refine wpAnyH_take (i := 6) (v := (.pointer (some ⟨H, i, none⟩))) rfl (by kernel_rfl) (by kernel_rfl) (by kernel_rfl) (fun _ _ _ h => h) (Or.inl ⟨by kernel_rfl, fun w' hw => by (go_simp)⟩) hS ?_
                  refine wpAnyH_take (i := 7) (v := (.slice (some ⟨b, 0, none⟩) 4 4)) rfl (by kernel_rfl) (by kernel_rfl) (by kernel_rfl) (fun _ _ _ h => h) (Or.inl ⟨by kernel_rfl, fun w' hw => by (go_simp)⟩) hS ?_
                  refine gp_go (i := 8) (by kernel_rfl) rfl (by kernel_rfl) (fun K hK => ?_)
                  go_wp2_with (fail)
                  have hS := (CT.out _ B4.out).1
                  refine hK.out _ _ hS ?_
                  clear hK K
                  refine gp_go (i := 9) (by kernel_rfl) rfl (by kernel_rfl) (fun K hK => ?_)
                  go_wp2_with (go_at_call 8; refine (KT.out _ _ (CT.out _ B4.out).2 (OZ.out _)).mono ?_; rintro e W5 ⟨g5, c5, rfl, hg5, hl5, hc5, hb5⟩; have L5 := hide hl5; have C5 := hide hc5; have B5 := hide (bseq B4.out hb5); clear hl5 hc5 hb5)
                  have hS := (CT.out _ B5.out).1
                  refine hK.out _ _ hS ?_
                  clear hK K
                  refine gp_go (i := 10) (by kernel_rfl) rfl (by kernel_rfl) (fun K hK => ?_)
                  go_wp2_with (go_at_call 7; refine (KP.out _ _ _ L5.out C5.out).mono ?_; rintro e W6 ⟨rfl, hb6⟩; have B6 := hide (bseq B5.out hb6); clear hb6 KP)
                  have hS := (CT.out _ B6.out).1
                  refine hK.out _ _ hS ?_
                  clear hK K
                  refine wpAnyH_take (i := 11) (v := (.bool false)) rfl (by kernel_rfl) (by kernel_rfl) (by kernel_rfl) (fun _ _ _ h => h) (Or.inl ⟨by kernel_rfl, fun w' hw => by (go_simp)⟩) hS ?_
                  refine gp_go (i := 12) (by kernel_rfl) rfl (by kernel_rfl) (fun K hK => ?_)
                  go_wp2_with (fail)
                  refine hK.out _ _ hS ?_
                  clear hK K
                  refine wpAnyH_done (by kernel_rfl) ?_ _
                  try simp only [Act.put, List.getElem_toArray, List.getElem_cons_zero, List.getElem_cons_succ, List.setIfInBounds_toArray, List.set_cons_zero, List.set_cons_succ]
                  go_wp2_with (fail)
                  go_roundw
                  case rel => exact ⟨k + 5, by go_num, by omega, B6.out⟩
                  case measure => simp [intOf]; omega
                · have hlkI : (256 : Int) ≤ (k : Int) := by omega
                  have BA := hide hB
                  clear hB hlk
                  go_wp2_with (fail)
                  go_roundw
                  case rel => exact ⟨i + 1, by go_num, HI8.out, BA.out⟩
                  case measure => simp [intOf]; omega
            · have hltI : (8 : Int) ≤ (i : Int) := by omega
              have BE := hide (HA.out.trans (hB.mono HA.out.size))
              clear hB hlt HH HA
              have KN := fun W => hide (nothing_any (NoG.nil W))
              have kb := fun W => kn_zv W
              have KZ : Hid (∀ W : World, Calls Try.prog 9 #[.pointer (some ⟨W.heap.size, 0, none⟩)] (W.alloc (.cells (gZ 0 0).toArray 39)) fun e w' => e = .returned (.bool true) ∧ w' = W.alloc (.cells (gZ 0 0).toArray 39)) := fun W => nothing_any (kn_zero W)
              generalize (gZ 0 0).toArray = zs at *
              go_wp2_with (first
                | (go_at_call 9; refine ((KN _).out).mono ?_; rintro e W6 ⟨rfl, rfl⟩; clear KN)
                | (go_at_call 9; refine (KZ.out _).mono ?_; rintro e W7 ⟨rfl, rfl⟩; clear KZ)
                | (go_at_call 10; refine (works_any _).mono ?_; rintro e W8 ⟨rfl, hb8⟩; have B8 := hide hb8; clear hb8))
              go_ret
              exact ⟨rfl, bseq (BE.out.alloc BE.out.size _) B8.out⟩
end Go.Proofs.Ytheefdplbmneeaa
