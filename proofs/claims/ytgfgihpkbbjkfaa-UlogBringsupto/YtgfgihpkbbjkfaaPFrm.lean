/- Package pmem: From. -/
import Derived.Test.YtgfgihpkbbjkfaaPCof
namespace Go.Proofs.Ytgfgihpkbbjkfaa
open Go.RowKit Go.Shelf
set_option linter.unusedVariables false

/-- A device of these bytes. -/
def fromD (m : Nat) (bs : List Nat) : St := { newD m with bytes := bs }
theorem fromD_ok {m : Nat} {bs : List Nat} (h1 : 1 ≤ m) (h2 : m ≤ 65536) (hl : bs.length = 64 * m) (hb : ∀ x ∈ bs, x < 256) : (fromD m bs).Ok :=
  ⟨h1, h2, hl, hb, fun _ _ => rfl, fun i c hc => (by cases hc), fun i c hc => (by cases hc), fun i => Nat.zero_le _, fun i k hk => (by cases hk), by show 0 ≤ _; omega⟩
set_option maxRecDepth 100000 in
set_option maxHeartbeats 1000000 in
theorem pfrom_any (w : World) (ab ao N cap m : Nat) (bs : List Nat) (hs : Seg w ab ao bs) (hab : ab < w.heap.size) (hNl : bs.length = N) (hNm : N = 64 * m) (h1 : 1 ≤ m) (h2 : m ≤ 65536) (hb : ∀ x ∈ bs, x < 256) (hnc : N ≤ cap) :
    Calls Try.prog 23 #[.slice (some ⟨ab, ao, none⟩) N cap] w fun e w' => ∃ b L, e = .returned (.tuple #[.pointer (some ⟨b, 0, none⟩), .int .i64 0]) ∧ DevL w' b L (fromD m bs) ∧ (∀ k, Foot b L (fromD m bs) k → w.heap.size ≤ k) ∧ Below w.heap.size w w' ∧ L.N = 0 := by
  have hok := fromD_ok h1 h2 (hNl.trans hNm) hb
  have kn := pnew_any w m h1 h2
  rw [← hNm] at kn
  have KN := hide kn
  have HOK := hide hok
  have HS := hide hs
  have HAB := hide hab
  have HNL := hide hNl
  have HNM := hide hNm
  have HNC := hide hnc
  have H2 := hide h2
  have mI : (m : Int) ≤ 65536 := by omega
  clear kn hok hs hab hNl hNm hnc hb h1 h2
  go_enter Try.func23, Try.ntmps23
  go_wp2_with (go_at_call 49; refine (KN.out).mono ?_; rintro e W0 ⟨b, L, rfl, hd, hf, hB, hN0⟩; have c1 : W0.cell? ⟨b, 1, none⟩ = some (.slice (some ⟨L.sb, 0, none⟩) m L.cp) := hd.c1; have HD := hide hd; have HF := hide hf; have HB := hide hB; have HN0 := hide hN0; clear hd hf hB hN0)
  try go_frame
  go_loopw [21] (fun iv wr => ∃ j : Nat, iv = .int .i64 (j : Int) ∧ j ≤ m ∧ DevL wr b L { newD m with bytes := imgTo (fromD m bs) j } ∧ Gr (fun k => k = L.sb) W0 wr) (fun iv _ => (m - (intOf iv).toNat))
  case atStart =>
    refine ⟨0, rfl, Nat.zero_le _, ?_, Gr.refl _ _⟩
    have e : imgTo (fromD m bs) 0 = (newD m).bytes := by unfold imgTo; rw [Nat.mul_zero, List.take_zero, List.nil_append, Nat.sub_zero]; rfl
    rw [e]
    exact HD.out
  case round =>
    obtain ⟨j, rfl, hj, hdw, hgw⟩ := hrel
    by_cases hlt : j < m
    · have jI : (j : Int) < (m : Int) := by omega
      have hil : (imgTo (fromD m bs) j).length = 64 * m := imgTo_len HOK.out (show j ≤ (fromD m bs).n from hj)
      have hll : ((fromD m bs).line j).length = 64 := line_len HOK.out (show j < (fromD m bs).n from hlt)
      have hnx := imgTo_next HOK.out (show j < (fromD m bs).n from hlt)
      have hbl : ab < wr.heap.size := Nat.lt_of_lt_of_le HAB.out (Nat.le_trans HB.out.size hgw.size)
      have hsb := HF.out L.sb (.inr (.inl rfl))
      have hsw : Seg wr ab (ao + j * 64) (bs.drop (j * 64)) := fun q x hx => by
        rw [List.getElem?_drop] at hx
        have h5 := HS.out _ _ hx
        refine ⟨?_, h5.2⟩
        rw [Nat.add_assoc]
        have hk : wr.heap[ab]? = w.heap[ab]? := (hgw.block (Nat.lt_of_lt_of_le HAB.out HB.out.size) (by have := HAB.out; omega)).trans (HB.out.block ab HAB.out)
        exact (World.cell?_of_block (a := ⟨ab, ao + (j * 64 + q), none⟩) hk).trans h5.1
      have hnm := HNM.out
      have hnl := HNL.out
      have hncc := HNC.out
      have kc := pcof_any wr.drew ab (ao + j * 64) (N - j * 64) (cap - j * 64) (bs.drop (j * 64)) hsw hbl (by rw [List.length_drop]; omega) (by omega) (by omega)
      have hline : (bs.drop (j * 64)).take 64 = (fromD m bs).line j := by unfold St.line; rw [Nat.mul_comm]; rfl
      rw [hline] at kc
      have fin : ∀ W4, Below wr.heap.size wr W4 → DevL (W4.setCells L.sb (j * 64) (((fromD m bs).line j).map B8)) b L { newD m with bytes := imgTo (fromD m bs) (j + 1) } ∧ Gr (fun k => k = L.sb) W0 (W4.setCells L.sb (j * 64) (((fromD m bs).line j).map B8)) := fun W4 h4 => by
        refine ⟨?_, (hgw.trans (Gr.of_below h4 : Gr (fun k => k = L.sb) wr W4) (fun i h => .inl h)).trans (Gr.setCells W4 L.sb _ _ (X := fun k => k = L.sb) rfl) (fun i h => .inl h)⟩
        have h5 := dev_seen (i := j) (c := (fromD m bs).line j) (hdw.below h4) hil hlt hll
        have e : splice (imgTo (fromD m bs) j) (64 * j) ((fromD m bs).line j) = imgTo (fromD m bs) (j + 1) := by rw [Nat.mul_comm]; exact hnx
        have h6 : DevL (W4.setCells L.sb (j * 64) (((fromD m bs).line j).map B8)) b L { newD m with bytes := splice (imgTo (fromD m bs) j) (64 * j) ((fromD m bs).line j) } := h5
        rw [e] at h6
        exact h6
      have c1w : wr.cell? ⟨b, 1, none⟩ = some (.slice (some ⟨L.sb, 0, none⟩) m L.cp) := hdw.c1
      have tf : ∀ W4, Below wr.heap.size wr W4 → W4.there L.sb (j * 64) (((fromD m bs).line j).map B8).toArray.size ∧ W4.cell? ⟨b, 1, none⟩ = some (.slice (some ⟨L.sb, 0, none⟩) m L.cp) := fun W4 h4 => ⟨there_row ((h4.block _ (lt_of_heap hdw.seen)).trans hdw.seen) _ _ (by rw [List.size_toArray, List.length_map, List.length_append, List.length_map, hll]; show _ ≤ (imgTo (fromD m bs) j).length + _; omega), (hdw.below h4).c1⟩
      have si : (Try.prog.info? 73).map (·.size) = some (((fromD m bs).line j).map B8).toArray.size := by rw [List.size_toArray, List.length_map, hll]; kernel_rfl
      have S1 := hide (all_oneCell_toArray (B8_cell ((fromD m bs).line j)))
      have SI := hide si
      have KC := hide kc
      have FIN := hide fin
      have TF := hide tf
      have SB0 : Hid (wr.drew.cell? ⟨b, 1, none⟩ = some (.slice (some ⟨L.sb, 0, none⟩) m L.cp)) := c1w
      have HJ := hide hlt
      have SB : Hid (j * 64 < N) := by show _ < _; omega
      have EJ : Hid (((j * 64 : Nat) : Int) = (j : Int) * 64) := by show _ = _; omega
      have WM : Hid (IntKind.i64.wrap ((j : Int) * 64) = (j : Int) * 64) := by show IntKind.i64.wrap _ = _; rw [IntKind.wrap_i64]; omega
      clear hil hll hnx hbl hsb hsw hnm hnl hncc kc hline fin c1w tf si hdw hgw c1
      go_wp2_with (fail)
      try go_frame
      refine wp_region_early 11 (fun X => X.cell? ⟨b, 1, none⟩ = some (.slice (some ⟨L.sb, 0, none⟩) m L.cp)) (by kernel_rfl) SB0.out (fun hS => ?_)
      refine wpAnyE_take (i := 0) (v := (.pointer (some ⟨b, 0, none⟩))) rfl (by kernel_rfl) (by kernel_rfl) (by kernel_rfl) (by kernel_rfl) (fun _ _ _ h => h) (Or.inl ⟨by kernel_rfl, fun w' hw => by (go_simp)⟩) hS ?_
      refine wpAnyE_take (i := 1) (v := (.pointer (some ⟨b, 0, none⟩))) rfl (by kernel_rfl) (by kernel_rfl) (by kernel_rfl) (by kernel_rfl) (fun _ _ _ h => h) (Or.inl ⟨by kernel_rfl, fun w' hw => by (go_simp)⟩) hS ?_
      refine wpAnyE_take (i := 2) (v := (.pointer (some ⟨b, 1, none⟩))) rfl (by kernel_rfl) (by kernel_rfl) (by kernel_rfl) (by kernel_rfl) (fun _ _ _ h => h) (Or.inl ⟨by kernel_rfl, fun w' hw => by (go_simp)⟩) hS ?_
      refine wpAnyE_take (i := 3) (v := (.slice (some ⟨L.sb, 0, none⟩) m L.cp)) rfl (by kernel_rfl) (by kernel_rfl) (by kernel_rfl) (by kernel_rfl) (fun _ _ _ h => h) (Or.inl ⟨by kernel_rfl, fun w' hw => by (go_simp)⟩) hS ?_
      refine wpAnyE_take (i := 4) (v := (.int .i64 (j : Int))) rfl (by kernel_rfl) (by kernel_rfl) (by kernel_rfl) (by kernel_rfl) (fun _ _ _ h => h) (Or.inl ⟨by kernel_rfl, fun w' hw => by (go_simp)⟩) hS ?_
      refine wpAnyE_take (i := 5) (v := (.slice (some ⟨ab, ao, none⟩) N cap)) rfl (by kernel_rfl) (by kernel_rfl) (by kernel_rfl) (by kernel_rfl) (fun _ _ _ h => h) (Or.inl ⟨by kernel_rfl, fun w' hw => by (go_simp)⟩) hS ?_
      refine wpAnyE_take (i := 6) (v := (.int .i64 (j : Int))) rfl (by kernel_rfl) (by kernel_rfl) (by kernel_rfl) (by kernel_rfl) (fun _ _ _ h => h) (Or.inl ⟨by kernel_rfl, fun w' hw => by (go_simp)⟩) hS ?_
      refine wpAnyE_take (i := 7) (v := (.int .i64 ((j : Int) * 64))) rfl (by kernel_rfl) (by kernel_rfl) (by kernel_rfl) (by kernel_rfl) (fun _ _ _ h => h) (Or.inl ⟨by kernel_rfl, fun w' hw => by (have wm := WM.out; go_simp)⟩) hS ?_
      refine wpAnyE_take (i := 8) (v := (.slice (some ⟨ab, ao + j * 64, none⟩) (N - j * 64) (cap - j * 64))) rfl (by kernel_rfl) (by kernel_rfl) (by kernel_rfl) (by kernel_rfl) (fun _ _ _ h => h) (Or.inl ⟨by kernel_rfl, fun w' hw => by (have e := slice_bytes ab ao (j * 64) N cap SB.out HNC.out w'; rw [EJ.out] at e; go_simp)⟩) hS ?_
      refine wpAnyE_do (i := 9) (by kernel_rfl) rfl (by kernel_rfl) (fun K hK => ?_)
      go_wp2_with (go_at_call 50; refine (KC.out).mono ?_; rintro e W4 ⟨rfl, hB4⟩; have HB4 := hide (bseq (Below.refl _ wr).drew hB4 : Below wr.heap.size wr W4); clear hB4)
      have s4 := (TF.out W4 HB4.out).2
      have th4 := (TF.out W4 HB4.out).1
      have TH := hide th4
      clear th4
      refine hK.out _ _ (fun _ => s4) ?_
      clear hK K
      refine wpAnyE_take (i := 10) (v := (.pointer (some ⟨L.sb, j * 64, none⟩))) rfl (by kernel_rfl) (by kernel_rfl) (by kernel_rfl) (by kernel_rfl) (fun _ _ _ h => h) (Or.inl ⟨by kernel_rfl, fun w' hw => by (have e := index_line L.sb j m L.cp HJ.out w'; go_simp)⟩) s4 ?_
      refine wpAnyE_store 73 (.tmp 34) (.tmp 33) L.sb (j * 64) (((fromD m bs).line j).map B8).toArray (by kernel_rfl) rfl (by kernel_rfl) (by kernel_rfl) (by kernel_rfl) (by kernel_rfl) (by kernel_rfl) TH.out SI.out S1.out ?_
      simp only [Act.put, List.getElem_toArray, List.getElem_cons_zero, List.getElem_cons_succ, List.setIfInBounds_toArray, List.set_cons_zero, List.set_cons_succ]
      go_wp2_with (fail)
      go_roundw
      case rel => exact ⟨j + 1, int_congrP (by omega), by omega, (FIN.out W4 HB4.out).1, (FIN.out W4 HB4.out).2⟩
      case measure => simp [intOf]; omega
    · have hjm : j = m := by omega
      have jI : ¬ (j : Int) < (m : Int) := by omega
      have e : imgTo (fromD m bs) j = bs := by
        have h5 : bs.length = 64 * m := HOK.out.len
        unfold imgTo
        rw [hjm]
        show List.take (64 * m) bs ++ List.replicate (64 * (m - m)) 0 = bs
        rw [Nat.sub_self, Nat.mul_zero, List.replicate_zero, List.append_nil, List.take_of_length_le (Nat.le_of_eq h5)]
      rw [e] at hdw
      have HDW := hide hdw
      have HGW := hide hgw
      clear hdw hgw e hjm
      go_wp2
      go_ret2
      have h5 := HGW.out
      have h7 := HB.out
      have hsb := HF.out L.sb (.inr (.inl rfl))
      exact ⟨b, rfl, L, HDW.out, HF.out, ⟨h5.1.trans h7.os, h5.2.1.trans h7.tape, h5.2.2.1.trans h7.output, Nat.le_trans h7.size h5.size, fun k hk => (h5.block (Nat.lt_of_lt_of_le hk h7.size) (by omega)).trans (h7.block k hk)⟩, HN0.out⟩
end Go.Proofs.Ytgfgihpkbbjkfaa
