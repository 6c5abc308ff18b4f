/- Package pmem: contentOf. -/
import Derived.Test.YtgfgihpkbbjkfaaPImg
namespace Go.Proofs.Ytgfgihpkbbjkfaa
open Go.RowKit Go.Shelf
set_option linter.unusedVariables false

theorem slice_all (g o : Nat) (w : World) : (Instr.sliceAt 71 (.pointer (some ⟨g, o, none⟩)) none none none).run Try.prog w = .ok (.slice (some ⟨g, o, none⟩) 8 8) w := by
  obtain ⟨it, h1, h2⟩ := info_of (t := 5) (n := 1) (by kernel_rfl)
  have hu : Try.prog.underlying 71 = some (.array 8 5) := by kernel_rfl
  simp [Instr.sliceAt, Sem.run_bind, run_underlying hu, Instr.sureAddr, Instr.sliceBounds, sizeOf, typeInfo, h1, Addr.add_mid]
theorem zero_bytes (w : World) : (zeroValue 73).run Try.prog w = .ok (.agg ((List.replicate 64 0).map B8).toArray) w := by
  have h : (Try.prog.info? 73).map (fun i => i.zero) = some (some (.agg ((List.replicate 64 0).map B8).toArray)) := by kernel_rfl
  obtain ⟨i, hi, hz⟩ := Option.map_eq_some_iff.1 h
  simp [zeroValue, typeInfo, hi, hz]
set_option maxRecDepth 100000 in
set_option maxHeartbeats 1000000 in
theorem pcof_any (w : World) (ab ao n cap : Nat) (bs : List Nat) (hs : Seg w ab ao bs) (hab : ab < w.heap.size) (hn : bs.length = n) (h64 : 64 ≤ n) (hnc : n ≤ cap) : Calls Try.prog 50 #[.slice (some ⟨ab, ao, none⟩) n cap] w fun e w' => e = .returned (.agg ((bs.take 64).map B8).toArray) ∧ Below w.heap.size w w' := by
  obtain ⟨Z, hZ⟩ : ∃ Z : List Value, Z = (List.replicate 64 0).map B8 := ⟨_, rfl⟩
  obtain ⟨zs, hzs⟩ : ∃ zs : List Nat, zs = List.replicate 64 0 := ⟨_, rfl⟩
  have hz := zero_bytes
  rw [← hZ] at hz
  obtain ⟨c, hc⟩ : ∃ c, c = bs.take 64 := ⟨_, rfl⟩
  have hcl : c.length = 64 := by rw [hc, List.length_take]; omega
  have hA : Below w.heap.size w ((w.alloc (.cells Z.toArray 73)).alloc (.cells Z.toArray 73)) := ((Below.refl _ w).alloc (Nat.le_refl _) _).alloc (by simp) _
  have g0 : ((w.alloc (.cells Z.toArray 73)).alloc (.cells Z.toArray 73)).heap[w.heap.size]? = some (.cells Z.toArray 73 (0, 0)) := (((Below.refl _ (w.alloc (.cells Z.toArray 73))).alloc (Nat.le_refl _) _).block _ (by simp)).trans (heapNew w _)
  have g1 : ((w.alloc (.cells Z.toArray 73)).alloc (.cells Z.toArray 73)).heap[w.heap.size + 1]? = some (.cells ((splice zs 0 (c.take (8 * 0))).map B8).toArray 73 (0, 0)) := by
    have h5 := heapNew (w.alloc (.cells Z.toArray 73)) (.cells Z.toArray 73)
    have h6 : (w.alloc (.cells Z.toArray 73)).heap.size = w.heap.size + 1 := by simp
    rw [h6] at h5
    rw [Nat.mul_zero, List.take_zero, splice_nil, hzs, ← hZ]
    exact h5
  rw [← hc]
  have hzl : Z.length = 64 := by rw [hZ]; simp
  have hzsl : zs.length = 64 := by rw [hzs]; simp
  have HA := hide hA
  have G0 := hide g0
  have G1 := hide g1
  have HZ := hide hz
  have HZL := hide hzl
  have HZS := hide hzsl
  have HC := hide hc
  have HCL := hide hcl
  have HS := hide hs
  have HAB := hide hab
  have HN := hide hn
  have H64 := hide h64
  have HNC := hide hnc
  clear hA g0 g1 hz hzl hzsl hc hcl hs hab hn h64 hnc hZ hzs
  go_enter Try.func50, Try.ntmps50
  go_wp2_with (refine wpList_alloc_row rfl 73 rfl Z (HZ.out _) ?_)
  try go_frame
  try simp only [World.size_alloc]
  go_loopw [5] (fun iv wr => ∃ j : Nat, iv = .int .i64 (j : Int) ∧ j ≤ 8 ∧ wr.heap[w.heap.size + 1]? = some (.cells ((splice zs 0 (c.take (8 * j))).map B8).toArray 73 (0, 0)) ∧ wr.heap[w.heap.size]? = some (.cells Z.toArray 73 (0, 0)) ∧ Below w.heap.size w wr) (fun iv _ => (8 - (intOf iv).toNat))
  case atStart => exact ⟨0, rfl, by omega, G1.out, G0.out, HA.out⟩
  case round =>
    obtain ⟨j, rfl, hj, hg1, hg0, hB⟩ := hrel
    by_cases hlt : j < 8
    · have jI : (j : Int) < 8 := by omega
      obtain ⟨wd, hwd⟩ : ∃ wd, wd = (c.drop (j * 8)).take 8 := ⟨_, rfl⟩
      have hwl : wd.length = 8 := by rw [hwd, List.length_take, List.length_drop, HCL.out]; omega
      have hnl := HN.out
      have h64 := H64.out
      have hsrc : ∀ q v, (wd.map B8)[q]? = some v → wr.drew.cell? ((⟨ab, ao + j * 8, none⟩ : Addr).add q) = some v := fun q v hv => by
        rw [List.getElem?_map] at hv
        obtain ⟨x, hx, rfl⟩ := Option.map_eq_some_iff.1 hv
        have hq : q < wd.length := (List.getElem?_eq_some_iff.1 hx).1
        rw [hwd, List.getElem?_take, if_pos (by omega), List.getElem?_drop, HC.out, List.getElem?_take, if_pos (by omega)] at hx
        rw [Addr.add_mid, Nat.add_assoc]
        exact (World.cell?_of_block (a := ⟨ab, ao + (j * 8 + q), none⟩) (hB.block ab HAB.out)).trans (HS.out _ _ hx).1
      have hcur : (splice zs 0 (c.take (8 * j))).length = 64 := by rw [splice_len _ _ _ (by rw [List.length_take, HCL.out, HZS.out]; omega)]; exact HZS.out
      have hft : j * 8 + (wd.map B8).length ≤ ((splice zs 0 (c.take (8 * j))).map B8).length := by rw [List.length_map, List.length_map, hcur, hwl]; omega
      have hcp : (wd.map B8).length = Nat.min (n - j * 8) 8 := by rw [List.length_map, hwl]; show 8 = min _ 8; omega
      have yo : (wr.drew.setRow (w.heap.size + 1) (splice ((splice zs 0 (c.take (8 * j))).map B8) (j * 8) (wd.map B8)).toArray).heap[w.heap.size + 1]? = some (.cells ((splice zs 0 (c.take (8 * (j + 1)))).map B8).toArray 73 (0, 0)) := by
        rw [heap_setRow wr.drew _ _ _ _ _ hg1, ← splice_map, hwd, splice_more zs c j HCL.out (by rw [HZS.out]; omega) hlt]
      have yg : Gr (fun k => k = w.heap.size + 1) wr (wr.drew.setRow (w.heap.size + 1) (splice ((splice zs 0 (c.take (8 * j))).map B8) (j * 8) (wd.map B8)).toArray) := Gr.setRow wr.drew _ _ rfl
      have HSRC := hide hsrc
      have HFT := hide hft
      have HCP := hide hcp
      have YO := hide yo
      have YG := hide yg
      have HG1 := hide hg1
      have HG0 := hide hg0
      have HB := hide hB
      have HJ := hide hlt
      have SB : Hid (j * 8 < n) := by show _ < _; omega
      have EJ : Hid (((j * 8 : Nat) : Int) = (j : Int) * 8) := by show _ = _; omega
      have WM : Hid (IntKind.i64.wrap ((j : Int) * 8) = (j : Int) * 8) := by show IntKind.i64.wrap _ = _; rw [IntKind.wrap_i64]; omega
      clear hsrc hft hcp yo yg hg1 hg0 hB hcur hwd hwl hnl h64
      go_wp2_with (fail)
      try go_frame
      refine wp_region_held_drew (S := fun _ => True) (by kernel_rfl) trivial (fun hS => ?_)
      refine wpAnyH_take (i := 0) (v := (.int .i64 (j : Int))) rfl (by kernel_rfl) (by kernel_rfl) (by kernel_rfl) (fun _ _ _ h => h) (Or.inl ⟨by kernel_rfl, fun w' hw => by (go_simp)⟩) hS ?_
      refine wpAnyH_take (i := 1) (v := (.pointer (some ⟨w.heap.size + 1, j * 8, none⟩))) rfl (by kernel_rfl) (by kernel_rfl) (by kernel_rfl) (fun _ _ _ h => h) (Or.inl ⟨by kernel_rfl, fun w' hw => by (have e := index_word (w.heap.size + 1) 0 j HJ.out w'; rw [Nat.zero_add] at e; go_simp)⟩) hS ?_
      refine wpAnyH_take (i := 2) (v := (.slice (some ⟨w.heap.size + 1, j * 8, none⟩) 8 8)) rfl (by kernel_rfl) (by kernel_rfl) (by kernel_rfl) (fun _ _ _ h => h) (Or.inl ⟨by kernel_rfl, fun w' hw => by (have e := slice_all (w.heap.size + 1) (j * 8) w'; go_simp)⟩) hS ?_
      refine wpAnyH_take (i := 3) (v := (.slice (some ⟨ab, ao, none⟩) n cap)) rfl (by kernel_rfl) (by kernel_rfl) (by kernel_rfl) (fun _ _ _ h => h) (Or.inl ⟨by kernel_rfl, fun w' hw => by (go_simp)⟩) hS ?_
      refine wpAnyH_take (i := 4) (v := (.int .i64 (j : Int))) rfl (by kernel_rfl) (by kernel_rfl) (by kernel_rfl) (fun _ _ _ h => h) (Or.inl ⟨by kernel_rfl, fun w' hw => by (go_simp)⟩) hS ?_
      refine wpAnyH_take (i := 5) (v := (.int .i64 ((j : Int) * 8))) rfl (by kernel_rfl) (by kernel_rfl) (by kernel_rfl) (fun _ _ _ h => h) (Or.inl ⟨by kernel_rfl, fun w' hw => by (have wm := WM.out; go_simp)⟩) hS ?_
      refine wpAnyH_take (i := 6) (v := (.slice (some ⟨ab, ao + j * 8, none⟩) (n - j * 8) (cap - j * 8))) rfl (by kernel_rfl) (by kernel_rfl) (by kernel_rfl) (fun _ _ _ h => h) (Or.inl ⟨by kernel_rfl, fun w' hw => by (have e := slice_bytes ab ao (j * 8) n cap SB.out HNC.out w'; rw [EJ.out] at e; go_simp)⟩) hS ?_
      refine wpAnyH_op (i := 7) (by kernel_rfl) rfl (by kernel_rfl) (by kernel_rfl) (wp_copy (.tmp 10) (.tmp 14) 33 33 (by kernel_rfl) 5 Try.underlying33 (by kernel_rfl) (w.heap.size + 1) (j * 8) 8 8 ⟨ab, ao + j * 8, none⟩ (n - j * 8) (cap - j * 8) (by kernel_rfl) (by kernel_rfl) ((splice zs 0 (c.take (8 * j))).map B8) 73 HG1.out (wd.map B8) HCP.out HSRC.out HFT.out (B8_cell wd) ⟨trivial, ?_⟩)
      simp only [Act.put, List.getElem_toArray, List.getElem_cons_zero, List.getElem_cons_succ, List.setIfInBounds_toArray, List.set_cons_zero, List.set_cons_succ]
      go_wp2_with (fail)
      go_roundw
      case rel =>
        have h5 := YG.out
        have h7 := HB.out
        exact ⟨j + 1, int_congrP (by omega), by omega, YO.out, (h5.block (lt_of_heap HG0.out) (by omega)).trans HG0.out, h5.1.trans h7.os, h5.2.1.trans h7.tape, h5.2.2.1.trans h7.output, Nat.le_trans h7.size h5.size, fun k hk => (h5.block (Nat.lt_of_lt_of_le hk h7.size) (by omega)).trans (h7.block k hk)⟩
      case measure => simp [intOf]; omega
    · obtain rfl : j = 8 := by omega
      have hsp : splice zs 0 (c.take (8 * 8)) = c := by
        rw [List.take_of_length_le (by rw [HCL.out]; omega)]
        unfold splice
        rw [HCL.out, List.take_zero, List.nil_append, List.drop_of_length_le (by rw [HZS.out]; omega), List.append_nil]
      rw [hsp] at hg1
      have hrn := range_all hg1
      have si : (Try.prog.info? 73).map (·.size) = some (c.map B8).toArray.size := by rw [List.size_toArray, List.length_map, HCL.out]; kernel_rfl
      have th : wr.there w.heap.size 0 (c.map B8).toArray.size := there_row hg0 0 _ (by rw [List.size_toArray, List.length_map, HCL.out, HZL.out]; omega)
      have HRN := hide hrn
      have SI := hide si
      have TH := hide th
      have S1 := hide (all_oneCell_toArray (B8_cell c))
      have HG0 := hide hg0
      have HB := hide hB
      clear hrn si th hg0 hg1 hB hsp
      go_wp2_with (first | (refine wpList_load_mid rfl 73 (.tmp 3) rfl (w.heap.size + 1) 0 (by kernel_rfl) (c.map B8) (.array 8 71) HRN.out (by kernel_rfl) rfl (by rw [List.length_map, HCL.out]; kernel_rfl) ?_) | (refine wpList_store_mid rfl 73 (.tmp 2) (.tmp 17) rfl w.heap.size 0 (c.map B8).toArray (by kernel_rfl) (by kernel_rfl) TH.out SI.out S1.out ?_))
      try go_frame
      have hh : (wr.setCells w.heap.size 0 (c.map B8)).heap[w.heap.size]? = some (.cells (c.map B8).toArray 73 (0, 0)) := by
        rw [heap_setCells w.heap.size _ (c.map B8) 0 wr Z HG0.out (by rw [List.length_map, HCL.out, HZL.out]; omega)]
        simp [splice, HCL.out, HZL.out]
      refine bodyPost_ret (results_cell_row rfl _ _ w.heap.size 73 (c.map B8).toArray (0, 0) (.array 8 71) rfl hh (by kernel_rfl) rfl SI.out) rfl ?_
      have h5 : Gr (fun k => k = w.heap.size) wr (wr.setCells w.heap.size 0 (c.map B8)) := Gr.setCells wr w.heap.size _ _ rfl
      have h7 := HB.out
      exact ⟨rfl, h5.1.trans h7.os, h5.2.1.trans h7.tape, h5.2.2.1.trans h7.output, Nat.le_trans h7.size h5.size, fun k hk => (h5.block (Nat.lt_of_lt_of_le hk h7.size) (by omega)).trans (h7.block k hk)⟩
end Go.Proofs.Ytgfgihpkbbjkfaa
