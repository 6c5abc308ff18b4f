/- Package pmem: a content's bytes. -/
import Derived.Test.YtgfgihpkbbjkfaaPSt
namespace Go.Proofs.Ytgfgihpkbbjkfaa
open Go.RowKit Go.Shelf
set_option linter.unusedVariables false

theorem slice_whole (g : Nat) (w : World) : (Instr.sliceAt 71 (.pointer (some ⟨g, 0, none⟩)) none none none).run Try.prog w = .ok (.slice (some ⟨g, 0, none⟩) 8 8) w := by
  obtain ⟨it, h1, h2⟩ := info_of (t := 5) (n := 1) (by kernel_rfl)
  have hu : Try.prog.underlying 71 = some (.array 8 5) := by kernel_rfl
  simp [Instr.sliceAt, Sem.run_bind, run_underlying hu, Instr.sureAddr, Instr.sliceBounds, sizeOf, typeInfo, h1, Addr.add_mid]
theorem index_val (c : List Nat) (j : Nat) (hj : j < 8) (w : World) : (Instr.index 73 (.agg (c.map B8).toArray) (.int .i64 (j : Int))).run Try.prog w = .ok (.agg (((c.drop (j * 8)).take 8).map B8).toArray) w := by
  obtain ⟨it, h1, h2⟩ := info_of (t := 71) (n := 8) (by kernel_rfl)
  have hu : Try.prog.underlying 73 = some (.array 8 71) := by kernel_rfl
  have h3 : (0 : Int) ≤ (j : Int) ∧ (j : Int) < (8 : Nat) := by omega
  simp only [Instr.index, Sem.run_bind, run_underlying hu, Result.andThen_ok, Sem.run_pure, asIntOf, h3, and_self, if_true, sizeOf, typeInfo, h1, h2, Int.toNat_natCast, part, isAggW, run_program]
  rw [extract_map, Nat.add_sub_cancel_left]
theorem zero_word : ∃ Z : List Value, Z.length = 8 ∧ ∀ w : World, (zeroValue 71).run Try.prog w = .ok (.agg Z.toArray) w := by
  have h : (Try.prog.info? 71).map (fun i => (i.zero.map (fun z => match z with | .agg Z => Z.size | _ => 0))) = some (some 8) := by kernel_rfl
  cases hi : Try.prog.info? 71 with
  | none => rw [hi] at h; cases h
  | some it =>
    rw [hi] at h
    simp only [Option.map_some, Option.some.injEq] at h
    cases hz : it.zero with
    | none => rw [hz] at h; cases h
    | some z =>
      rw [hz] at h
      cases z <;> simp at h
      rename_i Z
      exact ⟨Z.toList, by simp [h], fun w => by simp [zeroValue, typeInfo, hi, hz]⟩
theorem splice_more (cur c : List Nat) (j : Nat) (hc : c.length = 64) (hn : 64 ≤ cur.length) (hj : j < 8) : splice (splice cur 0 (c.take (8 * j))) (j * 8) ((c.drop (j * 8)).take 8) = splice cur 0 (c.take (8 * (j + 1))) := by
  have l1 : (c.take (8 * j)).length = 8 * j := by rw [List.length_take]; omega
  have l2 : (c.take (8 * (j + 1))).length = 8 * (j + 1) := by rw [List.length_take]; omega
  have l3 : ((c.drop (j * 8)).take 8).length = 8 := by rw [List.length_take, List.length_drop]; omega
  have l4 := splice_len cur (c.take (8 * j)) 0 (by omega)
  refine List.ext_getElem? fun k => ?_
  rw [splice_get _ _ _ _ (by omega), splice_get _ _ _ _ (by omega), splice_get _ _ _ _ (by omega), l1, l2, l3]
  by_cases h1 : k < j * 8
  · rw [if_pos h1, if_neg (by omega), if_pos (by omega), if_neg (by omega), if_pos (by omega), List.getElem?_take, List.getElem?_take, if_pos (by omega), if_pos (by omega)]
  · rw [if_neg h1]
    by_cases h2 : k < j * 8 + 8
    · rw [if_pos h2, if_neg (by omega), if_pos (by omega), List.getElem?_take, List.getElem?_take, if_pos (by omega), if_pos (by omega), List.getElem?_drop]
      congr 1
      omega
    · rw [if_neg h2, if_neg (by omega), if_neg (by omega), if_neg (by omega), if_neg (by omega)]
set_option maxRecDepth 100000 in
set_option maxHeartbeats 1000000 in
theorem play_any (w : World) (g n cap : Nat) (c cur : List Nat) (hc : c.length = 64) (hn : 64 ≤ n) (hnc : n ≤ cap) (hcl : cur.length = n) (hg : OwnB w g cur) :
    Calls Try.prog 28 #[.agg (c.map B8).toArray, .slice (some ⟨g, 0, none⟩) n cap] w fun e w' => e = .returned (.tuple #[]) ∧ OwnB w' g (splice cur 0 c) ∧ Gr (fun k => k = g) w w' := by
  obtain ⟨Z, hzl, hz⟩ := zero_word
  have hgl := hg.lt
  have hA : Below w.heap.size w (w.alloc (.cells (c.map B8).toArray 73)) := (Below.refl _ w).alloc (Nat.le_refl _) _
  have hrn := range_all (heapNew w (.cells (c.map B8).toArray 73))
  have HRN := hide hrn
  have HC := hide hc
  have HG := hide hg
  have HA := hide hA
  have HGL := hide hgl
  have HZ := hide hz
  have HZL := hide hzl
  have HCL := hide hcl
  have HNC := hide hnc
  have HN := hide hn
  clear hrn hg hA hgl hz hzl hcl
  go_enter Try.func28, Try.ntmps28
  go_wp2_with (refine wpList_load_mid rfl 73 (.tmp 2) rfl w.heap.size 0 (by kernel_rfl) (c.map B8) (.array 8 71) HRN.out (by kernel_rfl) rfl (by rw [List.length_map, HC.out]; kernel_rfl) ?_)
  try go_frame
  go_loopw [7] (fun iv wr => ∃ j : Nat, iv = .int .i64 (j : Int) ∧ j ≤ 8 ∧ OwnB wr g (splice cur 0 (c.take (8 * j))) ∧ Gr (fun k => k = g) w wr) (fun iv _ => (8 - (intOf iv).toNat))
  case atStart => exact ⟨0, rfl, by omega, by simp [splice]; exact HG.out.below HA.out HGL.out, Gr.of_below HA.out⟩
  case round =>
    obtain ⟨j, rfl, hj, hown, hgr⟩ := hrel
    by_cases hlt : j < 8
    · have jI : (j : Int) < 8 := by omega
      obtain ⟨wd, hwd⟩ : ∃ wd, wd = (c.drop (j * 8)).take 8 := ⟨_, rfl⟩
      have hwl : wd.length = 8 := by rw [hwd, List.length_take, List.length_drop]; omega
      have hix := fun X => index_val c j hlt X
      rw [← hwd] at hix
      have si : (Try.prog.info? 71).map (·.size) = some (wd.map B8).toArray.size := by rw [List.size_toArray, List.length_map, hwl]; kernel_rfl
      have th : (wr.alloc (.cells Z.toArray 71)).there wr.heap.size 0 (wd.map B8).toArray.size := there_row (heapNew wr _) 0 _ (by rw [List.size_toArray, List.length_map, hwl, HZL.out]; omega)
      obtain ⟨n1, n2, n3⟩ := new_row (W := wr) (cur := Z) (vs := wd.map B8) (t := 71) (by rw [List.length_map, hwl, HZL.out])
      have hgn : g < wr.heap.size := hown.lt
      have hown2 : OwnB ((wr.alloc (.cells Z.toArray 71)).setCells wr.heap.size 0 (wd.map B8)) g (splice cur 0 (c.take (8 * j))) := hown.below n2 hgn
      have S1 := hide (all_oneCell_toArray (B8_cell wd))
      have SI := hide si
      have TH := hide th
      have N1 := hide n1
      have N2 := hide n2
      have HO2 := hide hown2
      have HGR := hide hgr
      have HWD := hide hwd
      have HWL := hide hwl
      have HGN := hide hgn
      have HJ := hide hlt
      have EJ : Hid (((j * 8 : Nat) : Int) = (j : Int) * 8) := by show _ = _; omega
      have WM : Hid (IntKind.i64.wrap ((j : Int) * 8) = (j : Int) * 8) := by show IntKind.i64.wrap _ = _; rw [IntKind.wrap_i64]; omega
      clear si th n1 n2 n3 hown hown2 hgr hwd hwl hgn hc hn hnc
      go_wp2_with (first | (refine wpList_alloc_row rfl 71 rfl Z (HZ.out _) ?_) | (refine wpList_store_mid rfl 71 (.tmp 5) (.tmp 10) rfl wr.heap.size 0 (wd.map B8).toArray (by kernel_rfl) (by kernel_rfl) TH.out SI.out S1.out ?_))
      try go_frame
      generalize hX : (wr.alloc (.cells Z.toArray 71)).setCells wr.heap.size 0 (wd.map B8) = X at *
      have hn := HN.out
      have hnc := HNC.out
      refine wp_region_held_drew (S := fun _ => True) (by kernel_rfl) trivial (fun hS => ?_)
      refine wpAnyH_take (i := 0) (v := (.slice (some ⟨g, 0, none⟩) n cap)) rfl (by kernel_rfl) (by kernel_rfl) (by kernel_rfl) (fun _ _ _ h => h) (Or.inl ⟨by kernel_rfl, fun w' hw => by (go_simp)⟩) hS ?_
      refine wpAnyH_take (i := 1) (v := (.int .i64 (j : Int))) rfl (by kernel_rfl) (by kernel_rfl) (by kernel_rfl) (fun _ _ _ h => h) (Or.inl ⟨by kernel_rfl, fun w' hw => by (go_simp)⟩) hS ?_
      refine wpAnyH_take (i := 2) (v := (.int .i64 ((j : Int) * 8))) rfl (by kernel_rfl) (by kernel_rfl) (by kernel_rfl) (fun _ _ _ h => h) (Or.inl ⟨by kernel_rfl, fun w' hw => by (have wm := WM.out; go_simp)⟩) hS ?_
      refine wpAnyH_take (i := 3) (v := (.slice (some ⟨g, j * 8, none⟩) (n - j * 8) (cap - j * 8))) rfl (by kernel_rfl) (by kernel_rfl) (by kernel_rfl) (fun _ _ _ h => h) (Or.inl ⟨by kernel_rfl, fun w' hw => by (have e := slice_bytes g 0 (j * 8) n cap (by omega) (by omega) w'; rw [Nat.zero_add, EJ.out] at e; go_simp)⟩) hS ?_
      refine wpAnyH_take (i := 4) (v := (.slice (some ⟨wr.heap.size, 0, none⟩) 8 8)) rfl (by kernel_rfl) (by kernel_rfl) (by kernel_rfl) (fun _ _ _ h => h) (Or.inl ⟨by kernel_rfl, fun w' hw => by (have e := slice_whole wr.heap.size w'; go_simp)⟩) hS ?_
      have hcur : (splice cur 0 (c.take (8 * j))).length = n := by rw [splice_len _ _ _ (by rw [List.length_take, HC.out, HCL.out]; omega)]; exact HCL.out
      have hsrc : ∀ q v, (wd.map B8)[q]? = some v → X.drew.cell? ((⟨wr.heap.size, 0, none⟩ : Addr).add q) = some v := fun q v hv => by
        rw [Addr.add_mid, Nat.zero_add]
        refine (cell8 (w := X.drew) N1.out q).trans ?_
        simpa using hv
      have yg : Gr (fun k => k = g) w (X.drew.setRow g (splice ((splice cur 0 (c.take (8 * j))).map B8) (j * 8) (wd.map B8)).toArray) := (HGR.out.trans (Gr.of_below N2.out : Gr (fun k => k = g) wr X) (fun i h => .inl h)).trans (Gr.setRow X.drew g _ rfl : Gr (fun k => k = g) X (X.drew.setRow g (splice ((splice cur 0 (c.take (8 * j))).map B8) (j * 8) (wd.map B8)).toArray)) (fun i h => .inl h)
      have yo : OwnB (X.drew.setRow g (splice ((splice cur 0 (c.take (8 * j))).map B8) (j * 8) (wd.map B8)).toArray) g (splice cur 0 (c.take (8 * (j + 1)))) := by
        have h5 := heap_setRow X.drew g _ (splice ((splice cur 0 (c.take (8 * j))).map B8) (j * 8) (wd.map B8)).toArray _ _ HO2.out
        rw [← splice_map, HWD.out, splice_more cur c j HC.out (by rw [HCL.out]; exact hn) HJ.out] at h5
        rw [← splice_map, HWD.out, splice_more cur c j HC.out (by rw [HCL.out]; exact hn) HJ.out]
        exact h5
      have HSRC := hide hsrc
      have YG := hide yg
      have YO := hide yo
      have hcp : (wd.map B8).length = Nat.min 8 (n - j * 8) := by rw [List.length_map, HWL.out]; show 8 = min 8 _; omega
      have hft : j * 8 + (wd.map B8).length ≤ ((splice cur 0 (c.take (8 * j))).map B8).length := by rw [List.length_map, List.length_map, hcur, HWL.out]; omega
      clear hsrc yg yo
      refine wpAnyH_op (i := 5) (by kernel_rfl) rfl (by kernel_rfl) (by kernel_rfl) (wp_copy (.tmp 14) (.tmp 15) 33 33 (by kernel_rfl) 5 Try.underlying33 (by kernel_rfl) g (j * 8) (n - j * 8) (cap - j * 8) ⟨wr.heap.size, 0, none⟩ 8 8 (by kernel_rfl) (by kernel_rfl) ((splice cur 0 (c.take (8 * j))).map B8) 5 HO2.out (wd.map B8) hcp HSRC.out hft (B8_cell wd) ⟨trivial, ?_⟩)
      simp only [Act.put, List.getElem_toArray, List.getElem_cons_zero, List.getElem_cons_succ, List.setIfInBounds_toArray, List.set_cons_zero, List.set_cons_succ]
      go_wp2_with (fail)
      go_roundw
      case rel => exact ⟨j + 1, int_congrP (by omega), by omega, YO.out, YG.out⟩
      case measure => simp [intOf]; omega
    · obtain rfl : j = 8 := by omega
      have HO := hide hown
      have HGR := hide hgr
      clear hown hgr
      go_wp2
      go_end0
      have h5 := HO.out
      rw [List.take_of_length_le (by rw [HC.out]; omega)] at h5
      exact ⟨rfl, h5, HGR.out⟩
end Go.Proofs.Ytgfgihpkbbjkfaa
