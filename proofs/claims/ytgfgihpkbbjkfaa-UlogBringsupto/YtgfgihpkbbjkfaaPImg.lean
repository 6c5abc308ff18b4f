/- Package pmem: Image. -/
import Derived.Test.YtgfgihpkbbjkfaaPLat
namespace Go.Proofs.Ytgfgihpkbbjkfaa
open Go.RowKit Go.Shelf
set_option linter.unusedVariables false

/-- An image of which j lines are laid. -/
def imgTo (σ : St) (j : Nat) : List Nat := σ.bytes.take (64 * j) ++ List.replicate (64 * (σ.n - j)) 0
theorem imgTo_len {σ : St} (hok : σ.Ok) {j : Nat} (hj : j ≤ σ.n) : (imgTo σ j).length = 64 * σ.n := by
  unfold imgTo
  rw [List.length_append, List.length_take, List.length_replicate, hok.len]
  omega
theorem imgTo_next {σ : St} (hok : σ.Ok) {j : Nat} (hj : j < σ.n) : splice (imgTo σ j) (j * 64) (σ.line j) = imgTo σ (j + 1) := by
  have hl := line_len hok hj
  have h1 := imgTo_len hok (Nat.le_of_lt hj)
  have hb := hok.len
  refine List.ext_getElem? fun k => ?_
  rw [splice_get _ _ _ _ (by omega), hl]
  unfold imgTo
  by_cases e1 : k < j * 64
  · rw [if_pos e1, List.getElem?_append_left (by rw [List.length_take]; omega), List.getElem?_append_left (by rw [List.length_take]; omega), List.getElem?_take, List.getElem?_take, if_pos (by omega), if_pos (by omega)]
  · rw [if_neg e1]
    by_cases e2 : k < j * 64 + 64
    · rw [if_pos e2, List.getElem?_append_left (by rw [List.length_take]; omega), List.getElem?_take, if_pos (by omega)]
      unfold St.line
      rw [List.getElem?_take, if_pos (by omega), List.getElem?_drop]
      congr 1
      omega
    · rw [if_neg e2, List.getElem?_append_right (by rw [List.length_take]; omega), List.getElem?_append_right (by rw [List.length_take]; omega), List.getElem?_replicate, List.getElem?_replicate, List.length_take, List.length_take]
      by_cases e3 : k < 64 * σ.n
      · rw [if_pos (by omega), if_pos (by omega)]
      · rw [if_neg (by omega), if_neg (by omega)]
section
variable {w : World} {b : Nat} {L : Lay} {σ : St}
set_option maxRecDepth 100000 in
set_option maxHeartbeats 1000000 in
theorem pimg_any (h : DevL w b L σ) (hok : σ.Ok) : Calls Try.prog 7 #[.pointer (some ⟨b, 0, none⟩)] w fun e w' => e = .returned (.slice (some ⟨w.heap.size, 0, none⟩) (64 * σ.n) (64 * σ.n)) ∧ OwnB w' w.heap.size σ.bytes ∧ Below w.heap.size w w' := by
  obtain ⟨Z, hzl, hz⟩ := zero_content
  obtain ⟨N, hN⟩ : ∃ N, N = 64 * σ.n := ⟨_, rfl⟩
  have hmx := hok.max
  have kn := pnone_any h
  have ks := psize_any h hok.max
  rw [← hN] at ks ⊢
  obtain ⟨RZ, hRZ⟩ : ∃ RZ, RZ = ((List.replicate N 0).map B8).toArray := ⟨_, rfl⟩
  have hmk := makeB_run N (by omega) w
  rw [← hRZ] at hmk
  have hA : Below w.heap.size w (w.alloc (.cells RZ 5)) := (Below.refl _ w).alloc (Nat.le_refl _) _
  have hown : OwnB (w.alloc (.cells RZ 5)) w.heap.size (imgTo σ 0) := by
    have h5 := heapNew w (.cells RZ 5)
    rw [hRZ] at h5 ⊢
    unfold imgTo
    rw [Nat.mul_zero, List.take_zero, List.nil_append, Nat.sub_zero, ← hN]
    exact h5
  have hd0 := h.below hA
  have c1 := hd0.c1
  have KN := hide kn
  have KS := hide ks
  have HD := hide h
  have HOK := hide hok
  have HOWN := hide hown
  have HA := hide hA
  have HZ := hide hz
  have HZL := hide hzl
  have HN := hide hN
  have nI : (σ.n : Int) ≤ 65536 := by omega
  have NI : (N : Int) ≤ 4194304 := by omega
  clear h hok kn ks hown hA hd0 hz hzl hRZ hN hmx
  go_enter Try.func7, Try.ntmps7
  go_wp2_with (first | (go_at_call 26; refine (KN.out).mono ?_; rintro e w' ⟨rfl, hw⟩; obtain rfl := hw.symm) | (go_at_call 27; refine (KS.out).mono ?_; rintro e w' ⟨rfl, hw⟩; obtain rfl := hw.symm))
  go_loopw [16] (fun iv wr => ∃ j : Nat, iv = .int .i64 (j : Int) ∧ j ≤ σ.n ∧ OwnB wr w.heap.size (imgTo σ j) ∧ Below w.heap.size w wr) (fun iv _ => (σ.n - (intOf iv).toNat))
  case atStart => exact ⟨0, rfl, Nat.zero_le _, HOWN.out, HA.out⟩
  case round =>
    obtain ⟨j, rfl, hj, hown, hB⟩ := hrel
    by_cases hlt : j < σ.n
    · have jI : (j : Int) < (σ.n : Int) := by omega
      have hdw := HD.out.below hB
      have hll := line_len HOK.out hlt
      have hlr := line_range hdw HOK.out hlt
      have l0 := fun X => index_line L.sb j σ.n L.cp hlt X
      have si : (Try.prog.info? 73).map (·.size) = some ((σ.line j).map B8).toArray.size := by rw [List.size_toArray, List.length_map, hll]; kernel_rfl
      have th : (wr.alloc (.cells Z.toArray 73)).there wr.heap.size 0 ((σ.line j).map B8).toArray.size := there_row (heapNew wr _) 0 _ (by rw [List.size_toArray, List.length_map, hll, HZL.out]; omega)
      obtain ⟨n1, n2, n3⟩ := new_row (W := wr) (cur := Z) (vs := (σ.line j).map B8) (t := 73) (by rw [List.length_map, hll, HZL.out])
      have hown2 := hown.below n2 hown.lt
      have hnx := imgTo_next HOK.out hlt
      have hil := imgTo_len HOK.out (Nat.le_of_lt hlt)
      have hne : wr.heap.size ≠ w.heap.size := by have := hown.lt; omega
      have S1 := hide (all_oneCell_toArray (B8_cell (σ.line j)))
      have SI := hide si
      have TH := hide th
      have N1 := hide n1
      have N2 := hide n2
      have HO2 := hide hown2
      have HBB := hide hB
      have HLL := hide hll
      have HLR := hide hlr
      have HJ := hide hlt
      have HNX := hide hnx
      have HIL := hide hil
      have HNE := hide hne
      have HND := hide HN.out
      have SB : Hid (j * 64 < N) := by show _ < _; have := HN.out; omega
      have EJ : Hid (((j * 64 : Nat) : Int) = (j : Int) * 64) := by show _ = _; omega
      have WM : Hid (IntKind.i64.wrap ((j : Int) * 64) = (j : Int) * 64) := by show IntKind.i64.wrap _ = _; rw [IntKind.wrap_i64]; omega
      clear si th n1 n2 n3 hown hown2 hB hll hlr hdw hnx hil hne
      go_wp2_with (first | (refine wpList_load_mid rfl 73 (.tmp 19) rfl L.sb (j * 64) (by kernel_rfl) ((σ.line j).map B8) (.array 8 71) HLR.out (by kernel_rfl) rfl (by rw [List.length_map, HLL.out]; kernel_rfl) ?_) | (refine wpList_alloc_row rfl 73 rfl Z (HZ.out _) ?_) | (refine wpList_store_mid rfl 73 (.tmp 5) (.tmp 20) rfl wr.heap.size 0 ((σ.line j).map B8).toArray (by kernel_rfl) (by kernel_rfl) TH.out SI.out S1.out ?_))
      try go_frame
      generalize hX : (wr.alloc (.cells Z.toArray 73)).setCells wr.heap.size 0 ((σ.line j).map B8) = X at *
      clear hX
      have hlen : (imgTo σ j).length = j * 64 + (N - j * 64) := by have h5 := HIL.out; have h6 := HND.out; have h7 := SB.out; omega
      have kl := play_at X.drew w.heap.size (j * 64) (N - j * 64) (N - j * 64) (σ.line j) (imgTo σ j) HLL.out (by have h6 := HND.out; have h7 := HJ.out; omega) (Nat.le_refl _) hlen (HO2.out.below (Below.refl _ X).drew HO2.out.lt)
      rw [HNX.out] at kl
      have KL := hide kl
      have s0 : X.drew.rangeAt wr.heap.size 0 ((σ.line j).map B8) := range_all (w := X.drew) N1.out
      clear kl hlen
      refine wp_region_held_drew (S := fun Y => Y.rangeAt wr.heap.size 0 ((σ.line j).map B8)) (by kernel_rfl) s0 (fun hS => ?_)
      refine wpAnyH_take (i := 0) (v := (.agg ((σ.line j).map B8).toArray)) rfl (by kernel_rfl) (by kernel_rfl) (by kernel_rfl) (fun _ _ _ h => h) (yieldsIf_load_mid (by kernel_rfl) 73 (.tmp 5) (by kernel_rfl) wr.heap.size (0) (by kernel_rfl) ((σ.line j).map B8) (.array 8 71) (fun w hw => hw) (by kernel_rfl) rfl (by rw [List.length_map, HLL.out]; kernel_rfl)) hS ?_
      refine wpAnyH_take (i := 1) (v := (.slice (some ⟨w.heap.size, 0, none⟩) N N)) rfl (by kernel_rfl) (by kernel_rfl) (by kernel_rfl) (fun _ _ _ h => h) (Or.inl ⟨by kernel_rfl, fun w' hw => by (go_simp)⟩) hS ?_
      refine wpAnyH_take (i := 2) (v := (.int .i64 (j : Int))) rfl (by kernel_rfl) (by kernel_rfl) (by kernel_rfl) (fun _ _ _ h => h) (Or.inl ⟨by kernel_rfl, fun w' hw => by (go_simp)⟩) hS ?_
      refine wpAnyH_take (i := 3) (v := (.int .i64 ((j : Int) * 64))) rfl (by kernel_rfl) (by kernel_rfl) (by kernel_rfl) (fun _ _ _ h => h) (Or.inl ⟨by kernel_rfl, fun w' hw => by (have wm := WM.out; go_simp)⟩) hS ?_
      refine wpAnyH_take (i := 4) (v := (.slice (some ⟨w.heap.size, j * 64, none⟩) (N - j * 64) (N - j * 64))) rfl (by kernel_rfl) (by kernel_rfl) (by kernel_rfl) (fun _ _ _ h => h) (Or.inl ⟨by kernel_rfl, fun w' hw => by (have e := slice_bytes w.heap.size 0 (j * 64) N N SB.out (Nat.le_refl _) w'; rw [Nat.zero_add, EJ.out] at e; go_simp)⟩) hS ?_
      refine wpAnyH_op (i := 5) (by kernel_rfl) rfl (by kernel_rfl) (by kernel_rfl) ?_
      go_wp2_with (go_at_call 28; refine (KL.out).mono ?_; rintro e Y ⟨rfl, hy, hg⟩; have HY := hide hy; have HG := hide hg; clear hy hg)
      refine ⟨range_all ((HG.out.block (lt_of_heap N1.out) HNE.out).trans N1.out), ?_⟩
      go_wp2_with (fail)
      go_roundw
      case rel =>
        have h5 := HG.out
        have h6 := N2.out
        have h7 := HBB.out
        exact ⟨j + 1, int_congrP (by omega), by omega, HY.out, h5.1.trans (h6.os.trans h7.os), h5.2.1.trans (h6.tape.trans h7.tape), h5.2.2.1.trans (h6.output.trans h7.output), Nat.le_trans h7.size (Nat.le_trans h6.size h5.size), fun k hk => (h5.block (show k < X.heap.size by have := h6.size; have := h7.size; omega) (by omega)).trans ((h6.block k (by have := h7.size; omega)).trans (h7.block k hk))⟩
      case measure => simp [intOf]; omega
    · have hjn : j = σ.n := by omega
      have jI : ¬ (j : Int) < (σ.n : Int) := by omega
      have HO := hide hown
      have HBB := hide hB
      have HJN := hide hjn
      clear hown hB hjn
      go_wp2
      go_ret
      have h5 := HO.out
      have h6 := HOK.out.len
      rw [HJN.out] at h5
      unfold imgTo at h5
      rw [Nat.sub_self, Nat.mul_zero, List.replicate_zero, List.append_nil, List.take_of_length_le (by omega)] at h5
      exact ⟨rfl, h5, HBB.out⟩
end
end Go.Proofs.Ytgfgihpkbbjkfaa
