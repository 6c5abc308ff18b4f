/- Package pmem: one operation more, whether a loss of power waits or not. -/
import Derived.Test.YtafmpdljljmddaaPLat
import Derived.Test.YtafmpdljljmddaaQFl
import Derived.Test.YtafmpdljljmddaaPFnW
import Derived.Test.YtafmpdljljmddaaPLd
import Derived.Test.YtafmpdljljmddaaPSt
import Derived.Test.YtafmpdljljmddaaPLos
import Derived.ArgAppend
import Derived.Deep.Cut
namespace Go.Proofs.Ytafmpdljljmddaa
open Go.RowKit Go.Shelf
set_option linter.unusedVariables false

/-- An image of which j lines are laid. -/
def imgTo (σ : St) (j : Nat) : List Nat := σ.bytes.take (64 * j) ++ List.replicate (64 * (σ.n - j)) 0
theorem imgTo_len {σ : St} (hok : σ.Ok) {j : Nat} (hj : j ≤ σ.n) : (imgTo σ j).length = 64 * σ.n := by
  unfold imgTo
  rw [List.length_append, List.length_take, List.length_replicate, hok.len]
  omega
theorem imgTo_next {σ : St} (hok : σ.Ok) {j : Nat} (hj : j < σ.n) : splice (imgTo σ j) (j * 64) (σ.line j) = imgTo σ (j + 1) := by
  have hl := line_len hok hj
  have h1 := imgTo_len hok (Nat.le_of_lt hj)
  have hb := hok.len
  refine List.ext_getElem? fun k => ?_
  rw [splice_get _ _ _ _ (by omega), hl]
  unfold imgTo
  by_cases e1 : k < j * 64
  · rw [if_pos e1, List.getElem?_append_left (by rw [List.length_take]; omega), List.getElem?_append_left (by rw [List.length_take]; omega), List.getElem?_take, List.getElem?_take, if_pos (by omega), if_pos (by omega)]
  · rw [if_neg e1]
    by_cases e2 : k < j * 64 + 64
    · rw [if_pos e2, List.getElem?_append_left (by rw [List.length_take]; omega), List.getElem?_take, if_pos (by omega)]
      unfold St.line
      rw [List.getElem?_take, if_pos (by omega), List.getElem?_drop]
      congr 1
      omega
    · rw [if_neg e2, List.getElem?_append_right (by rw [List.length_take]; omega), List.getElem?_append_right (by rw [List.length_take]; omega), List.getElem?_replicate, List.getElem?_replicate, List.length_take, List.length_take]
      by_cases e3 : k < 64 * σ.n
      · rw [if_pos (by omega), if_pos (by omega)]
      · rw [if_neg (by omega), if_neg (by omega)]
section
variable {w : World} {b : Nat} {L : Lay} {σ : St}
set_option maxRecDepth 100000 in
set_option maxHeartbeats 1000000 in
theorem pimg_any (h : DevL w b L σ) (hok : σ.Ok) : Calls Try.prog 7 #[.pointer (some ⟨b, 0, none⟩)] w fun e w' => e = .returned (.slice (some ⟨w.heap.size, 0, none⟩) (64 * σ.n) (64 * σ.n)) ∧ OwnB w' w.heap.size σ.bytes ∧ Below w.heap.size w w' := by
  obtain ⟨Z, hzl, hz⟩ := zero_content
  obtain ⟨N, hN⟩ : ∃ N, N = 64 * σ.n := ⟨_, rfl⟩
  have hmx := hok.max
  have kn := pnone_any h
  have ks := psize_any h hok.max
  rw [← hN] at ks ⊢
  obtain ⟨RZ, hRZ⟩ : ∃ RZ, RZ = ((List.replicate N 0).map B8).toArray := ⟨_, rfl⟩
  have hmk := makeB_run N (by omega) w
  rw [← hRZ] at hmk
  have hA : Below w.heap.size w (w.alloc (.cells RZ 5)) := (Below.refl _ w).alloc (Nat.le_refl _) _
  have hown : OwnB (w.alloc (.cells RZ 5)) w.heap.size (imgTo σ 0) := by
    have h5 := heapNew w (.cells RZ 5)
    rw [hRZ] at h5 ⊢
    unfold imgTo
    rw [Nat.mul_zero, List.take_zero, List.nil_append, Nat.sub_zero, ← hN]
    exact h5
  have hd0 := h.below hA
  have c1 := hd0.c1
  have KN := hide kn
  have KS := hide ks
  have HD := hide h
  have HOK := hide hok
  have HOWN := hide hown
  have HA := hide hA
  have HZ := hide hz
  have HZL := hide hzl
  have HN := hide hN
  have nI : (σ.n : Int) ≤ 65536 := by omega
  have NI : (N : Int) ≤ 4194304 := by omega
  clear h hok kn ks hown hA hd0 hz hzl hRZ hN hmx
  go_enter Try.func7, Try.ntmps7
  go_wp2_with (first | (go_at_call 20; refine (KN.out).mono ?_; rintro e w' ⟨rfl, hw⟩; obtain rfl := hw.symm) | (go_at_call 21; refine (KS.out).mono ?_; rintro e w' ⟨rfl, hw⟩; obtain rfl := hw.symm))
  go_loopw [16] (fun iv wr => ∃ j : Nat, iv = .int .i64 (j : Int) ∧ j ≤ σ.n ∧ OwnB wr w.heap.size (imgTo σ j) ∧ Below w.heap.size w wr) (fun iv _ => (σ.n - (intOf iv).toNat))
  case atStart => exact ⟨0, rfl, Nat.zero_le _, HOWN.out, HA.out⟩
  case round =>
    obtain ⟨j, rfl, hj, hown, hB⟩ := hrel
    by_cases hlt : j < σ.n
    · have jI : (j : Int) < (σ.n : Int) := by omega
      have hdw := HD.out.below hB
      have hll := line_len HOK.out hlt
      have hlr := line_range hdw HOK.out hlt
      have l0 := fun X => index_line L.sb j σ.n L.cp hlt X
      have si : (Try.prog.info? 69).map (·.size) = some ((σ.line j).map B8).toArray.size := by rw [List.size_toArray, List.length_map, hll]; kernel_rfl
      have th : (wr.alloc (.cells Z.toArray 69)).there wr.heap.size 0 ((σ.line j).map B8).toArray.size := there_row (heapNew wr _) 0 _ (by rw [List.size_toArray, List.length_map, hll, HZL.out]; omega)
      obtain ⟨n1, n2, n3⟩ := new_row (W := wr) (cur := Z) (vs := (σ.line j).map B8) (t := 69) (by rw [List.length_map, hll, HZL.out])
      have hown2 := hown.below n2 hown.lt
      have hnx := imgTo_next HOK.out hlt
      have hil := imgTo_len HOK.out (Nat.le_of_lt hlt)
      have hne : wr.heap.size ≠ w.heap.size := by have := hown.lt; omega
      have S1 := hide (all_oneCell_toArray (B8_cell (σ.line j)))
      have SI := hide si
      have TH := hide th
      have N1 := hide n1
      have N2 := hide n2
      have HO2 := hide hown2
      have HBB := hide hB
      have HLL := hide hll
      have HLR := hide hlr
      have HJ := hide hlt
      have HNX := hide hnx
      have HIL := hide hil
      have HNE := hide hne
      have HND := hide HN.out
      have SB : Hid (j * 64 < N) := by show _ < _; have := HN.out; omega
      have EJ : Hid (((j * 64 : Nat) : Int) = (j : Int) * 64) := by show _ = _; omega
      have WM : Hid (IntKind.i64.wrap ((j : Int) * 64) = (j : Int) * 64) := by show IntKind.i64.wrap _ = _; rw [IntKind.wrap_i64]; omega
      clear si th n1 n2 n3 hown hown2 hB hll hlr hdw hnx hil hne
      go_wp2_with (first | (refine wpList_load_mid rfl 69 (.tmp 19) rfl L.sb (j * 64) (by kernel_rfl) ((σ.line j).map B8) (.array 8 67) HLR.out (by kernel_rfl) rfl (by rw [List.length_map, HLL.out]; kernel_rfl) ?_) | (refine wpList_alloc_row rfl 69 rfl Z (HZ.out _) ?_) | (refine wpList_store_mid rfl 69 (.tmp 5) (.tmp 20) rfl wr.heap.size 0 ((σ.line j).map B8).toArray (by kernel_rfl) (by kernel_rfl) TH.out SI.out S1.out ?_))
      try go_frame
      generalize hX : (wr.alloc (.cells Z.toArray 69)).setCells wr.heap.size 0 ((σ.line j).map B8) = X at *
      clear hX
      have hlen : (imgTo σ j).length = j * 64 + (N - j * 64) := by have h5 := HIL.out; have h6 := HND.out; have h7 := SB.out; omega
      have kl := play_at X.drew w.heap.size (j * 64) (N - j * 64) (N - j * 64) (σ.line j) (imgTo σ j) HLL.out (by have h6 := HND.out; have h7 := HJ.out; omega) (Nat.le_refl _) hlen (HO2.out.below (Below.refl _ X).drew HO2.out.lt)
      rw [HNX.out] at kl
      have KL := hide kl
      have s0 : X.drew.rangeAt wr.heap.size 0 ((σ.line j).map B8) := range_all (w := X.drew) N1.out
      clear kl hlen
      refine wp_region_held_drew (S := fun Y => Y.rangeAt wr.heap.size 0 ((σ.line j).map B8)) (by kernel_rfl) s0 (fun hS => ?_)
      refine wpAnyH_take (i := 0) (v := (.agg ((σ.line j).map B8).toArray)) rfl (by kernel_rfl) (by kernel_rfl) (by kernel_rfl) (fun _ _ _ h => h) (yieldsIf_load_mid (by kernel_rfl) 69 (.tmp 5) (by kernel_rfl) wr.heap.size (0) (by kernel_rfl) ((σ.line j).map B8) (.array 8 67) (fun w hw => hw) (by kernel_rfl) rfl (by rw [List.length_map, HLL.out]; kernel_rfl)) hS ?_
      refine wpAnyH_take (i := 1) (v := (.slice (some ⟨w.heap.size, 0, none⟩) N N)) rfl (by kernel_rfl) (by kernel_rfl) (by kernel_rfl) (fun _ _ _ h => h) (Or.inl ⟨by kernel_rfl, fun w' hw => by (go_simp)⟩) hS ?_
      refine wpAnyH_take (i := 2) (v := (.int .i64 (j : Int))) rfl (by kernel_rfl) (by kernel_rfl) (by kernel_rfl) (fun _ _ _ h => h) (Or.inl ⟨by kernel_rfl, fun w' hw => by (go_simp)⟩) hS ?_
      refine wpAnyH_take (i := 3) (v := (.int .i64 ((j : Int) * 64))) rfl (by kernel_rfl) (by kernel_rfl) (by kernel_rfl) (fun _ _ _ h => h) (Or.inl ⟨by kernel_rfl, fun w' hw => by (have wm := WM.out; go_simp)⟩) hS ?_
      refine wpAnyH_take (i := 4) (v := (.slice (some ⟨w.heap.size, j * 64, none⟩) (N - j * 64) (N - j * 64))) rfl (by kernel_rfl) (by kernel_rfl) (by kernel_rfl) (fun _ _ _ h => h) (Or.inl ⟨by kernel_rfl, fun w' hw => by (have e := slice_bytes w.heap.size 0 (j * 64) N N SB.out (Nat.le_refl _) w'; rw [Nat.zero_add, EJ.out] at e; go_simp)⟩) hS ?_
      refine wpAnyH_op (i := 5) (by kernel_rfl) rfl (by kernel_rfl) (by kernel_rfl) ?_
      go_wp2_with (go_at_call 22; refine (KL.out).mono ?_; rintro e Y ⟨rfl, hy, hg⟩; have HY := hide hy; have HG := hide hg; clear hy hg)
      refine ⟨range_all ((HG.out.block (lt_of_heap N1.out) HNE.out).trans N1.out), ?_⟩
      go_wp2_with (fail)
      go_roundw
      case rel =>
        have h5 := HG.out
        have h6 := N2.out
        have h7 := HBB.out
        exact ⟨j + 1, int_congrP (by omega), by omega, HY.out, h5.1.trans (h6.os.trans h7.os), h5.2.1.trans (h6.tape.trans h7.tape), h5.2.2.1.trans (h6.output.trans h7.output), Nat.le_trans h7.size (Nat.le_trans h6.size h5.size), fun k hk => (h5.block (show k < X.heap.size by have := h6.size; have := h7.size; omega) (by omega)).trans ((h6.block k (by have := h7.size; omega)).trans (h7.block k hk))⟩
      case measure => simp [intOf]; omega
    · have hjn : j = σ.n := by omega
      have jI : ¬ (j : Int) < (σ.n : Int) := by omega
      have HO := hide hown
      have HBB := hide hB
      have HJN := hide hjn
      clear hown hB hjn
      go_wp2
      go_ret
      have h5 := HO.out
      have h6 := HOK.out.len
      rw [HJN.out] at h5
      unfold imgTo at h5
      rw [Nat.sub_self, Nat.mul_zero, List.replicate_zero, List.append_nil, List.take_of_length_le (by omega)] at h5
      exact ⟨rfl, h5, HBB.out⟩
end
end Go.Proofs.Ytafmpdljljmddaa
namespace Go.Proofs.Ytafmpdljljmddaa
open Go.RowKit Go.Shelf
set_option linter.unusedVariables false

theorem slice_all (g o : Nat) (w : World) : (Instr.sliceAt 67 (.pointer (some ⟨g, o, none⟩)) none none none).run Try.prog w = .ok (.slice (some ⟨g, o, none⟩) 8 8) w := by
  obtain ⟨it, h1, h2⟩ := info_of (t := 5) (n := 1) (by kernel_rfl)
  have hu : Try.prog.underlying 67 = some (.array 8 5) := by kernel_rfl
  simp [Instr.sliceAt, Sem.run_bind, run_underlying hu, Instr.sureAddr, Instr.sliceBounds, sizeOf, typeInfo, h1, Addr.add_mid]
theorem zero_bytes (w : World) : (zeroValue 69).run Try.prog w = .ok (.agg ((List.replicate 64 0).map B8).toArray) w := by
  have h : (Try.prog.info? 69).map (fun i => i.zero) = some (some (.agg ((List.replicate 64 0).map B8).toArray)) := by kernel_rfl
  obtain ⟨i, hi, hz⟩ := Option.map_eq_some_iff.1 h
  simp [zeroValue, typeInfo, hi, hz]
set_option maxRecDepth 100000 in
set_option maxHeartbeats 1000000 in
theorem pcof_any (w : World) (ab ao n cap : Nat) (bs : List Nat) (hs : Seg w ab ao bs) (hab : ab < w.heap.size) (hn : bs.length = n) (h64 : 64 ≤ n) (hnc : n ≤ cap) : Calls Try.prog 41 #[.slice (some ⟨ab, ao, none⟩) n cap] w fun e w' => e = .returned (.agg ((bs.take 64).map B8).toArray) ∧ Below w.heap.size w w' := by
  obtain ⟨Z, hZ⟩ : ∃ Z : List Value, Z = (List.replicate 64 0).map B8 := ⟨_, rfl⟩
  obtain ⟨zs, hzs⟩ : ∃ zs : List Nat, zs = List.replicate 64 0 := ⟨_, rfl⟩
  have hz := zero_bytes
  rw [← hZ] at hz
  obtain ⟨c, hc⟩ : ∃ c, c = bs.take 64 := ⟨_, rfl⟩
  have hcl : c.length = 64 := by rw [hc, List.length_take]; omega
  have hA : Below w.heap.size w ((w.alloc (.cells Z.toArray 69)).alloc (.cells Z.toArray 69)) := ((Below.refl _ w).alloc (Nat.le_refl _) _).alloc (by simp) _
  have g0 : ((w.alloc (.cells Z.toArray 69)).alloc (.cells Z.toArray 69)).heap[w.heap.size]? = some (.cells Z.toArray 69 (0, 0)) := (((Below.refl _ (w.alloc (.cells Z.toArray 69))).alloc (Nat.le_refl _) _).block _ (by simp)).trans (heapNew w _)
  have g1 : ((w.alloc (.cells Z.toArray 69)).alloc (.cells Z.toArray 69)).heap[w.heap.size + 1]? = some (.cells ((splice zs 0 (c.take (8 * 0))).map B8).toArray 69 (0, 0)) := by
    have h5 := heapNew (w.alloc (.cells Z.toArray 69)) (.cells Z.toArray 69)
    have h6 : (w.alloc (.cells Z.toArray 69)).heap.size = w.heap.size + 1 := by simp
    rw [h6] at h5
    rw [Nat.mul_zero, List.take_zero, splice_nil, hzs, ← hZ]
    exact h5
  rw [← hc]
  have hzl : Z.length = 64 := by rw [hZ]; simp
  have hzsl : zs.length = 64 := by rw [hzs]; simp
  have HA := hide hA
  have G0 := hide g0
  have G1 := hide g1
  have HZ := hide hz
  have HZL := hide hzl
  have HZS := hide hzsl
  have HC := hide hc
  have HCL := hide hcl
  have HS := hide hs
  have HAB := hide hab
  have HN := hide hn
  have H64 := hide h64
  have HNC := hide hnc
  clear hA g0 g1 hz hzl hzsl hc hcl hs hab hn h64 hnc hZ hzs
  go_enter Try.func41, Try.ntmps41
  go_wp2_with (refine wpList_alloc_row rfl 69 rfl Z (HZ.out _) ?_)
  try go_frame
  try simp only [World.size_alloc]
  go_loopw [5] (fun iv wr => ∃ j : Nat, iv = .int .i64 (j : Int) ∧ j ≤ 8 ∧ wr.heap[w.heap.size + 1]? = some (.cells ((splice zs 0 (c.take (8 * j))).map B8).toArray 69 (0, 0)) ∧ wr.heap[w.heap.size]? = some (.cells Z.toArray 69 (0, 0)) ∧ Below w.heap.size w wr) (fun iv _ => (8 - (intOf iv).toNat))
  case atStart => exact ⟨0, rfl, by omega, G1.out, G0.out, HA.out⟩
  case round =>
    obtain ⟨j, rfl, hj, hg1, hg0, hB⟩ := hrel
    by_cases hlt : j < 8
    · have jI : (j : Int) < 8 := by omega
      obtain ⟨wd, hwd⟩ : ∃ wd, wd = (c.drop (j * 8)).take 8 := ⟨_, rfl⟩
      have hwl : wd.length = 8 := by rw [hwd, List.length_take, List.length_drop, HCL.out]; omega
      have hnl := HN.out
      have h64 := H64.out
      have hsrc : ∀ q v, (wd.map B8)[q]? = some v → wr.drew.cell? ((⟨ab, ao + j * 8, none⟩ : Addr).add q) = some v := fun q v hv => by
        rw [List.getElem?_map] at hv
        obtain ⟨x, hx, rfl⟩ := Option.map_eq_some_iff.1 hv
        have hq : q < wd.length := (List.getElem?_eq_some_iff.1 hx).1
        rw [hwd, List.getElem?_take, if_pos (by omega), List.getElem?_drop, HC.out, List.getElem?_take, if_pos (by omega)] at hx
        rw [Addr.add_mid, Nat.add_assoc]
        exact (World.cell?_of_block (a := ⟨ab, ao + (j * 8 + q), none⟩) (hB.block ab HAB.out)).trans (HS.out _ _ hx).1
      have hcur : (splice zs 0 (c.take (8 * j))).length = 64 := by rw [splice_len _ _ _ (by rw [List.length_take, HCL.out, HZS.out]; omega)]; exact HZS.out
      have hft : j * 8 + (wd.map B8).length ≤ ((splice zs 0 (c.take (8 * j))).map B8).length := by rw [List.length_map, List.length_map, hcur, hwl]; omega
      have hcp : (wd.map B8).length = Nat.min (n - j * 8) 8 := by rw [List.length_map, hwl]; show 8 = min _ 8; omega
      have yo : (wr.drew.setRow (w.heap.size + 1) (splice ((splice zs 0 (c.take (8 * j))).map B8) (j * 8) (wd.map B8)).toArray).heap[w.heap.size + 1]? = some (.cells ((splice zs 0 (c.take (8 * (j + 1)))).map B8).toArray 69 (0, 0)) := by
        rw [heap_setRow wr.drew _ _ _ _ _ hg1, ← splice_map, hwd, splice_more zs c j HCL.out (by rw [HZS.out]; omega) hlt]
      have yg : Gr (fun k => k = w.heap.size + 1) wr (wr.drew.setRow (w.heap.size + 1) (splice ((splice zs 0 (c.take (8 * j))).map B8) (j * 8) (wd.map B8)).toArray) := Gr.setRow wr.drew _ _ rfl
      have HSRC := hide hsrc
      have HFT := hide hft
      have HCP := hide hcp
      have YO := hide yo
      have YG := hide yg
      have HG1 := hide hg1
      have HG0 := hide hg0
      have HB := hide hB
      have HJ := hide hlt
      have SB : Hid (j * 8 < n) := by show _ < _; omega
      have EJ : Hid (((j * 8 : Nat) : Int) = (j : Int) * 8) := by show _ = _; omega
      have WM : Hid (IntKind.i64.wrap ((j : Int) * 8) = (j : Int) * 8) := by show IntKind.i64.wrap _ = _; rw [IntKind.wrap_i64]; omega
      clear hsrc hft hcp yo yg hg1 hg0 hB hcur hwd hwl hnl h64
      go_wp2_with (fail)
      try go_frame
      refine wp_region_held_drew (S := fun _ => True) (by kernel_rfl) trivial (fun hS => ?_)
      refine wpAnyH_take (i := 0) (v := (.int .i64 (j : Int))) rfl (by kernel_rfl) (by kernel_rfl) (by kernel_rfl) (fun _ _ _ h => h) (Or.inl ⟨by kernel_rfl, fun w' hw => by (go_simp)⟩) hS ?_
      refine wpAnyH_take (i := 1) (v := (.pointer (some ⟨w.heap.size + 1, j * 8, none⟩))) rfl (by kernel_rfl) (by kernel_rfl) (by kernel_rfl) (fun _ _ _ h => h) (Or.inl ⟨by kernel_rfl, fun w' hw => by (have e := index_word (w.heap.size + 1) 0 j HJ.out w'; rw [Nat.zero_add] at e; go_simp)⟩) hS ?_
      refine wpAnyH_take (i := 2) (v := (.slice (some ⟨w.heap.size + 1, j * 8, none⟩) 8 8)) rfl (by kernel_rfl) (by kernel_rfl) (by kernel_rfl) (fun _ _ _ h => h) (Or.inl ⟨by kernel_rfl, fun w' hw => by (have e := slice_all (w.heap.size + 1) (j * 8) w'; go_simp)⟩) hS ?_
      refine wpAnyH_take (i := 3) (v := (.slice (some ⟨ab, ao, none⟩) n cap)) rfl (by kernel_rfl) (by kernel_rfl) (by kernel_rfl) (fun _ _ _ h => h) (Or.inl ⟨by kernel_rfl, fun w' hw => by (go_simp)⟩) hS ?_
      refine wpAnyH_take (i := 4) (v := (.int .i64 (j : Int))) rfl (by kernel_rfl) (by kernel_rfl) (by kernel_rfl) (fun _ _ _ h => h) (Or.inl ⟨by kernel_rfl, fun w' hw => by (go_simp)⟩) hS ?_
      refine wpAnyH_take (i := 5) (v := (.int .i64 ((j : Int) * 8))) rfl (by kernel_rfl) (by kernel_rfl) (by kernel_rfl) (fun _ _ _ h => h) (Or.inl ⟨by kernel_rfl, fun w' hw => by (have wm := WM.out; go_simp)⟩) hS ?_
      refine wpAnyH_take (i := 6) (v := (.slice (some ⟨ab, ao + j * 8, none⟩) (n - j * 8) (cap - j * 8))) rfl (by kernel_rfl) (by kernel_rfl) (by kernel_rfl) (fun _ _ _ h => h) (Or.inl ⟨by kernel_rfl, fun w' hw => by (have e := slice_bytes ab ao (j * 8) n cap SB.out HNC.out w'; rw [EJ.out] at e; go_simp)⟩) hS ?_
      refine wpAnyH_op (i := 7) (by kernel_rfl) rfl (by kernel_rfl) (by kernel_rfl) (wp_copy (.tmp 10) (.tmp 14) 33 33 (by kernel_rfl) 5 Try.underlying33 (by kernel_rfl) (w.heap.size + 1) (j * 8) 8 8 ⟨ab, ao + j * 8, none⟩ (n - j * 8) (cap - j * 8) (by kernel_rfl) (by kernel_rfl) ((splice zs 0 (c.take (8 * j))).map B8) 69 HG1.out (wd.map B8) HCP.out HSRC.out HFT.out (B8_cell wd) ⟨trivial, ?_⟩)
      simp only [Act.put, List.getElem_toArray, List.getElem_cons_zero, List.getElem_cons_succ, List.setIfInBounds_toArray, List.set_cons_zero, List.set_cons_succ]
      go_wp2_with (fail)
      go_roundw
      case rel =>
        have h5 := YG.out
        have h7 := HB.out
        exact ⟨j + 1, int_congrP (by omega), by omega, YO.out, (h5.block (lt_of_heap HG0.out) (by omega)).trans HG0.out, h5.1.trans h7.os, h5.2.1.trans h7.tape, h5.2.2.1.trans h7.output, Nat.le_trans h7.size h5.size, fun k hk => (h5.block (Nat.lt_of_lt_of_le hk h7.size) (by omega)).trans (h7.block k hk)⟩
      case measure => simp [intOf]; omega
    · obtain rfl : j = 8 := by omega
      have hsp : splice zs 0 (c.take (8 * 8)) = c := by
        rw [List.take_of_length_le (by rw [HCL.out]; omega)]
        unfold splice
        rw [HCL.out, List.take_zero, List.nil_append, List.drop_of_length_le (by rw [HZS.out]; omega), List.append_nil]
      rw [hsp] at hg1
      have hrn := range_all hg1
      have si : (Try.prog.info? 69).map (·.size) = some (c.map B8).toArray.size := by rw [List.size_toArray, List.length_map, HCL.out]; kernel_rfl
      have th : wr.there w.heap.size 0 (c.map B8).toArray.size := there_row hg0 0 _ (by rw [List.size_toArray, List.length_map, HCL.out, HZL.out]; omega)
      have HRN := hide hrn
      have SI := hide si
      have TH := hide th
      have S1 := hide (all_oneCell_toArray (B8_cell c))
      have HG0 := hide hg0
      have HB := hide hB
      clear hrn si th hg0 hg1 hB hsp
      go_wp2_with (first | (refine wpList_load_mid rfl 69 (.tmp 3) rfl (w.heap.size + 1) 0 (by kernel_rfl) (c.map B8) (.array 8 67) HRN.out (by kernel_rfl) rfl (by rw [List.length_map, HCL.out]; kernel_rfl) ?_) | (refine wpList_store_mid rfl 69 (.tmp 2) (.tmp 17) rfl w.heap.size 0 (c.map B8).toArray (by kernel_rfl) (by kernel_rfl) TH.out SI.out S1.out ?_))
      try go_frame
      have hh : (wr.setCells w.heap.size 0 (c.map B8)).heap[w.heap.size]? = some (.cells (c.map B8).toArray 69 (0, 0)) := by
        rw [heap_setCells w.heap.size _ (c.map B8) 0 wr Z HG0.out (by rw [List.length_map, HCL.out, HZL.out]; omega)]
        simp [splice, HCL.out, HZL.out]
      refine bodyPost_ret (results_cell_row rfl _ _ w.heap.size 69 (c.map B8).toArray (0, 0) (.array 8 67) rfl hh (by kernel_rfl) rfl SI.out) rfl ?_
      have h5 : Gr (fun k => k = w.heap.size) wr (wr.setCells w.heap.size 0 (c.map B8)) := Gr.setCells wr w.heap.size _ _ rfl
      have h7 := HB.out
      exact ⟨rfl, h5.1.trans h7.os, h5.2.1.trans h7.tape, h5.2.2.1.trans h7.output, Nat.le_trans h7.size h5.size, fun k hk => (h5.block (Nat.lt_of_lt_of_le hk h7.size) (by omega)).trans (h7.block k hk)⟩
end Go.Proofs.Ytafmpdljljmddaa
namespace Go.Proofs.Ytafmpdljljmddaa
open Go.RowKit Go.Shelf
set_option linter.unusedVariables false

/-- A device of these bytes. -/
def fromD (m : Nat) (bs : List Nat) : St := { newD m with bytes := bs }
theorem fromD_ok {m : Nat} {bs : List Nat} (h1 : 1 ≤ m) (h2 : m ≤ 65536) (hl : bs.length = 64 * m) (hb : ∀ x ∈ bs, x < 256) : (fromD m bs).Ok :=
  ⟨h1, h2, hl, hb, fun _ _ => rfl, fun i c hc => (by cases hc), fun i c hc => (by cases hc), fun i => Nat.zero_le _, fun i k hk => (by cases hk), by show 0 ≤ _; omega⟩
set_option maxRecDepth 100000 in
set_option maxHeartbeats 1000000 in
theorem pfrom_any (w : World) (ab ao N cap m : Nat) (bs : List Nat) (hs : Seg w ab ao bs) (hab : ab < w.heap.size) (hNl : bs.length = N) (hNm : N = 64 * m) (h1 : 1 ≤ m) (h2 : m ≤ 65536) (hb : ∀ x ∈ bs, x < 256) (hnc : N ≤ cap) :
    Calls Try.prog 17 #[.slice (some ⟨ab, ao, none⟩) N cap] w fun e w' => ∃ b L, e = .returned (.tuple #[.pointer (some ⟨b, 0, none⟩), .int .i64 0]) ∧ DevL w' b L (fromD m bs) ∧ (∀ k, Foot b L (fromD m bs) k → w.heap.size ≤ k) ∧ Below w.heap.size w w' ∧ L.N = 0 := by
  have hok := fromD_ok h1 h2 (hNl.trans hNm) hb
  have kn := pnew_any w m h1 h2
  rw [← hNm] at kn
  have KN := hide kn
  have HOK := hide hok
  have HS := hide hs
  have HAB := hide hab
  have HNL := hide hNl
  have HNM := hide hNm
  have HNC := hide hnc
  have H2 := hide h2
  have mI : (m : Int) ≤ 65536 := by omega
  clear kn hok hs hab hNl hNm hnc hb h1 h2
  go_enter Try.func17, Try.ntmps17
  go_wp2_with (go_at_call 40; refine (KN.out).mono ?_; rintro e W0 ⟨b, L, rfl, hd, hf, hB, hN0⟩; have c1 : W0.cell? ⟨b, 1, none⟩ = some (.slice (some ⟨L.sb, 0, none⟩) m L.cp) := hd.c1; have HD := hide hd; have HF := hide hf; have HB := hide hB; have HN0 := hide hN0; clear hd hf hB hN0)
  try go_frame
  go_loopw [21] (fun iv wr => ∃ j : Nat, iv = .int .i64 (j : Int) ∧ j ≤ m ∧ DevL wr b L { newD m with bytes := imgTo (fromD m bs) j } ∧ Gr (fun k => k = L.sb) W0 wr) (fun iv _ => (m - (intOf iv).toNat))
  case atStart =>
    refine ⟨0, rfl, Nat.zero_le _, ?_, Gr.refl _ _⟩
    have e : imgTo (fromD m bs) 0 = (newD m).bytes := by unfold imgTo; rw [Nat.mul_zero, List.take_zero, List.nil_append, Nat.sub_zero]; rfl
    rw [e]
    exact HD.out
  case round =>
    obtain ⟨j, rfl, hj, hdw, hgw⟩ := hrel
    by_cases hlt : j < m
    · have jI : (j : Int) < (m : Int) := by omega
      have hil : (imgTo (fromD m bs) j).length = 64 * m := imgTo_len HOK.out (show j ≤ (fromD m bs).n from hj)
      have hll : ((fromD m bs).line j).length = 64 := line_len HOK.out (show j < (fromD m bs).n from hlt)
      have hnx := imgTo_next HOK.out (show j < (fromD m bs).n from hlt)
      have hbl : ab < wr.heap.size := Nat.lt_of_lt_of_le HAB.out (Nat.le_trans HB.out.size hgw.size)
      have hsb := HF.out L.sb (.inr (.inl rfl))
      have hsw : Seg wr ab (ao + j * 64) (bs.drop (j * 64)) := fun q x hx => by
        rw [List.getElem?_drop] at hx
        have h5 := HS.out _ _ hx
        refine ⟨?_, h5.2⟩
        rw [Nat.add_assoc]
        have hk : wr.heap[ab]? = w.heap[ab]? := (hgw.block (Nat.lt_of_lt_of_le HAB.out HB.out.size) (by have := HAB.out; omega)).trans (HB.out.block ab HAB.out)
        exact (World.cell?_of_block (a := ⟨ab, ao + (j * 64 + q), none⟩) hk).trans h5.1
      have hnm := HNM.out
      have hnl := HNL.out
      have hncc := HNC.out
      have kc := pcof_any wr.drew ab (ao + j * 64) (N - j * 64) (cap - j * 64) (bs.drop (j * 64)) hsw hbl (by rw [List.length_drop]; omega) (by omega) (by omega)
      have hline : (bs.drop (j * 64)).take 64 = (fromD m bs).line j := by unfold St.line; rw [Nat.mul_comm]; rfl
      rw [hline] at kc
      have fin : ∀ W4, Below wr.heap.size wr W4 → DevL (W4.setCells L.sb (j * 64) (((fromD m bs).line j).map B8)) b L { newD m with bytes := imgTo (fromD m bs) (j + 1) } ∧ Gr (fun k => k = L.sb) W0 (W4.setCells L.sb (j * 64) (((fromD m bs).line j).map B8)) := fun W4 h4 => by
        refine ⟨?_, (hgw.trans (Gr.of_below h4 : Gr (fun k => k = L.sb) wr W4) (fun i h => .inl h)).trans (Gr.setCells W4 L.sb _ _ (X := fun k => k = L.sb) rfl) (fun i h => .inl h)⟩
        have h5 := dev_seen (i := j) (c := (fromD m bs).line j) (hdw.below h4) hil hlt hll
        have e : splice (imgTo (fromD m bs) j) (64 * j) ((fromD m bs).line j) = imgTo (fromD m bs) (j + 1) := by rw [Nat.mul_comm]; exact hnx
        have h6 : DevL (W4.setCells L.sb (j * 64) (((fromD m bs).line j).map B8)) b L { newD m with bytes := splice (imgTo (fromD m bs) j) (64 * j) ((fromD m bs).line j) } := h5
        rw [e] at h6
        exact h6
      have c1w : wr.cell? ⟨b, 1, none⟩ = some (.slice (some ⟨L.sb, 0, none⟩) m L.cp) := hdw.c1
      have tf : ∀ W4, Below wr.heap.size wr W4 → W4.there L.sb (j * 64) (((fromD m bs).line j).map B8).toArray.size ∧ W4.cell? ⟨b, 1, none⟩ = some (.slice (some ⟨L.sb, 0, none⟩) m L.cp) := fun W4 h4 => ⟨there_row ((h4.block _ (lt_of_heap hdw.seen)).trans hdw.seen) _ _ (by rw [List.size_toArray, List.length_map, List.length_append, List.length_map, hll]; show _ ≤ (imgTo (fromD m bs) j).length + _; omega), (hdw.below h4).c1⟩
      have si : (Try.prog.info? 69).map (·.size) = some (((fromD m bs).line j).map B8).toArray.size := by rw [List.size_toArray, List.length_map, hll]; kernel_rfl
      have S1 := hide (all_oneCell_toArray (B8_cell ((fromD m bs).line j)))
      have SI := hide si
      have KC := hide kc
      have FIN := hide fin
      have TF := hide tf
      have SB0 : Hid (wr.drew.cell? ⟨b, 1, none⟩ = some (.slice (some ⟨L.sb, 0, none⟩) m L.cp)) := c1w
      have HJ := hide hlt
      have SB : Hid (j * 64 < N) := by show _ < _; omega
      have EJ : Hid (((j * 64 : Nat) : Int) = (j : Int) * 64) := by show _ = _; omega
      have WM : Hid (IntKind.i64.wrap ((j : Int) * 64) = (j : Int) * 64) := by show IntKind.i64.wrap _ = _; rw [IntKind.wrap_i64]; omega
      clear hil hll hnx hbl hsb hsw hnm hnl hncc kc hline fin c1w tf si hdw hgw c1
      go_wp2_with (fail)
      try go_frame
      refine wp_region_early 11 (fun X => X.cell? ⟨b, 1, none⟩ = some (.slice (some ⟨L.sb, 0, none⟩) m L.cp)) (by kernel_rfl) SB0.out (fun hS => ?_)
      refine wpAnyE_take (i := 0) (v := (.pointer (some ⟨b, 0, none⟩))) rfl (by kernel_rfl) (by kernel_rfl) (by kernel_rfl) (by kernel_rfl) (fun _ _ _ h => h) (Or.inl ⟨by kernel_rfl, fun w' hw => by (go_simp)⟩) hS ?_
      refine wpAnyE_take (i := 1) (v := (.pointer (some ⟨b, 0, none⟩))) rfl (by kernel_rfl) (by kernel_rfl) (by kernel_rfl) (by kernel_rfl) (fun _ _ _ h => h) (Or.inl ⟨by kernel_rfl, fun w' hw => by (go_simp)⟩) hS ?_
      refine wpAnyE_take (i := 2) (v := (.pointer (some ⟨b, 1, none⟩))) rfl (by kernel_rfl) (by kernel_rfl) (by kernel_rfl) (by kernel_rfl) (fun _ _ _ h => h) (Or.inl ⟨by kernel_rfl, fun w' hw => by (go_simp)⟩) hS ?_
      refine wpAnyE_take (i := 3) (v := (.slice (some ⟨L.sb, 0, none⟩) m L.cp)) rfl (by kernel_rfl) (by kernel_rfl) (by kernel_rfl) (by kernel_rfl) (fun _ _ _ h => h) (Or.inl ⟨by kernel_rfl, fun w' hw => by (go_simp)⟩) hS ?_
      refine wpAnyE_take (i := 4) (v := (.int .i64 (j : Int))) rfl (by kernel_rfl) (by kernel_rfl) (by kernel_rfl) (by kernel_rfl) (fun _ _ _ h => h) (Or.inl ⟨by kernel_rfl, fun w' hw => by (go_simp)⟩) hS ?_
      refine wpAnyE_take (i := 5) (v := (.slice (some ⟨ab, ao, none⟩) N cap)) rfl (by kernel_rfl) (by kernel_rfl) (by kernel_rfl) (by kernel_rfl) (fun _ _ _ h => h) (Or.inl ⟨by kernel_rfl, fun w' hw => by (go_simp)⟩) hS ?_
      refine wpAnyE_take (i := 6) (v := (.int .i64 (j : Int))) rfl (by kernel_rfl) (by kernel_rfl) (by kernel_rfl) (by kernel_rfl) (fun _ _ _ h => h) (Or.inl ⟨by kernel_rfl, fun w' hw => by (go_simp)⟩) hS ?_
      refine wpAnyE_take (i := 7) (v := (.int .i64 ((j : Int) * 64))) rfl (by kernel_rfl) (by kernel_rfl) (by kernel_rfl) (by kernel_rfl) (fun _ _ _ h => h) (Or.inl ⟨by kernel_rfl, fun w' hw => by (have wm := WM.out; go_simp)⟩) hS ?_
      refine wpAnyE_take (i := 8) (v := (.slice (some ⟨ab, ao + j * 64, none⟩) (N - j * 64) (cap - j * 64))) rfl (by kernel_rfl) (by kernel_rfl) (by kernel_rfl) (by kernel_rfl) (fun _ _ _ h => h) (Or.inl ⟨by kernel_rfl, fun w' hw => by (have e := slice_bytes ab ao (j * 64) N cap SB.out HNC.out w'; rw [EJ.out] at e; go_simp)⟩) hS ?_
      refine wpAnyE_do (i := 9) (by kernel_rfl) rfl (by kernel_rfl) (fun K hK => ?_)
      go_wp2_with (go_at_call 41; refine (KC.out).mono ?_; rintro e W4 ⟨rfl, hB4⟩; have HB4 := hide (bseq (Below.refl _ wr).drew hB4 : Below wr.heap.size wr W4); clear hB4)
      have s4 := (TF.out W4 HB4.out).2
      have th4 := (TF.out W4 HB4.out).1
      have TH := hide th4
      clear th4
      refine hK.out _ _ (fun _ => s4) ?_
      clear hK K
      refine wpAnyE_take (i := 10) (v := (.pointer (some ⟨L.sb, j * 64, none⟩))) rfl (by kernel_rfl) (by kernel_rfl) (by kernel_rfl) (by kernel_rfl) (fun _ _ _ h => h) (Or.inl ⟨by kernel_rfl, fun w' hw => by (have e := index_line L.sb j m L.cp HJ.out w'; go_simp)⟩) s4 ?_
      refine wpAnyE_store 69 (.tmp 34) (.tmp 33) L.sb (j * 64) (((fromD m bs).line j).map B8).toArray (by kernel_rfl) rfl (by kernel_rfl) (by kernel_rfl) (by kernel_rfl) (by kernel_rfl) (by kernel_rfl) TH.out SI.out S1.out ?_
      simp only [Act.put, List.getElem_toArray, List.getElem_cons_zero, List.getElem_cons_succ, List.setIfInBounds_toArray, List.set_cons_zero, List.set_cons_succ]
      go_wp2_with (fail)
      go_roundw
      case rel => exact ⟨j + 1, int_congrP (by omega), by omega, (FIN.out W4 HB4.out).1, (FIN.out W4 HB4.out).2⟩
      case measure => simp [intOf]; omega
    · have hjm : j = m := by omega
      have jI : ¬ (j : Int) < (m : Int) := by omega
      have e : imgTo (fromD m bs) j = bs := by
        have h5 : bs.length = 64 * m := HOK.out.len
        unfold imgTo
        rw [hjm]
        show List.take (64 * m) bs ++ List.replicate (64 * (m - m)) 0 = bs
        rw [Nat.sub_self, Nat.mul_zero, List.replicate_zero, List.append_nil, List.take_of_length_le (Nat.le_of_eq h5)]
      rw [e] at hdw
      have HDW := hide hdw
      have HGW := hide hgw
      clear hdw hgw e hjm
      go_wp2
      go_ret2
      have h5 := HGW.out
      have h7 := HB.out
      have hsb := HF.out L.sb (.inr (.inl rfl))
      exact ⟨b, rfl, L, HDW.out, HF.out, ⟨h5.1.trans h7.os, h5.2.1.trans h7.tape, h5.2.2.1.trans h7.output, Nat.le_trans h7.size h5.size, fun k hk => (h5.block (Nat.lt_of_lt_of_le hk h7.size) (by omega)).trans (h7.block k hk)⟩, HN0.out⟩
end Go.Proofs.Ytafmpdljljmddaa
namespace Go.Proofs.Ytafmpdljljmddaa
open Go.RowKit Go.Shelf
set_option linter.unusedVariables false

section
variable {w : World} {b : Nat} {L : Lay} {σ : St} {a : Option Addr} {bs : List Nat}
theorem psto_any (at_ cap : Nat) (h : DevL w b L σ) (hok : σ.Ok) (ho : σ.off = false) (hN : L.N ≤ σ.ops) (harm : σ.arms = []) (hops : σ.ops + 600000 ≤ 1400000000000) (hsl : Sl w a bs) (hcap : bs.length ≤ cap) (hlen : at_ + bs.length ≤ 64 * σ.n) (haf : ∀ ad, a = some ad → ad.block < w.heap.size ∧ ¬ Foot b L σ ad.block) :
    Calls Try.prog 13 #[.pointer (some ⟨b, 0, none⟩), .int .i64 (at_ : Int), .slice a bs.length cap] w fun e w' => e = .returned (.int .i64 0) ∧ ∃ L', DevL w' b L' (writeDo bs at_ σ (wordsOf at_ bs.length)) ∧ (∀ k, Foot b L' (writeDo bs at_ σ (wordsOf at_ bs.length)) k → Foot b L σ k ∨ w.heap.size ≤ k) ∧ Gr (Foot b L σ) w w' ∧ L'.N ≤ L.N + (wordsOf at_ bs.length).length ∧ SameL L L' := by
  have hmx := hok.max
  have ks := pstate_any h
  rw [ho] at ks
  simp only [Bool.false_eq_true, if_false] at ks
  have kh := pholds_any h hok.max (at_ : Int) (bs.length : Int) (by omega) (by omega)
  have hb : hasB σ (at_ : Int) (bs.length : Int) = true := by unfold hasB; simp; omega
  rw [hb] at kh
  have kw := callsIn_wide.1 (pwrite_in (cap := cap) h hok hN harm hsl hcap hlen hops haf)
  have KS := hide ks
  have KH := hide kh
  have KW := hide kw
  clear h hok ks kh kw hb harm hN ho hsl hlen haf
  generalize bs.length = n at *
  go_enter Try.func13, Try.ntmps13
  go_wp2_with (first | (go_at_call 32; refine (KS.out).mono ?_; rintro e w' ⟨rfl, hw⟩; obtain rfl := hw.symm) | (go_at_call 33; refine (KH.out).mono ?_; rintro e w' ⟨rfl, hw⟩; obtain rfl := hw.symm) | (go_at_call 34; refine (KW.out).mono ?_; rintro e w' ⟨rfl, hw⟩; have HW := hide hw; clear hw))
  go_ret
  exact ⟨rfl, HW.out⟩
theorem psto_out (x : Int) (n cap : Nat) (h : DevL w b L σ) (hok : σ.Ok) (ho : σ.off = false) (hx : -9223372036854775808 ≤ x) (hx' : x ≤ 9223372036854775807) (hb : hasB σ x (n : Int) = false) :
    Calls Try.prog 13 #[.pointer (some ⟨b, 0, none⟩), .int .i64 x, .slice a n cap] w fun e w' => e = .returned (.int .i64 6) ∧ w' = w := by
  have ks := pstate_any h
  rw [ho] at ks
  simp only [Bool.false_eq_true, if_false] at ks
  have kh := pholds_any h hok.max x (n : Int) hx hx'
  rw [hb] at kh
  have KS := hide ks
  have KH := hide kh
  clear h hok ks kh
  go_enter Try.func13, Try.ntmps13
  go_wp2_with (first | (go_at_call 32; refine (KS.out).mono ?_; rintro e w' ⟨rfl, hw⟩; obtain rfl := hw.symm) | (go_at_call 33; refine (KH.out).mono ?_; rintro e w' ⟨rfl, hw⟩; obtain rfl := hw.symm))
  go_ret
  exact ⟨rfl, rfl⟩
end
/-- Behind k words the bytes ahead of them are written. -/
theorem splice_words (l bs : List Nat) (at_ k : Nat) (hlen : at_ + bs.length ≤ l.length) (hk : at_ ≤ k) (hk2 : k < at_ + bs.length) (n : Nat) (hn : n ≤ 8) (hn2 : k + n ≤ at_ + bs.length) :
    splice (splice l at_ (bs.take (k - at_))) k ((bs.drop (k - at_)).take n) = splice l at_ (bs.take (k + n - at_)) := by
  have l1 : (bs.take (k - at_)).length = k - at_ := by rw [List.length_take]; omega
  have l2 : ((bs.drop (k - at_)).take n).length = n := by rw [List.length_take, List.length_drop]; omega
  have l3 : (bs.take (k + n - at_)).length = k + n - at_ := by rw [List.length_take]; omega
  have l4 := splice_len l (bs.take (k - at_)) at_ (by omega)
  refine List.ext_getElem? fun q => ?_
  rw [splice_get _ _ _ _ (by omega), splice_get _ _ _ _ (by omega), splice_get _ _ _ _ (by omega), l1, l2, l3]
  by_cases h0 : q < at_
  · rw [if_pos (by omega), if_pos h0, if_pos h0]
  · by_cases h1 : q < k
    · rw [if_pos h1, if_neg h0, if_pos (by omega), if_neg h0, if_pos (by omega), List.getElem?_take, List.getElem?_take, if_pos (by omega), if_pos (by omega)]
    · rw [if_neg h1]
      by_cases h2 : q < k + n
      · rw [if_pos h2, if_neg h0, if_pos (by omega), List.getElem?_take, List.getElem?_take, if_pos (by omega), if_pos (by omega), List.getElem?_drop]
        congr 1
        omega
      · rw [if_neg h2, if_neg h0, if_neg (by omega), if_neg h0, if_neg (by omega)]
end Go.Proofs.Ytafmpdljljmddaa
namespace Go.Proofs.Ytafmpdljljmddaa
open Go.RowKit Go.Shelf
set_option linter.unusedVariables false

section
variable {w : World} {b : Nat} {L : Lay} {σ : St}
theorem st3 {W : World} {g : Nat} {p : Value} {x y : Int} (h : W.heap[g]? = some (.cells #[p, .int .i64 x, .int .i64 y] 103 (0, 0))) :
    W.cell? ⟨g, 0, none⟩ = some p ∧ W.cell? ⟨g, 1, none⟩ = some (.int .i64 x) ∧ W.cell? ⟨g, 2, none⟩ = some (.int .i64 y) := ⟨cell8 h 0, cell8 h 1, cell8 h 2⟩
set_option maxHeartbeats 400000 in
theorem qlies_any (h : DevL w b L σ) (hn : σ.n ≤ 65536) (x y : Int) (hx : -9223372036854775808 ≤ x) (hx' : x ≤ 9223372036854775807) (hy : 0 ≤ y) : Calls Try.prog 66 #[.agg #[.pointer (some ⟨b, 0, none⟩), .int .i64 x, .int .i64 y]] w fun e w' => e = .returned (.bool (hasB σ x y)) ∧ Below w.heap.size w w' := by
  have hA : Below w.heap.size w (w.alloc (.cells #[.pointer (some ⟨b, 0, none⟩), .int .i64 x, .int .i64 y] 103)) := (Below.refl _ w).alloc (Nat.le_refl _) _
  have ks := psize_any (h.below hA.drew) hn
  obtain ⟨N, hN⟩ : ∃ N : Nat, N = 64 * σ.n := ⟨_, rfl⟩
  rw [← hN] at ks
  have NI : (N : Int) ≤ 4194304 := by omega
  have s0 : (w.alloc (.cells #[.pointer (some ⟨b, 0, none⟩), .int .i64 x, .int .i64 y] 103)).drew.cell? ⟨w.heap.size, 0, none⟩ = some (.pointer (some ⟨b, 0, none⟩)) ∧ (w.alloc (.cells #[.pointer (some ⟨b, 0, none⟩), .int .i64 x, .int .i64 y] 103)).drew.cell? ⟨w.heap.size, 1, none⟩ = some (.int .i64 x) ∧ (w.alloc (.cells #[.pointer (some ⟨b, 0, none⟩), .int .i64 x, .int .i64 y] 103)).drew.cell? ⟨w.heap.size, 2, none⟩ = some (.int .i64 y) := st3 (W := (w.alloc (.cells #[.pointer (some ⟨b, 0, none⟩), .int .i64 x, .int .i64 y] 103)).drew) (heap_alloc_new w _)
  have KS := hide ks
  have HA := hide hA
  have S0 := hide s0
  by_cases h0 : x < 0
  · have e : hasB σ x y = false := by unfold hasB; simp; omega
    rw [e]
    have h0' : ¬ 0 ≤ x := by omega
    clear h ks hA e hN s0
    go_enter Try.func66, Try.ntmps66
    go_wp2_with (fail)
    refine wp_region_held_drew (S := fun X => X.cell? ⟨w.heap.size, 0, none⟩ = some (.pointer (some ⟨b, 0, none⟩)) ∧ X.cell? ⟨w.heap.size, 1, none⟩ = some (.int .i64 x) ∧ X.cell? ⟨w.heap.size, 2, none⟩ = some (.int .i64 y)) (by kernel_rfl) S0.out (fun hS => ?_)
    refine wpAnyH_take (i := 0) (v := (.pointer (some ⟨w.heap.size, 1, none⟩))) rfl (by kernel_rfl) (by kernel_rfl) (by kernel_rfl) (fun _ _ _ h => h) (Or.inl ⟨by kernel_rfl, fun w' hw => by (go_simp)⟩) hS ?_
    refine wpAnyH_take (i := 1) (v := (.int .i64 x)) rfl (by kernel_rfl) (by kernel_rfl) (by kernel_rfl) (fun _ _ _ h => h) (Or.inl ⟨by kernel_rfl, fun w' hw => by (obtain ⟨z0, z1, z2⟩ := hw; go_simp)⟩) hS ?_
    refine wpAnyH_take (i := 2) (v := (.bool false)) rfl (by kernel_rfl) (by kernel_rfl) (by kernel_rfl) (fun _ _ _ h => h) (Or.inl ⟨by kernel_rfl, fun w' hw => by (go_simp)⟩) hS ?_
    refine wpAnyH_take (i := 3) (v := (.bool false)) rfl (by kernel_rfl) (by kernel_rfl) (by kernel_rfl) (fun _ _ _ h => h) (Or.inl ⟨by kernel_rfl, fun w' hw => by (go_simp)⟩) hS ?_
    refine wpAnyH_take (i := 4) (v := undef) rfl (by kernel_rfl) (by kernel_rfl) (by kernel_rfl) (fun _ _ _ h => h) (Or.inr ⟨by kernel_rfl, rfl⟩) hS ?_
    refine wpAnyH_take (i := 5) (v := undef) rfl (by kernel_rfl) (by kernel_rfl) (by kernel_rfl) (fun _ _ _ h => h) (Or.inr ⟨by kernel_rfl, rfl⟩) hS ?_
    refine wpAnyH_take (i := 6) (v := undef) rfl (by kernel_rfl) (by kernel_rfl) (by kernel_rfl) (fun _ _ _ h => h) (Or.inr ⟨by kernel_rfl, rfl⟩) hS ?_
    refine wpAnyH_take (i := 7) (v := undef) rfl (by kernel_rfl) (by kernel_rfl) (by kernel_rfl) (fun _ _ _ h => h) (Or.inr ⟨by kernel_rfl, rfl⟩) hS ?_
    refine wpAnyH_take (i := 8) (v := undef) rfl (by kernel_rfl) (by kernel_rfl) (by kernel_rfl) (fun _ _ _ h => h) (Or.inr ⟨by kernel_rfl, rfl⟩) hS ?_
    refine wpAnyH_take (i := 9) (v := undef) rfl (by kernel_rfl) (by kernel_rfl) (by kernel_rfl) (fun _ _ _ h => h) (Or.inr ⟨by kernel_rfl, rfl⟩) hS ?_
    refine wpAnyH_take (i := 10) (v := undef) rfl (by kernel_rfl) (by kernel_rfl) (by kernel_rfl) (fun _ _ _ h => h) (Or.inr ⟨by kernel_rfl, rfl⟩) hS ?_
    refine wpAnyH_take (i := 11) (v := undef) rfl (by kernel_rfl) (by kernel_rfl) (by kernel_rfl) (fun _ _ _ h => h) (Or.inr ⟨by kernel_rfl, rfl⟩) hS ?_
    refine wpAnyH_take (i := 12) (v := undef) rfl (by kernel_rfl) (by kernel_rfl) (by kernel_rfl) (fun _ _ _ h => h) (Or.inr ⟨by kernel_rfl, rfl⟩) hS ?_
    refine wpAnyH_take (i := 13) (v := (.bool false)) rfl (by kernel_rfl) (by kernel_rfl) (by kernel_rfl) (fun _ _ _ h => h) (Or.inl ⟨by kernel_rfl, fun w' hw => by (go_simp)⟩) hS ?_
    refine wpAnyH_take (i := 14) (v := (.bool false)) rfl (by kernel_rfl) (by kernel_rfl) (by kernel_rfl) (fun _ _ _ h => h) (Or.inl ⟨by kernel_rfl, fun w' hw => by (go_simp)⟩) hS ?_
    refine wpAnyH_done (by kernel_rfl) ?_ _
    simp only [Act.put, List.getElem_toArray, List.getElem_cons_zero, List.getElem_cons_succ, List.setIfInBounds_toArray, List.set_cons_zero, List.set_cons_succ]
    go_wp2_with (fail)
    go_ret
    exact ⟨rfl, HA.out.drew⟩
  · have h0' : 0 ≤ x := by omega
    have e : hasB σ x y = decide (y ≤ (N : Int) - x) := by
      unfold hasB
      rw [Bool.eq_iff_iff]
      simp
      omega
    rw [e]
    clear h ks hA e hN h0 s0
    have wr : IntKind.i64.wrap ((N : Int) - x) = (N : Int) - x := by rw [IntKind.wrap_i64]; omega
    go_enter Try.func66, Try.ntmps66
    go_wp2_with (fail)
    refine wp_region_held_drew (S := fun X => X.cell? ⟨w.heap.size, 0, none⟩ = some (.pointer (some ⟨b, 0, none⟩)) ∧ X.cell? ⟨w.heap.size, 1, none⟩ = some (.int .i64 x) ∧ X.cell? ⟨w.heap.size, 2, none⟩ = some (.int .i64 y)) (by kernel_rfl) S0.out (fun hS => ?_)
    refine wpAnyH_take (i := 0) (v := (.pointer (some ⟨w.heap.size, 1, none⟩))) rfl (by kernel_rfl) (by kernel_rfl) (by kernel_rfl) (fun _ _ _ h => h) (Or.inl ⟨by kernel_rfl, fun w' hw => by (go_simp)⟩) hS ?_
    refine wpAnyH_take (i := 1) (v := (.int .i64 x)) rfl (by kernel_rfl) (by kernel_rfl) (by kernel_rfl) (fun _ _ _ h => h) (Or.inl ⟨by kernel_rfl, fun w' hw => by (obtain ⟨z0, z1, z2⟩ := hw; go_simp)⟩) hS ?_
    refine wpAnyH_take (i := 2) (v := (.bool true)) rfl (by kernel_rfl) (by kernel_rfl) (by kernel_rfl) (fun _ _ _ h => h) (Or.inl ⟨by kernel_rfl, fun w' hw => by (go_simp)⟩) hS ?_
    refine wpAnyH_take (i := 3) (v := (.bool true)) rfl (by kernel_rfl) (by kernel_rfl) (by kernel_rfl) (fun _ _ _ h => h) (Or.inl ⟨by kernel_rfl, fun w' hw => by (go_simp)⟩) hS ?_
    refine wpAnyH_take (i := 4) (v := (.pointer (some ⟨w.heap.size, 2, none⟩))) rfl (by kernel_rfl) (by kernel_rfl) (by kernel_rfl) (fun _ _ _ h => h) (Or.inl ⟨by kernel_rfl, fun w' hw => by (go_simp)⟩) hS ?_
    refine wpAnyH_take (i := 5) (v := (.int .i64 y)) rfl (by kernel_rfl) (by kernel_rfl) (by kernel_rfl) (fun _ _ _ h => h) (Or.inl ⟨by kernel_rfl, fun w' hw => by (obtain ⟨z0, z1, z2⟩ := hw; go_simp)⟩) hS ?_
    refine wpAnyH_take (i := 6) (v := (.pointer (some ⟨w.heap.size, 0, none⟩))) rfl (by kernel_rfl) (by kernel_rfl) (by kernel_rfl) (fun _ _ _ h => h) (Or.inl ⟨by kernel_rfl, fun w' hw => by (go_simp)⟩) hS ?_
    refine wpAnyH_take (i := 7) (v := (.pointer (some ⟨b, 0, none⟩))) rfl (by kernel_rfl) (by kernel_rfl) (by kernel_rfl) (fun _ _ _ h => h) (Or.inl ⟨by kernel_rfl, fun w' hw => by (obtain ⟨z0, z1, z2⟩ := hw; go_simp)⟩) hS ?_
    refine wpAnyH_take (i := 9) (v := (.pointer (some ⟨w.heap.size, 1, none⟩))) rfl (by kernel_rfl) (by kernel_rfl) (by kernel_rfl) (fun _ _ _ h => h) (Or.inl ⟨by kernel_rfl, fun w' hw => by (go_simp)⟩) hS ?_
    refine wpAnyH_take (i := 10) (v := (.int .i64 x)) rfl (by kernel_rfl) (by kernel_rfl) (by kernel_rfl) (fun _ _ _ h => h) (Or.inl ⟨by kernel_rfl, fun w' hw => by (obtain ⟨z0, z1, z2⟩ := hw; go_simp)⟩) hS ?_
    refine wpAnyH_ready (rs := [8]) (by kernel_rfl) (by simp) ?_
    refine AllReadyH.cons rfl (fun K hK => ?_) AllReadyH.nil
    rw [if_pos (by kernel_rfl)]
    go_simp
    go_wp2_with (go_at_call 21; refine (KS.out).mono ?_; rintro e W3 ⟨rfl, hw3⟩; obtain rfl := hw3)
    refine hK.out _ _ hS (fun hS2 => ?_)
    refine wpAnyH_take (i := 11) (v := (.int .i64 ((N : Int) - x))) rfl (by kernel_rfl) (by kernel_rfl) (by kernel_rfl) (fun _ _ _ h => h) (Or.inl ⟨by kernel_rfl, fun w' hw => by (go_simp)⟩) hS2 ?_
    refine wpAnyH_take (i := 12) (v := (.bool (decide (y ≤ (N : Int) - x)))) rfl (by kernel_rfl) (by kernel_rfl) (by kernel_rfl) (fun _ _ _ h => h) (Or.inl ⟨by kernel_rfl, fun w' hw => by (go_simp)⟩) hS2 ?_
    refine wpAnyH_take (i := 13) (v := (.bool (decide (y ≤ (N : Int) - x)))) rfl (by kernel_rfl) (by kernel_rfl) (by kernel_rfl) (fun _ _ _ h => h) (Or.inl ⟨by kernel_rfl, fun w' hw => by (go_simp)⟩) hS2 ?_
    refine wpAnyH_take (i := 14) (v := (.bool (decide (y ≤ (N : Int) - x)))) rfl (by kernel_rfl) (by kernel_rfl) (by kernel_rfl) (fun _ _ _ h => h) (Or.inl ⟨by kernel_rfl, fun w' hw => by (go_simp)⟩) hS2 ?_
    refine wpAnyH_done (by kernel_rfl) ?_ _
    simp only [Act.put, List.getElem_toArray, List.getElem_cons_zero, List.getElem_cons_succ, List.setIfInBounds_toArray, List.set_cons_zero, List.set_cons_succ]
    go_wp2_with (fail)
    go_ret
    exact ⟨rfl, HA.out.drew⟩
set_option maxRecDepth 100000 in
set_option maxHeartbeats 400000 in
/-- Steps in turn, each with its own contract. -/
theorem qturn_gen (h : DevL w b L σ) (hok : σ.Ok) (ho : σ.off = false) (at_ n : Nat) (hn : 1 ≤ n) (hlen : at_ + n ≤ 64 * σ.n) (rb k : Nat) (f : Nat → Nat) (a : Nat → Array Value) (P : Nat → World → Prop) (Q : Int → World → Prop)
    (hent : ∀ j, j < k → ∀ args W, (callFunc (f j) args).run Try.prog W = .ok (.enter (f j) args) W) (hk : k ≤ 1000)
    (hrow : ∀ j W, P j W → ∀ i, i < k → W.cell? ⟨rb, i, none⟩ = some (.func (.func (f i)) (a i) #[]))
    (hstep : ∀ j, j < k → ∀ W, P j W → Calls Try.prog (f j) (a j) W fun e W' => ∃ c : Int, e = .returned (.int .i64 c) ∧ (c = 0 → P (j + 1) W') ∧ (c ≠ 0 → Q c W'))
    (h0 : ∀ W, Below w.heap.size w W → P 0 W) (hend : ∀ W, P k W → Q 0 W) :
    Calls Try.prog 48 #[.agg #[.pointer (some ⟨b, 0, none⟩), .int .i64 (at_ : Int), .int .i64 (n : Int)], .slice (some ⟨rb, 0, none⟩) k k] w fun e w' => ∃ c : Int, e = .returned (.int .i64 c) ∧ Q c w' := by
  have hp := hok.pos
  have hm := hok.max
  have hA : Below w.heap.size w (w.alloc (.cells #[.pointer (some ⟨b, 0, none⟩), .int .i64 (at_ : Int), .int .i64 (n : Int)] 103)) := (Below.refl _ w).alloc (Nat.le_refl _) _
  have kl : Calls Try.prog 15 #[.pointer (some ⟨b, 0, none⟩), .int .i64 0, .int .i64 0] (w.alloc (.cells #[.pointer (some ⟨b, 0, none⟩), .int .i64 (at_ : Int), .int .i64 (n : Int)] 103)) fun e w' => ∃ R, e = .returned (.tuple #[.slice (some ⟨R, 0, none⟩) 0 0, .int .i64 0]) ∧ Below (w.alloc (.cells #[.pointer (some ⟨b, 0, none⟩), .int .i64 (at_ : Int), .int .i64 (n : Int)] 103)).heap.size (w.alloc (.cells #[.pointer (some ⟨b, 0, none⟩), .int .i64 (at_ : Int), .int .i64 (n : Int)] 103)) w' := by
    refine (callsIn_wide.1 (pload_in (at_ := 0) (n := 0) (h.below hA) hok ho (by omega))).mono ?_
    rintro e w' ⟨R, rfl, _, _, hb⟩
    exact ⟨R, rfl, hb⟩
  have ki : ∀ W, Below w.heap.size w W → Calls Try.prog 66 #[.agg #[.pointer (some ⟨b, 0, none⟩), .int .i64 (at_ : Int), .int .i64 (n : Int)]] W fun e w' => e = .returned (.bool true) ∧ Below W.heap.size W w' := fun W hB => by
    have k := qlies_any (h.below hB) hm (at_ : Int) (n : Int) (by omega) (by omega) (by omega)
    rw [show hasB σ (at_ : Int) (n : Int) = true by unfold hasB; simp; omega] at k
    exact k
  have nI : ¬ (n : Int) < 1 := by omega
  have KL := hide kl
  have KI := hide ki
  have HA := hide hA
  have HENT := hide hent
  have HROW := hide hrow
  have HSTEP := hide hstep
  have H0 := hide h0
  have HEND := hide hend
  have HKK := hide hk
  clear h hok ho hlen hn kl ki hA hent hrow hstep h0 hend hp hm hk
  go_enter Try.func48, Try.ntmps48
  go_wp2_with (first
    | (go_at_call 15; refine (KL.out).mono ?_; rintro e W1 ⟨R, rfl, hb1⟩; obtain ⟨s0, s1, s2⟩ := st3 ((hb1.block _ (by simp)).trans (heap_alloc_new w _)); have h1 := HA.out.trans (hb1.mono HA.out.size); have KI1 := hide (KI.out W1 h1); have HB1 := hide h1; clear hb1 h1)
    | (go_at_call 66; refine (KI1.out).mono ?_; rintro e W2 ⟨rfl, hb2⟩; have HB2 := hide (HB1.out.trans (hb2.mono HB1.out.size)); clear hb2))
  go_loopw [29] (fun iv wr => ∃ j : Nat, iv = .int .i64 (j : Int) ∧ j ≤ k ∧ P j wr) (fun iv _ => (k - (intOf iv).toNat))
  case atStart => exact ⟨0, rfl, Nat.zero_le _, H0.out _ HB2.out⟩
  case round =>
    obtain ⟨j, rfl, hj, hP⟩ := hrel
    have hk1 := HKK.out
    by_cases hlt : j < k
    · have jI : (j : Int) < (k : Int) := by omega
      have cj := HROW.out j wr hP j hlt
      have en := HENT.out j hlt
      have ks := HSTEP.out j hlt wr hP
      have KS := hide ks
      clear ks hP
      go_wp2_with (refine (KS.out).mono ?_; rintro e W3 ⟨c, rfl, hc0, hc1⟩; have HC0 := hide hc0; have HC1 := hide hc1; clear hc0 hc1)
      · rename_i hc
        go_ret
        exact ⟨c, rfl, HC1.out (by simpa using hc)⟩
      · rename_i hc
        exact ⟨⟨j + 1, int_congrP (by omega), by omega, HC0.out (by simpa using hc)⟩, by simp [intOf]; omega⟩
    · obtain rfl : j = k := by omega
      have HP := hide hP
      clear hP
      go_wp2
      go_ret
      exact ⟨0, rfl, HEND.out _ HP.out⟩
end
end Go.Proofs.Ytafmpdljljmddaa
namespace Go.Proofs.Ytafmpdljljmddaa
open Go.RowKit Go.Shelf
set_option linter.unusedVariables false

section
variable {w : World} {b : Nat} {L : Lay} {σ : St}
/-- No steps are taken: the device is none, or is off, or there are no bytes. -/
theorem qturn_early (p : Value) (c : Int) (x y : Int) (sl : Value) (kl : ∀ W, Below w.heap.size w W → Calls Try.prog 15 #[p, .int .i64 0, .int .i64 0] W fun e w' => ∃ v, e = .returned (.tuple #[v, .int .i64 c]) ∧ Below W.heap.size W w') (hc : c ≠ 0 ∨ y < 1) :
    Calls Try.prog 48 #[.agg #[p, .int .i64 x, .int .i64 y], sl] w fun e w' => e = .returned (.int .i64 c) ∧ Below w.heap.size w w' := by
  have hA : Below w.heap.size w (w.alloc (.cells #[p, .int .i64 x, .int .i64 y] 103)) := (Below.refl _ w).alloc (Nat.le_refl _) _
  have KL := hide (kl _ hA)
  have HA := hide hA
  clear kl hA
  by_cases h0 : c = 0
  · have h1 : y < 1 := by omega
    subst h0
    clear hc
    go_enter Try.func48, Try.ntmps48
    go_wp2_with (go_at_call 15; refine (KL.out).mono ?_; rintro e W1 ⟨v, rfl, hb1⟩; obtain ⟨s0, s1, s2⟩ := st3 ((hb1.block _ (by simp)).trans (heap_alloc_new w _)); have HB1 := hide (HA.out.trans (hb1.mono HA.out.size)); clear hb1)
    go_ret
    exact ⟨rfl, HB1.out⟩
  · have h1 : (c != 0) = true := by simpa using h0
    have HC := hide h0
    clear hc h0
    go_enter Try.func48, Try.ntmps48
    go_wp2_with (go_at_call 15; refine (KL.out).mono ?_; rintro e W1 ⟨v, rfl, hb1⟩; obtain ⟨s0, s1, s2⟩ := st3 ((hb1.block _ (by simp)).trans (heap_alloc_new w _)); have HB1 := hide (HA.out.trans (hb1.mono HA.out.size)); clear hb1)
    go_ret
    exact ⟨rfl, HB1.out⟩
/-- A device behind a step: what it is, where it lies. -/
def Atd (W0 : World) (b : Nat) (L : Lay) (σ : St) (W : World) (σ' : St) (m : Nat) : Prop :=
  Gr (Foot b L σ) W0 W ∧ ∃ L', DevL W b L' σ' ∧ (∀ k, Foot b L' σ' k → Foot b L σ k ∨ W0.heap.size ≤ k) ∧ L'.N ≤ L.N + m
theorem Atd.start {W0 W : World} (h : DevL W0 b L σ) (hB : Below W0.heap.size W0 W) : Atd W0 b L σ W σ 0 := ⟨Gr.of_below hB, L, h.below hB, fun k hk => .inl hk, by omega⟩
theorem Atd.go {W0 W W' : World} {L' : Lay} {σ' σ2 : St} {m m2 : Nat} (h : Gr (Foot b L σ) W0 W) (hf : ∀ k, Foot b L' σ' k → Foot b L σ k ∨ W0.heap.size ≤ k) (hN : L'.N ≤ L.N + m) {L2 : Lay} (hd : DevL W' b L2 σ2) (hf2 : ∀ k, Foot b L2 σ2 k → Foot b L' σ' k ∨ W.heap.size ≤ k) (hg : Gr (Foot b L' σ') W W') (hN2 : L2.N ≤ L'.N + m2) : Atd W0 b L σ W' σ2 (m + m2) :=
  ⟨h.trans hg hf, L2, hd, fun k hk => (hf2 k hk).elim (hf k) (fun h1 => .inr (Nat.le_trans h.size h1)), by omega⟩
theorem st4 {W : World} {g : Nat} {p v : Value} {x y : Int} {t : TypeId} (h : W.heap[g]? = some (.cells #[p, .int .i64 x, .int .i64 y, v] t (0, 0))) :
    W.cell? ⟨g, 0, none⟩ = some p ∧ W.cell? ⟨g, 1, none⟩ = some (.int .i64 x) ∧ W.cell? ⟨g, 2, none⟩ = some (.int .i64 y) ∧ W.cell? ⟨g, 3, none⟩ = some v := ⟨cell8 h 0, cell8 h 1, cell8 h 2, cell8 h 3⟩
end
end Go.Proofs.Ytafmpdljljmddaa
namespace Go.Proofs.Ytafmpdljljmddaa
open Go.RowKit Go.Shelf
set_option linter.unusedVariables false

/-- What Bytes makes of a device. -/
def bytesDo (bs : List Nat) (at_ : Nat) (σ : St) : St := fenceDo (linesDo (writeDo bs at_ σ (wordsOf at_ bs.length)) (linesOf at_ bs.length))
theorem linesOf_len {at_ n : Nat} (h : at_ + n ≤ 4194304) : (linesOf at_ n).length ≤ 65537 := by
  unfold linesOf unitsV
  rw [List.length_map]
  split
  · simp
  · rw [upto_length]
    omega
theorem Atd.base {w W0 W : World} {b : Nat} {L : Lay} {σ σ' : St} {m : Nat} (h : Atd W0 b L σ W σ' m) (hB : Below w.heap.size w W0) : Atd w b L σ W σ' m := by
  obtain ⟨hg, L', hd, hf, hN⟩ := h
  exact ⟨(Gr.of_below hB).trans hg (fun i h => .inl h), L', hd, fun k hk => (hf k hk).imp id (fun h => Nat.le_trans hB.size h), hN⟩
section
variable {w : World} {b : Nat} {L : Lay} {σ : St}
def byA (b at_ n cap : Nat) (a : Option Addr) (j : Nat) : Array Value := if j = 0 then #[.agg #[.pointer (some ⟨b, 0, none⟩), .int .i64 (at_ : Int), .int .i64 (n : Int), .slice a n cap]] else if j = 1 then #[.agg #[.pointer (some ⟨b, 0, none⟩), .int .i64 (at_ : Int), .int .i64 (n : Int)]] else #[.pointer (some ⟨b, 0, none⟩)]
def byS (bs : List Nat) (at_ : Nat) (σ : St) (j : Nat) : St := if j = 0 then σ else if j = 1 then writeDo bs at_ σ (wordsOf at_ bs.length) else if j = 2 then linesDo (writeDo bs at_ σ (wordsOf at_ bs.length)) (linesOf at_ bs.length) else bytesDo bs at_ σ
def byM (at_ n j : Nat) : Nat := if j = 0 then 0 else if j = 1 then (wordsOf at_ n).length else (wordsOf at_ n).length + (linesOf at_ n).length
theorem three {j : Nat} (h : j < 3) : j = 0 ∨ j = 1 ∨ j = 2 := by omega
end
end Go.Proofs.Ytafmpdljljmddaa
namespace Go.Proofs.Ytafmpdljljmddaa
open Go.RowKit Go.Shelf
set_option linter.unusedVariables false

section
variable {w : World} {b : Nat} {L : Lay} {σ : St}
theorem qwstore_any (v at_ : Nat) (h : DevL w b L σ) (hok : σ.Ok) (ho : σ.off = false) (hN : L.N ≤ σ.ops) (harm : σ.arms = []) (hops : σ.ops + 600000 ≤ 1400000000000) (hat : at_ % 8 = 0) (hlen : at_ + 8 ≤ 64 * σ.n) (hv : v < 18446744073709551616) :
    Calls Try.prog 67 #[.agg #[.pointer (some ⟨b, 0, none⟩), .int .i64 (at_ : Int), .int .i64 8, .int .u64 (v : Int)]] w fun e w' => e = .returned (.int .i64 0) ∧ ∃ L', DevL w' b L' (writeDo (leB 8 v) at_ σ (wordsOf at_ 8)) ∧ (∀ k, Foot b L' (writeDo (leB 8 v) at_ σ (wordsOf at_ 8)) k → Foot b L σ k ∨ w.heap.size ≤ k) ∧ Gr (Foot b L σ) w w' ∧ L'.N ≤ L.N + (wordsOf at_ 8).length := by
  have hA : Below w.heap.size w (w.alloc (.cells #[.pointer (some ⟨b, 0, none⟩), .int .i64 (at_ : Int), .int .i64 8, .int .u64 (v : Int)] 127)) := (Below.refl _ w).alloc (Nat.le_refl _) _
  have ks := pst8_any (at_ := at_) v (h.below hA) hok ho hN harm hops hat hlen hv
  have KS := hide ks
  have HA := hide hA
  clear h hok ho hN harm hops hlen ks hA hat hv
  go_enter Try.func67, Try.ntmps67
  go_wp2_with (go_at_call 79; refine (KS.out).mono ?_; rintro e W1 ⟨rfl, L5, hd5, hf5, hg5, hN5, _⟩; have HR := hide (And.intro hd5 (And.intro hf5 (And.intro hg5 hN5))); clear hd5 hf5 hg5 hN5)
  go_ret
  obtain ⟨h1, h2, h3, h4⟩ := HR.out
  exact ⟨rfl, L5, h1, fun k hk => (h2 k hk).imp id (fun h => Nat.le_trans HA.out.size h), (Gr.of_below HA.out).trans h3 (fun i h => .inl h), h4⟩
/-- The three steps of Publish. -/
def wbF (j : Nat) : Nat := if j = 0 then 67 else if j = 1 then 49 else 37
def wbA (b at_ v : Nat) (j : Nat) : Array Value := if j = 0 then #[.agg #[.pointer (some ⟨b, 0, none⟩), .int .i64 (at_ : Int), .int .i64 8, .int .u64 (v : Int)]] else if j = 1 then #[.agg #[.pointer (some ⟨b, 0, none⟩), .int .i64 (at_ : Int), .int .i64 8]] else #[.pointer (some ⟨b, 0, none⟩)]
def wbS (v at_ : Nat) (σ : St) (j : Nat) : St := if j = 0 then σ else if j = 1 then writeDo (leB 8 v) at_ σ (wordsOf at_ 8) else if j = 2 then linesDo (writeDo (leB 8 v) at_ σ (wordsOf at_ 8)) (linesOf at_ 8) else bytesDo (leB 8 v) at_ σ
def wbM (at_ n j : Nat) : Nat := if j = 0 then 0 else if j = 1 then (wordsOf at_ n).length else (wordsOf at_ n).length + (linesOf at_ n).length
set_option maxRecDepth 100000 in
set_option maxHeartbeats 400000 in
theorem qpub_turn (v at_ rb : Nat) (W0 : World) (hB0 : Below w.heap.size w W0) (h : DevL w b L σ) (hok : σ.Ok) (ho : σ.off = false) (hN : L.N ≤ σ.ops) (harm : σ.arms = []) (hops : σ.ops + 2000000 ≤ 1400000000000) (hv : v < 18446744073709551616) (hat : at_ % 8 = 0) (hlen : at_ + 8 ≤ 64 * σ.n)
    (hrb : w.heap.size ≤ rb) (hrow : W0.heap[rb]? = some (.cells #[.func (.func (wbF 0)) (wbA b at_ v 0) #[], .func (.func (wbF 1)) (wbA b at_ v 1) #[], .func (.func (wbF 2)) (wbA b at_ v 2) #[]] 125 (0, 0))) :
    Calls Try.prog 48 #[.agg #[.pointer (some ⟨b, 0, none⟩), .int .i64 (at_ : Int), .int .i64 8], .slice (some ⟨rb, 0, none⟩) 3 3] W0 fun e w' => e = .returned (.int .i64 0) ∧ Atd W0 b L σ w' (bytesDo (leB 8 v) at_ σ) ((wordsOf at_ 8).length + (linesOf at_ 8).length) := by
  have hm := hok.max
  have hlen2 : at_ + 8 ≤ 4194304 := by omega
  have hwl := wordsOf_len hlen2
  have hll := linesOf_len hlen2
  have hlk := write_like (at_ := at_) (leB_lt 8 v) (wordsOf at_ 8) σ hok (wordsOf_lt hlen hm) (by omega)
  obtain ⟨j1, j2, j3, j4, j5, _⟩ := lines_like (linesOf at_ 8) (writeDo (leB 8 v) at_ σ (wordsOf at_ 8)) hlk.ok (by rw [hlk.ops]; omega)
  rw [hlk.ops] at j3
  have hd0 := h.below hB0
  have hnf : ¬ Foot b L σ rb := fun hf => by have := h.foot_is hf; omega
  have hrl := lt_of_heap hrow
  refine (qturn_gen hd0 hok ho at_ 8 (by omega) hlen rb 3 wbF (wbA b at_ v) (fun j W => Atd W0 b L σ W (wbS v at_ σ j) (wbM at_ 8 j)) (fun c W => c = 0 ∧ Atd W0 b L σ W (bytesDo (leB 8 v) at_ σ) ((wordsOf at_ 8).length + (linesOf at_ 8).length)) (fun j hj => ?_) (by omega) (fun j W hP i hi => ?_) (fun j hj W hP => ?_) (fun W hB => Atd.start hd0 hB) (fun W hP => ⟨rfl, hP⟩)).mono ?_
  · obtain rfl | rfl | rfl := three hj
    · exact enters_of Try.func67 (by kernel_rfl) rfl
    · exact enters_of Try.func49 (by kernel_rfl) rfl
    · exact enters_of Try.func37 (by kernel_rfl) rfl
  · have hr := (hP.1.block hrl hnf).trans hrow
    obtain rfl | rfl | rfl := three hi
    · exact cell8 hr 0
    · exact cell8 hr 1
    · exact cell8 hr 2
  · obtain ⟨hg, L', hd, hf, hN'⟩ := hP
    obtain rfl | rfl | rfl := three hj
    · refine (qwstore_any v at_ hd hok ho (show L'.N ≤ σ.ops by have : L'.N ≤ L.N + 0 := hN'; omega) harm (by show σ.ops + _ ≤ _; omega) hat hlen hv).mono ?_
      rintro e W' ⟨rfl, L2, h1, h2, h3, h4⟩
      exact ⟨0, rfl, fun _ => by have h5 := Atd.go hg hf hN' h1 h2 h3 h4; exact ⟨h5.1, by obtain ⟨L5, q1, q2, q3⟩ := h5.2; exact ⟨L5, q1, q2, by show L5.N ≤ L.N + (wordsOf at_ 8).length; have : L5.N ≤ L.N + (0 + (wordsOf at_ 8).length) := q3; omega⟩⟩, fun h => absurd rfl h⟩
    · have hN2 : L'.N ≤ L.N + (wordsOf at_ 8).length := hN'
      have hd2 : DevL W b L' (writeDo (leB 8 v) at_ σ (wordsOf at_ 8)) := hd
      refine (callsIn_wide.1 (qflush_in (at_ := at_) (n := 8) hd2 hlk.ok (hlk.off.trans ho) (by rw [hlk.ops]; omega) (hlk.arms.trans harm) (by rw [hlk.n]; exact hlen) (by rw [hlk.ops]; omega))).mono ?_
      rintro e W' ⟨rfl, L2, h1, h2, h3, h4, _⟩
      exact ⟨0, rfl, fun _ => Atd.go hg hf hN' h1 (fun k hk => .inl (h2 k hk)) h3 h4, fun h => absurd rfl h⟩
    · have hd2 : DevL W b L' (linesDo (writeDo (leB 8 v) at_ σ (wordsOf at_ 8)) (linesOf at_ 8)) := hd
      refine (pfence_any hd2 j1 (j5.trans (hlk.off.trans ho)) (j4.trans (hlk.arms.trans harm)) (by rw [j3]; omega)).mono ?_
      rintro e W' ⟨rfl, L2, h1, h2, h3, h4⟩
      exact ⟨0, rfl, fun _ => Atd.go (m2 := 0) hg hf hN' h1 h2 h3 (by omega), fun h => absurd rfl h⟩
  · rintro e w' ⟨c, rfl, rfl, hA⟩
    exact ⟨rfl, hA⟩
set_option maxRecDepth 100000 in
set_option maxHeartbeats 400000 in
theorem qpub_any (v at_ : Nat) (h : DevL w b L σ) (hok : σ.Ok) (ho : σ.off = false) (hN : L.N ≤ σ.ops) (harm : σ.arms = []) (hops : σ.ops + 2000000 ≤ 1400000000000) (hv : v < 18446744073709551616) (hat : at_ % 8 = 0) (hlen : at_ + 8 ≤ 64 * σ.n) :
    Calls Try.prog 50 #[.pointer (some ⟨b, 0, none⟩), .int .i64 (at_ : Int), .int .u64 (v : Int)] w fun e w' => e = .returned (.int .i64 0) ∧ Atd w b L σ w' (bytesDo (leB 8 v) at_ σ) ((wordsOf at_ 8).length + (linesOf at_ 8).length) := by
  obtain ⟨W0, hW0⟩ : ∃ W0, (w.alloc (.cells #[.pointer (some ⟨b, 0, none⟩), .int .i64 (at_ : Int), .int .i64 8] 103)).alloc (.cells #[.func (.func 67) #[.agg #[.pointer (some ⟨b, 0, none⟩), .int .i64 (at_ : Int), .int .i64 8, .int .u64 (v : Int)]] #[], .func (.func 49) #[.agg #[.pointer (some ⟨b, 0, none⟩), .int .i64 (at_ : Int), .int .i64 8]] #[], .func (.func 37) #[.pointer (some ⟨b, 0, none⟩)] #[]] 125) = W0 := ⟨_, rfl⟩
  have hB0 : Below w.heap.size w W0 := by rw [← hW0]; exact ((Below.refl _ w).alloc (Nat.le_refl _) _).alloc (by simp) _
  have hrow : W0.heap[w.heap.size + 1]? = some (.cells #[.func (.func (wbF 0)) (wbA b at_ v 0) #[], .func (.func (wbF 1)) (wbA b at_ v 1) #[], .func (.func (wbF 2)) (wbA b at_ v 2) #[]] 125 (0, 0)) := by
    rw [← hW0]
    have := heap_alloc_new (w.alloc (.cells #[.pointer (some ⟨b, 0, none⟩), .int .i64 (at_ : Int), .int .i64 8] 103)) (.cells #[.func (.func 67) #[.agg #[.pointer (some ⟨b, 0, none⟩), .int .i64 (at_ : Int), .int .i64 8, .int .u64 (v : Int)]] #[], .func (.func 49) #[.agg #[.pointer (some ⟨b, 0, none⟩), .int .i64 (at_ : Int), .int .i64 8]] #[], .func (.func 37) #[.pointer (some ⟨b, 0, none⟩)] #[]] 125)
    rw [World.size_alloc] at this
    exact this
  have kt := qpub_turn v at_ (w.heap.size + 1) W0 hB0 h hok ho hN harm hops hv hat hlen (by omega) hrow
  rw [← hW0] at kt
  have KT := hide kt
  have HB0 := hide hB0
  have HW0 := hide hW0
  clear h hok ho hN harm hops hlen kt hB0 hrow hW0 hat hv
  go_enter Try.func50, Try.ntmps50
  go_wp2_with (go_at_call 48; refine (KT.out).mono ?_; rintro e W1 ⟨rfl, hA⟩; have HAT := hide hA; clear hA)
  go_ret
  refine ⟨rfl, ?_⟩
  have h5 := HAT.out
  rw [HW0.out] at h5
  exact h5.base HB0.out
end
end Go.Proofs.Ytafmpdljljmddaa
namespace Go.Proofs.Ytafmpdljljmddaa
open Go.RowKit Go.Shelf
set_option linter.unusedVariables false

theorem infoArm : ∃ i, Try.prog.info? 132 = some i ∧ i.zero = some (.agg #[.int .i64 0, .slice none 0 0]) ∧ i.size = 2 := by
  have h : (Try.prog.info? 132).map (fun i => (i.zero, i.size)) = some (some (.agg #[.int .i64 0, .slice none 0 0]), 2) := by kernel_rfl
  obtain ⟨i, h1, h2⟩ := Option.map_eq_some_iff.1 h
  simp only [Prod.mk.injEq] at h2
  exact ⟨i, h1, h2.1, h2.2⟩
theorem armSlice : Try.prog.underlying 24 = some (.slice 132) := by kernel_rfl
theorem cut_front (g cap : Nat) (w : World) : (Instr.sliceAt 24 (.slice (some ⟨g, 0, none⟩) 1 cap) none (some (.int .i64 0)) none).run Try.prog w = .ok (.slice (some ⟨g, 0, none⟩) 0 cap) w := by
  obtain ⟨i, h1, h2, h3⟩ := infoArm
  simp [Instr.sliceAt, Instr.slice, Sem.run_bind, run_underlying armSlice, Instr.sliceBounds, Instr.sliceBound, asIntOf, sizeOf, typeInfo, h1, Addr.add_mid]
theorem cut_back (g cap : Nat) (hc : 1 ≤ cap) : ∃ ad : Addr, ∀ w : World, (Instr.sliceAt 24 (.slice (some ⟨g, 0, none⟩) 1 cap) (some (.int .i64 1)) none none).run Try.prog w = .ok (.slice (some ad) 0 (cap - 1)) w := by
  obtain ⟨i, h1, h2, h3⟩ := infoArm
  by_cases h : cap = 1
  · subst h
    refine ⟨⟨g, 0, none⟩, fun w => ?_⟩
    simp [Instr.sliceAt, Instr.slice, Sem.run_bind, run_underlying armSlice, Instr.sliceBounds, Instr.sliceBound, asIntOf, sizeOf, typeInfo, h1, Addr.add_mid]
  · refine ⟨⟨g, 2, none⟩, fun w => ?_⟩
    simp [Instr.sliceAt, Instr.slice, Sem.run_bind, run_underlying armSlice, Instr.sliceBounds, Instr.sliceBound, asIntOf, sizeOf, typeInfo, h1, h3, Addr.add_mid, h]
theorem app_none (g cap : Nat) (ad : Addr) (ty : TypeId) (w : World) : (Builtin.append_ #[24, 24] ty #[.slice (some ⟨g, 0, none⟩) 0 cap, .slice (some ad) 0 (cap - 1)]).run Try.prog w = .ok (.slice (some ⟨g, 0, none⟩) 0 cap) w := by
  obtain ⟨i, h1, h2, h3⟩ := infoArm
  have h := run_append_room_cells (P := Try.prog) w 24 ty 132 i armSlice h1 g 0 0 cap ad 0 (cap - 1) [] (by simp) (by simp) (by simp) (by omega) (by simp) (by simp)
  exact h
theorem clear_one (g cap : Nat) (ty : TypeId) (w : World) (cur : Array Value) (hg : w.heap[g]? = some (.cells cur 132 (0, 0))) (hs : 2 ≤ cur.size) : (Builtin.clear_ #[24] ty #[.slice (some ⟨g, 0, none⟩) 1 cap]).run Try.prog w = .ok (.tuple #[]) (w.setCells g 0 [.int .i64 0, .slice none 0 0]) := by
  obtain ⟨i, h1, h2, h3⟩ := infoArm
  have hz : ∀ w : World, (zeroValue 132).run Try.prog w = .ok (.agg #[.int .i64 0, .slice none 0 0]) w := fun w => by simp [zeroValue, typeInfo, h1, h2]
  have hst := run_storeCells_cells (P := Try.prog) g 0 [.int .i64 0, .slice none 0 0] 0 w (fun j hj => by rw [Nat.zero_add, cell8 hg, Array.getElem?_eq_getElem (by simp at hj; omega)]; rfl) (fun j hj => froz8 hg _) (by simp [Value.oneCell'])
  have e : (Builtin.zeroCells (Value.agg #[Value.int .i64 0, Value.slice none 0 0]).cells 1).toList = [Value.int .i64 0, Value.slice none 0 0] := by kernel_rfl
  have hst' : (storeCells ⟨g, 0, none⟩ [Value.int .i64 0, Value.slice none 0 0]).run Try.prog w = .ok () (w.setCells g 0 [.int .i64 0, .slice none 0 0]) := by simpa using hst
  simp [Builtin.clear_, run_underlying armSlice, hz, e, hst']
set_option maxHeartbeats 400000 in
theorem pdel_one (w : World) (g cap : Nat) (cur : Array Value) (hg : w.heap[g]? = some (.cells cur 132 (0, 0))) (hc : 1 ≤ cap) (hs : 2 ≤ cur.size) :
    Calls Try.prog 70 #[.slice (some ⟨g, 0, none⟩) 1 cap, .int .i64 0, .int .i64 1] w fun e w' => e = .returned (.slice (some ⟨g, 0, none⟩) 0 cap) ∧ Gr (fun k => k = g) w w' ∧ ∃ cur' : Array Value, w'.heap[g]? = some (.cells cur' 132 (0, 0)) ∧ cur'.size = cur.size := by
  obtain ⟨ad, e2⟩ := cut_back g cap hc
  have e1 := fun W => cut_front g cap W
  have e3 := fun W => app_none g cap ad 24 W
  have e4 := clear_one g cap 0 w.drew cur hg hs
  have fin : Gr (fun k => k = g) w (w.drew.setCells g 0 [.int .i64 0, .slice none 0 0]) ∧ ∃ cur' : Array Value, (w.drew.setCells g 0 [.int .i64 0, .slice none 0 0]).heap[g]? = some (.cells cur' 132 (0, 0)) ∧ cur'.size = cur.size := by
    refine ⟨Gr.setCells w.drew g _ _ rfl, ?_⟩
    have h1 : w.drew.heap[g]? = some (.cells cur.toList.toArray 132 (0, 0)) := by show w.heap[g]? = _; simpa using hg
    have h5 := heap_setCells g 132 [.int .i64 0, .slice none 0 0] 0 w.drew cur.toList h1 (by simp; omega)
    refine ⟨_, h5, ?_⟩
    rw [List.size_toArray, length_splice _ _ _ (by simp; omega)]
    simp
  have FIN := hide fin
  clear fin hg hs
  go_enter Try.func70, Try.ntmps70
  go_wp2_with (fail)
  refine wp_region_held_drew (S := fun _ => True) (by kernel_rfl) trivial (fun hS => ?_)
  refine wpAnyH_take (i := 0) (v := (.slice (some ⟨g, 0, none⟩) 1 cap)) rfl (by kernel_rfl) (by kernel_rfl) (by kernel_rfl) (fun _ _ _ h => h) (Or.inl ⟨by kernel_rfl, fun w' hw => by (go_simp)⟩) hS ?_
  refine wpAnyH_take (i := 1) (v := (.int .i64 0)) rfl (by kernel_rfl) (by kernel_rfl) (by kernel_rfl) (fun _ _ _ h => h) (Or.inl ⟨by kernel_rfl, fun w' hw => by (go_simp)⟩) hS ?_
  refine wpAnyH_take (i := 2) (v := (.slice (some ⟨g, 0, none⟩) 0 cap)) rfl (by kernel_rfl) (by kernel_rfl) (by kernel_rfl) (fun _ _ _ h => h) (Or.inl ⟨by kernel_rfl, fun w' hw => by (have e := e1 w'; go_simp)⟩) hS ?_
  refine wpAnyH_take (i := 3) (v := (.slice (some ⟨g, 0, none⟩) 1 cap)) rfl (by kernel_rfl) (by kernel_rfl) (by kernel_rfl) (fun _ _ _ h => h) (Or.inl ⟨by kernel_rfl, fun w' hw => by (go_simp)⟩) hS ?_
  refine wpAnyH_take (i := 4) (v := (.int .i64 1)) rfl (by kernel_rfl) (by kernel_rfl) (by kernel_rfl) (fun _ _ _ h => h) (Or.inl ⟨by kernel_rfl, fun w' hw => by (go_simp)⟩) hS ?_
  refine wpAnyH_take (i := 5) (v := (.slice (some ad) 0 (cap - 1))) rfl (by kernel_rfl) (by kernel_rfl) (by kernel_rfl) (fun _ _ _ h => h) (Or.inl ⟨by kernel_rfl, fun w' hw => by (have e := e2 w'; go_simp)⟩) hS ?_
  refine wpAnyH_take (i := 6) (v := (.slice (some ⟨g, 0, none⟩) 0 cap)) rfl (by kernel_rfl) (by kernel_rfl) (by kernel_rfl) (fun _ _ _ h => h) (Or.inl ⟨by kernel_rfl, fun w' hw => by (have e := e3 w'; go_simp)⟩) hS ?_
  refine wpAnyH_take (i := 7) (v := (.slice (some ⟨g, 0, none⟩) 0 cap)) rfl (by kernel_rfl) (by kernel_rfl) (by kernel_rfl) (fun _ _ _ h => h) (Or.inl ⟨by kernel_rfl, fun w' hw => by (go_simp)⟩) hS ?_
  refine wpAnyH_done (by kernel_rfl) ?_ _
  simp only [Act.put, List.getElem_toArray, List.getElem_cons_zero, List.getElem_cons_succ, List.setIfInBounds_toArray, List.set_cons_zero, List.set_cons_succ]
  go_wp2_with (fail)
  go_ret
  exact ⟨rfl, FIN.out⟩
end Go.Proofs.Ytafmpdljljmddaa
namespace Go.Proofs.Ytafmpdljljmddaa
open Go.RowKit Go.Shelf
set_option linter.unusedVariables false

section
variable {w : World} {b : Nat} {L : Lay} {σ : St}
/-- Where the first loss that waits lies. -/
theorem arm_first {af : Nat} {kp : List Nat} {rest : List (Nat × List Nat)} (h : DevL w b L σ) (harm : σ.arms = (af, kp) :: rest) :
    ∃ g cap kv, L.av = .slice (some ⟨g, 0, none⟩) σ.arms.length cap ∧ 0 < σ.arms.length ∧ ∃ cur : Array Value, w.heap[g]? = some (.cells cur 132 (0, 0)) ∧ cur[0]? = some (.int .i64 (af : Int)) ∧ cur[1]? = some kv ∧ KeepAt w L.KB kv kp := by
  obtain ⟨ks, hl, ho, hk⟩ := h.arms
  rw [harm] at hl ho hk
  rw [harm]
  match ks, hl with
  | k0 :: ks', hl =>
    rcases ho.2 with ⟨e, h0⟩ | ⟨g, cap, cur, e, h1, h2, h3, h4, h5, h6⟩
    · simp at h0
    · refine ⟨g, cap, k0, e, by simp, cur, h2, ?_, ?_, hk 0 k0 (af, kp) rfl rfl⟩
      · have h7 : (cur.toList.take (((af, kp) :: rest).length * 2))[0]? = some (.int .i64 (af : Int)) := by rw [h6]; rfl
        rw [List.getElem?_take, if_pos (by simp)] at h7
        simpa using h7
      · have h7 : (cur.toList.take (((af, kp) :: rest).length * 2))[1]? = some k0 := by rw [h6]; rfl
        rw [List.getElem?_take, if_pos (by simp; omega)] at h7
        simpa using h7
theorem index_arm (g len cap : Nat) (hi : 0 < len) (w : World) : (Instr.indexAt 24 (.slice (some ⟨g, 0, none⟩) len cap) (.int .i64 0)).run Try.prog w = .ok (.pointer (some ⟨g, 0, none⟩)) w := by
  have h := index_at (t := 24) (e := 132) (sz := 2) armSlice (by kernel_rfl) g 0 0 len cap hi w
  rwa [Nat.zero_add, Nat.zero_mul] at h
set_option maxRecDepth 100000 in
set_option maxHeartbeats 400000 in
/-- One operation more; the loss still waits. -/
theorem poper_wait {af : Nat} {kp : List Nat} (h : DevL w b L σ) (hops : σ.ops < 1400000000000) (harm : σ.arms = [(af, kp)]) (hc : σ.cnt + 1 < af) (hcn : σ.cnt < 1400000000000) :
    Calls Try.prog 54 #[.pointer (some ⟨b, 0, none⟩)] w fun e w' => e = .returned (.int .i64 0) ∧ DevL w' b L { σ with ops := σ.ops + 1, cnt := σ.cnt + 1 } ∧ Gr (fun k => k = b) w w' := by
  obtain ⟨g, cap, kv, hav, hn1, cur, hgc, hc0, hc1, hke⟩ := arm_first (rest := []) h harm
  have hal : σ.arms.length = 1 := by rw [harm]; rfl
  rw [hal] at hav hn1
  have hgb : g ≠ b := ne_ty hgc h.dev (by decide)
  have c4 := h.c4
  have c5 := h.c5
  rw [hav] at c5
  have c6 := h.c6
  have f4 := h.fz 4
  have f6 := h.fz 6
  have f5 := h.fz 5
  have hb1 : (w.setCell ⟨b, 4, none⟩ (.int .i64 ((σ.ops : Int) + 1))).heap[b]? = _ := heap_set1 w b 4 _ _ _ h.dev
  have d5 : (w.setCell ⟨b, 4, none⟩ (.int .i64 ((σ.ops : Int) + 1))).cell? ⟨b, 5, none⟩ = some (.slice (some ⟨g, 0, none⟩) 1 cap) := by rw [cell8 hb1, ← hav]; rfl
  have d6 : (w.setCell ⟨b, 4, none⟩ (.int .i64 ((σ.ops : Int) + 1))).cell? ⟨b, 6, none⟩ = some (.int .i64 (σ.cnt : Int)) := by rw [cell8 hb1]; rfl
  have g6 : (w.setCell ⟨b, 4, none⟩ (.int .i64 ((σ.ops : Int) + 1))).frozen? ⟨b, 6, none⟩ = false := froz8 hb1 6
  have hb2 := heap_set1 (w.setCell ⟨b, 4, none⟩ (.int .i64 ((σ.ops : Int) + 1))) b 6 _ _ (.int .i64 ((σ.cnt : Int) + 1)) hb1
  have i5 : ((w.setCell ⟨b, 4, none⟩ (.int .i64 ((σ.ops : Int) + 1))).setCell ⟨b, 6, none⟩ (.int .i64 ((σ.cnt : Int) + 1))).cell? ⟨b, 5, none⟩ = some (.slice (some ⟨g, 0, none⟩) 1 cap) := by rw [cell8 hb2, ← hav]; rfl
  have hg2 : ((w.setCell ⟨b, 4, none⟩ (.int .i64 ((σ.ops : Int) + 1))).setCell ⟨b, 6, none⟩ (.int .i64 ((σ.cnt : Int) + 1))).heap[g]? = some (.cells cur 132 (0, 0)) := ((heap_set_ne _ b 6 g _ hgb).trans (heap_set_ne w b 4 g _ hgb)).trans hgc
  have j0 : ((w.setCell ⟨b, 4, none⟩ (.int .i64 ((σ.ops : Int) + 1))).setCell ⟨b, 6, none⟩ (.int .i64 ((σ.cnt : Int) + 1))).cell? ⟨g, 0, none⟩ = some (.int .i64 (af : Int)) := (cell8 hg2 0).trans hc0
  have j1 : ((w.setCell ⟨b, 4, none⟩ (.int .i64 ((σ.ops : Int) + 1))).setCell ⟨b, 6, none⟩ (.int .i64 ((σ.cnt : Int) + 1))).cell? ⟨g, 1, none⟩ = some kv := (cell8 hg2 1).trans hc1
  have hsz : ((w.setCell ⟨b, 4, none⟩ (.int .i64 ((σ.ops : Int) + 1))).setCell ⟨b, 6, none⟩ (.int .i64 ((σ.cnt : Int) + 1))).heap.size = w.heap.size := by simp
  have hAX : Below ((w.setCell ⟨b, 4, none⟩ (.int .i64 ((σ.ops : Int) + 1))).setCell ⟨b, 6, none⟩ (.int .i64 ((σ.cnt : Int) + 1))).heap.size ((w.setCell ⟨b, 4, none⟩ (.int .i64 ((σ.ops : Int) + 1))).setCell ⟨b, 6, none⟩ (.int .i64 ((σ.cnt : Int) + 1))) (((w.setCell ⟨b, 4, none⟩ (.int .i64 ((σ.ops : Int) + 1))).setCell ⟨b, 6, none⟩ (.int .i64 ((σ.cnt : Int) + 1))).alloc (.cells #[.int .i64 (af : Int), kv] 132)) := (Below.refl _ _).alloc (Nat.le_refl _) _
  have hbX : (((w.setCell ⟨b, 4, none⟩ (.int .i64 ((σ.ops : Int) + 1))).setCell ⟨b, 6, none⟩ (.int .i64 ((σ.cnt : Int) + 1))).alloc (.cells #[.int .i64 (af : Int), kv] 132)).heap[b]? = _ := (hAX.block b (by rw [hsz]; exact h.lt)).trans hb2
  have hgX : (((w.setCell ⟨b, 4, none⟩ (.int .i64 ((σ.ops : Int) + 1))).setCell ⟨b, 6, none⟩ (.int .i64 ((σ.cnt : Int) + 1))).alloc (.cells #[.int .i64 (af : Int), kv] 132)).heap[g]? = some (.cells cur 132 (0, 0)) := (hAX.block g (by rw [hsz]; exact lt_of_heap hgc)).trans hg2
  have hfX : (((w.setCell ⟨b, 4, none⟩ (.int .i64 ((σ.ops : Int) + 1))).setCell ⟨b, 6, none⟩ (.int .i64 ((σ.cnt : Int) + 1))).alloc (.cells #[.int .i64 (af : Int), kv] 132)).heap[w.heap.size]? = some (.cells #[.int .i64 (af : Int), kv] 132 (0, 0)) := by
    have := heap_alloc_new ((w.setCell ⟨b, 4, none⟩ (.int .i64 ((σ.ops : Int) + 1))).setCell ⟨b, 6, none⟩ (.int .i64 ((σ.cnt : Int) + 1))) (.cells #[.int .i64 (af : Int), kv] 132)
    rwa [hsz] at this
  have sx : (((w.setCell ⟨b, 4, none⟩ (.int .i64 ((σ.ops : Int) + 1))).setCell ⟨b, 6, none⟩ (.int .i64 ((σ.cnt : Int) + 1))).alloc (.cells #[.int .i64 (af : Int), kv] 132)).drew.cell? ⟨b, 6, none⟩ = some (.int .i64 ((σ.cnt : Int) + 1)) ∧ (((w.setCell ⟨b, 4, none⟩ (.int .i64 ((σ.ops : Int) + 1))).setCell ⟨b, 6, none⟩ (.int .i64 ((σ.cnt : Int) + 1))).alloc (.cells #[.int .i64 (af : Int), kv] 132)).drew.cell? ⟨w.heap.size, 0, none⟩ = some (.int .i64 (af : Int)) := ⟨by rw [cell8 (w := (((w.setCell ⟨b, 4, none⟩ (.int .i64 ((σ.ops : Int) + 1))).setCell ⟨b, 6, none⟩ (.int .i64 ((σ.cnt : Int) + 1))).alloc (.cells #[.int .i64 (af : Int), kv] 132)).drew) hbX]; rfl, cell8 (w := (((w.setCell ⟨b, 4, none⟩ (.int .i64 ((σ.ops : Int) + 1))).setCell ⟨b, 6, none⟩ (.int .i64 ((σ.cnt : Int) + 1))).alloc (.cells #[.int .i64 (af : Int), kv] 132)).drew) hfX 0⟩
  have SX := hide sx
  have ix := fun Y => index_arm g 1 cap hn1 Y
  obtain ⟨kp0, kl0, kc0, hkv⟩ : ∃ p l c, kv = .slice p l c := by obtain ⟨p, c, e, _⟩ := hke; exact ⟨p, _, c, e⟩
  have hre : DevL (((w.setCell ⟨b, 4, none⟩ (.int .i64 ((σ.ops : Int) + 1))).setCell ⟨b, 6, none⟩ (.int .i64 ((σ.cnt : Int) + 1))).alloc (.cells #[.int .i64 (af : Int), kv] 132)).drew b L { σ with ops := σ.ops + 1, cnt := σ.cnt + 1 } := h.re (ops := σ.ops + 1) (cnt := σ.cnt + 1) (off := σ.off) (by show (((w.setCell ⟨b, 4, none⟩ (.int .i64 ((σ.ops : Int) + 1))).setCell ⟨b, 6, none⟩ (.int .i64 ((σ.cnt : Int) + 1))).alloc (.cells #[.int .i64 (af : Int), kv] 132)).heap[b]? = _; rw [hbX]; rfl) (fun k hk hlt => (hAX.block k (by rw [hsz]; exact hlt)).trans ((heap_set_ne _ b 6 k _ hk).trans (heap_set_ne w b 4 k _ hk)))
  have hgr : Gr (fun k => k = b) w (((w.setCell ⟨b, 4, none⟩ (.int .i64 ((σ.ops : Int) + 1))).setCell ⟨b, 6, none⟩ (.int .i64 ((σ.cnt : Int) + 1))).alloc (.cells #[.int .i64 (af : Int), kv] 132)).drew := ((Gr.set w b 4 _ (X := fun k => k = b) rfl).trans (Gr.set _ b 6 _ (X := fun k => k = b) rfl) (fun i h => .inl h)).trans (Gr.of_below hAX : Gr (fun k => k = b) _ (((w.setCell ⟨b, 4, none⟩ (.int .i64 ((σ.ops : Int) + 1))).setCell ⟨b, 6, none⟩ (.int .i64 ((σ.cnt : Int) + 1))).alloc (.cells #[.int .i64 (af : Int), kv] 132))) (fun i h => .inl h)
  have HR := hide hre
  have HG := hide hgr
  have opI : (σ.ops : Int) < 1400000000000 := by omega
  have cnI : (σ.cnt : Int) + 1 < (af : Int) := by omega
  have ncI : (σ.cnt : Int) < 1400000000000 := by omega
  subst hkv
  clear h harm hre hgr hke hgc hc0 hc1 hbX hgX hfX sx hAX hsz hb1 hb2 hg2 hops hc hcn hav hgb f5 hn1 hal
  generalize σ.ops = no at *
  generalize σ.cnt = nc at *
  go_enter Try.func54, Try.ntmps54
  go_wp2_with (fail)
  refine wp_region_held_drew (S := fun Y => Y.cell? ⟨b, 6, none⟩ = some (.int .i64 ((nc : Int) + 1)) ∧ Y.cell? ⟨w.heap.size, 0, none⟩ = some (.int .i64 (af : Int))) (by kernel_rfl) SX.out (fun hS => ?_)
  refine wpAnyH_take (i := 0) (v := (.pointer (some ⟨b, 0, none⟩))) rfl (by kernel_rfl) (by kernel_rfl) (by kernel_rfl) (fun _ _ _ h => h) (Or.inl ⟨by kernel_rfl, fun w' hw => by (go_simp)⟩) hS ?_
  refine wpAnyH_take (i := 1) (v := (.pointer (some ⟨b, 0, none⟩))) rfl (by kernel_rfl) (by kernel_rfl) (by kernel_rfl) (fun _ _ _ h => h) (Or.inl ⟨by kernel_rfl, fun w' hw => by (go_simp)⟩) hS ?_
  refine wpAnyH_take (i := 2) (v := (.pointer (some ⟨b, 6, none⟩))) rfl (by kernel_rfl) (by kernel_rfl) (by kernel_rfl) (fun _ _ _ h => h) (Or.inl ⟨by kernel_rfl, fun w' hw => by (go_simp)⟩) hS ?_
  refine wpAnyH_take (i := 3) (v := (.int .i64 ((nc : Int) + 1))) rfl (by kernel_rfl) (by kernel_rfl) (by kernel_rfl) (fun _ _ _ h => h) (Or.inl ⟨by kernel_rfl, fun w' hw => by (obtain ⟨z0, z1⟩ := hw; go_simp)⟩) hS ?_
  refine wpAnyH_take (i := 4) (v := (.pointer (some ⟨w.heap.size, 0, none⟩))) rfl (by kernel_rfl) (by kernel_rfl) (by kernel_rfl) (fun _ _ _ h => h) (Or.inl ⟨by kernel_rfl, fun w' hw => by (go_simp)⟩) hS ?_
  refine wpAnyH_take (i := 5) (v := (.int .i64 (af : Int))) rfl (by kernel_rfl) (by kernel_rfl) (by kernel_rfl) (fun _ _ _ h => h) (Or.inl ⟨by kernel_rfl, fun w' hw => by (obtain ⟨z0, z1⟩ := hw; go_simp)⟩) hS ?_
  refine wpAnyH_take (i := 6) (v := (.bool true)) rfl (by kernel_rfl) (by kernel_rfl) (by kernel_rfl) (fun _ _ _ h => h) (Or.inl ⟨by kernel_rfl, fun w' hw => by (go_simp)⟩) hS ?_
  refine wpAnyH_done (by kernel_rfl) ?_ _
  simp only [Act.put, List.getElem_toArray, List.getElem_cons_zero, List.getElem_cons_succ, List.setIfInBounds_toArray, List.set_cons_zero, List.set_cons_succ]
  go_wp2_with (fail)
  go_ret
  exact ⟨rfl, HR.out, HG.out⟩
/-- The losses that wait are gone. -/
theorem DevL.disarm {w' : World} {g cap o : Nat} (h : DevL w b L σ) (hav : L.av = .slice (some ⟨g, 0, none⟩) 1 cap) (hb : w'.heap[b]? = some (.cells (devC b { L with av := .slice (some ⟨g, 0, none⟩) 0 cap } { σ with ops := o, arms := [], cnt := 0 }) 65 (0, 0)))
    (hg : ∃ cur : Array Value, w.heap[g]? = some (.cells cur 132 (0, 0)) ∧ cur.size = cap * 2 ∧ cap ≤ maxLen ∧ ∃ cur' : Array Value, w'.heap[g]? = some (.cells cur' 132 (0, 0)) ∧ cur'.size = cur.size) (hk : ∀ k, k ≠ b → k ≠ g → k < w.heap.size → w'.heap[k]? = w.heap[k]?) :
    DevL w' b { L with av := .slice (some ⟨g, 0, none⟩) 0 cap } { σ with ops := o, arms := [], cnt := 0 } := by
  obtain ⟨cur, hg1, hs1, hm1, cur', hg2, hs2⟩ := hg
  have hs : ∀ (k : Nat) (c : Array Value) t fr, w.heap[k]? = some (Obj.cells c t fr) → t ≠ 65 → t ≠ 132 → w'.heap[k]? = w.heap[k]? := fun k c t fr h1 h2 h3 => hk k (ne_ty h1 h.dev h2) (ne_ty h1 hg1 h3) (lt_of_heap h1)
  obtain ⟨e1, k1, hob⟩ := h.old.block
  obtain ⟨e2, k2, hfb⟩ := h.flm.block
  refine ⟨hb, (hs _ _ _ _ h.seen (by decide) (by decide)).trans h.seen, h.old.of_block (hk _ (ne_map h.dev hob).symm (ne_map hg1 hob).symm (lt_of_heap hob)), h.flm.of_block (hk _ (ne_map h.dev hfb).symm (ne_map hg1 hfb).symm (lt_of_heap hfb)),
    fun i hi => (h.pasts i hi).keep (hs _ _ _ _ (h.pasts i hi).1 (by decide) (by decide)) (fun g' hg' => ?_), h.pne, h.rne, h.mne, ⟨[], rfl, ⟨rfl, .inr ⟨g, cap, cur', rfl, Nat.zero_le _, hg2, Nat.zero_le _, hm1, by rw [hs2, hs1], by simp⟩⟩, fun i k a h => by simp at h⟩, fun k hkb => ?_⟩
  · obtain ⟨c, hc⟩ := (h.pasts i hi).row hg'
    exact hs _ _ _ _ hc (by decide) (by decide)
  · obtain ⟨c, hc⟩ := h.kbt k hkb
    exact ⟨c, (hs _ _ _ _ hc (by decide) (by decide)).trans hc⟩
theorem slN_of {W : World} {KB : Nat → Prop} {p : Option Addr} {c : Nat} {kp : List Nat} (h : KeepAt w KB (.slice p kp.length c) kp) (hkb : ∀ k, KB k → ∃ c, w.heap[k]? = some (.cells c 3 (0, 0))) (hW : ∀ k, KB k → W.heap[k]? = w.heap[k]?) (hb : ∀ x ∈ kp, x < 9223372036854775808) : SlN W p kp := by
  obtain ⟨p', c', e, h1⟩ := h
  cases e
  rcases h1 with ⟨h2, h3⟩ | ⟨g, h2, h3, h4⟩
  · exact ⟨hb, .inl ⟨h2, h3⟩⟩
  · obtain ⟨c2, hc2⟩ := hkb g h3
    exact ⟨hb, .inr ⟨g, 0, c2, (0, 0), h2, (hW g h3).trans hc2, fun j k hj => by rw [Nat.zero_add]; exact (World.cell?_of_block (a := ⟨g, j, none⟩) (hW g h3)).trans (h4 j k hj)⟩⟩
set_option maxRecDepth 100000 in
set_option maxHeartbeats 400000 in
/-- One operation more, behind which the power goes. -/
theorem poper_fire {af : Nat} {kp : List Nat} (h : DevL w b L σ) (hok : ({ σ with ops := σ.ops + 1 } : St).Ok) (hops : σ.ops < 1400000000000) (harm : σ.arms = [(af, kp)]) (hc : af ≤ σ.cnt + 1) (hcn : σ.cnt < 1400000000000) (hkb : ∀ x ∈ kp, x < 9223372036854775808) (hkl : kp.length ≤ 1400000000000) :
    Calls Try.prog 54 #[.pointer (some ⟨b, 0, none⟩)] w fun e w' => e = .returned (.int .i64 5) ∧ ∃ L' σ', Lost { σ with ops := σ.ops + 1, arms := [], cnt := 0 } kp σ' ∧ DevL w' b L' σ' ∧ (∀ k, Foot b L' σ' k → Foot b L σ k ∨ w.heap.size ≤ k) ∧ Gr (Foot b L σ) w w' ∧ L'.N ≤ L.N ∧ L'.KB = L.KB := by
  obtain ⟨g, cap, kv, hav, hn1, cur, hgc, hc0, hc1, hke⟩ := arm_first (rest := []) h harm
  have hal : σ.arms.length = 1 := by rw [harm]; rfl
  rw [hal] at hav hn1
  have hgb : g ≠ b := ne_ty hgc h.dev (by decide)
  have c4 := h.c4
  have c5 := h.c5
  rw [hav] at c5
  have c6 := h.c6
  have f4 := h.fz 4
  have f6 := h.fz 6
  have f5 := h.fz 5
  have hb1 : (w.setCell ⟨b, 4, none⟩ (.int .i64 ((σ.ops : Int) + 1))).heap[b]? = _ := heap_set1 w b 4 _ _ _ h.dev
  have d5 : (w.setCell ⟨b, 4, none⟩ (.int .i64 ((σ.ops : Int) + 1))).cell? ⟨b, 5, none⟩ = some (.slice (some ⟨g, 0, none⟩) 1 cap) := by rw [cell8 hb1, ← hav]; rfl
  have d6 : (w.setCell ⟨b, 4, none⟩ (.int .i64 ((σ.ops : Int) + 1))).cell? ⟨b, 6, none⟩ = some (.int .i64 (σ.cnt : Int)) := by rw [cell8 hb1]; rfl
  have g6 : (w.setCell ⟨b, 4, none⟩ (.int .i64 ((σ.ops : Int) + 1))).frozen? ⟨b, 6, none⟩ = false := froz8 hb1 6
  have hb2 := heap_set1 (w.setCell ⟨b, 4, none⟩ (.int .i64 ((σ.ops : Int) + 1))) b 6 _ _ (.int .i64 ((σ.cnt : Int) + 1)) hb1
  have i5 : ((w.setCell ⟨b, 4, none⟩ (.int .i64 ((σ.ops : Int) + 1))).setCell ⟨b, 6, none⟩ (.int .i64 ((σ.cnt : Int) + 1))).cell? ⟨b, 5, none⟩ = some (.slice (some ⟨g, 0, none⟩) 1 cap) := by rw [cell8 hb2, ← hav]; rfl
  have hg2 : ((w.setCell ⟨b, 4, none⟩ (.int .i64 ((σ.ops : Int) + 1))).setCell ⟨b, 6, none⟩ (.int .i64 ((σ.cnt : Int) + 1))).heap[g]? = some (.cells cur 132 (0, 0)) := ((heap_set_ne _ b 6 g _ hgb).trans (heap_set_ne w b 4 g _ hgb)).trans hgc
  have j0 : ((w.setCell ⟨b, 4, none⟩ (.int .i64 ((σ.ops : Int) + 1))).setCell ⟨b, 6, none⟩ (.int .i64 ((σ.cnt : Int) + 1))).cell? ⟨g, 0, none⟩ = some (.int .i64 (af : Int)) := (cell8 hg2 0).trans hc0
  have j1 : ((w.setCell ⟨b, 4, none⟩ (.int .i64 ((σ.ops : Int) + 1))).setCell ⟨b, 6, none⟩ (.int .i64 ((σ.cnt : Int) + 1))).cell? ⟨g, 1, none⟩ = some kv := (cell8 hg2 1).trans hc1
  have hsz : ((w.setCell ⟨b, 4, none⟩ (.int .i64 ((σ.ops : Int) + 1))).setCell ⟨b, 6, none⟩ (.int .i64 ((σ.cnt : Int) + 1))).heap.size = w.heap.size := by simp
  have hAX : Below ((w.setCell ⟨b, 4, none⟩ (.int .i64 ((σ.ops : Int) + 1))).setCell ⟨b, 6, none⟩ (.int .i64 ((σ.cnt : Int) + 1))).heap.size ((w.setCell ⟨b, 4, none⟩ (.int .i64 ((σ.ops : Int) + 1))).setCell ⟨b, 6, none⟩ (.int .i64 ((σ.cnt : Int) + 1))) (((w.setCell ⟨b, 4, none⟩ (.int .i64 ((σ.ops : Int) + 1))).setCell ⟨b, 6, none⟩ (.int .i64 ((σ.cnt : Int) + 1))).alloc (.cells #[.int .i64 (af : Int), kv] 132)) := (Below.refl _ _).alloc (Nat.le_refl _) _
  have hbX : (((w.setCell ⟨b, 4, none⟩ (.int .i64 ((σ.ops : Int) + 1))).setCell ⟨b, 6, none⟩ (.int .i64 ((σ.cnt : Int) + 1))).alloc (.cells #[.int .i64 (af : Int), kv] 132)).heap[b]? = _ := (hAX.block b (by rw [hsz]; exact h.lt)).trans hb2
  have hgX : (((w.setCell ⟨b, 4, none⟩ (.int .i64 ((σ.ops : Int) + 1))).setCell ⟨b, 6, none⟩ (.int .i64 ((σ.cnt : Int) + 1))).alloc (.cells #[.int .i64 (af : Int), kv] 132)).heap[g]? = some (.cells cur 132 (0, 0)) := (hAX.block g (by rw [hsz]; exact lt_of_heap hgc)).trans hg2
  have hfX : (((w.setCell ⟨b, 4, none⟩ (.int .i64 ((σ.ops : Int) + 1))).setCell ⟨b, 6, none⟩ (.int .i64 ((σ.cnt : Int) + 1))).alloc (.cells #[.int .i64 (af : Int), kv] 132)).heap[w.heap.size]? = some (.cells #[.int .i64 (af : Int), kv] 132 (0, 0)) := by
    have := heap_alloc_new ((w.setCell ⟨b, 4, none⟩ (.int .i64 ((σ.ops : Int) + 1))).setCell ⟨b, 6, none⟩ (.int .i64 ((σ.cnt : Int) + 1))) (.cells #[.int .i64 (af : Int), kv] 132)
    rwa [hsz] at this
  have sx : (((w.setCell ⟨b, 4, none⟩ (.int .i64 ((σ.ops : Int) + 1))).setCell ⟨b, 6, none⟩ (.int .i64 ((σ.cnt : Int) + 1))).alloc (.cells #[.int .i64 (af : Int), kv] 132)).drew.cell? ⟨b, 6, none⟩ = some (.int .i64 ((σ.cnt : Int) + 1)) ∧ (((w.setCell ⟨b, 4, none⟩ (.int .i64 ((σ.ops : Int) + 1))).setCell ⟨b, 6, none⟩ (.int .i64 ((σ.cnt : Int) + 1))).alloc (.cells #[.int .i64 (af : Int), kv] 132)).drew.cell? ⟨w.heap.size, 0, none⟩ = some (.int .i64 (af : Int)) := ⟨by rw [cell8 (w := (((w.setCell ⟨b, 4, none⟩ (.int .i64 ((σ.ops : Int) + 1))).setCell ⟨b, 6, none⟩ (.int .i64 ((σ.cnt : Int) + 1))).alloc (.cells #[.int .i64 (af : Int), kv] 132)).drew) hbX]; rfl, cell8 (w := (((w.setCell ⟨b, 4, none⟩ (.int .i64 ((σ.ops : Int) + 1))).setCell ⟨b, 6, none⟩ (.int .i64 ((σ.cnt : Int) + 1))).alloc (.cells #[.int .i64 (af : Int), kv] 132)).drew) hfX 0⟩
  have SX := hide sx
  have ix := fun Y => index_arm g 1 cap hn1 Y
  obtain ⟨kp0, kl0, kc0, hkv⟩ : ∃ p l c, kv = .slice p l c := by obtain ⟨p, c, e, _⟩ := hke; exact ⟨p, _, c, e⟩
  have hcs : cur.size = cap * 2 ∧ cap ≤ maxLen ∧ 1 ≤ cap := by
    obtain ⟨ks, hl, ho, _⟩ := h.arms
    rcases ho.2 with ⟨e, _⟩ | ⟨g', cap', cur', e, q1, q2, q3, q4, q5, q6⟩
    · rw [hav] at e; cases e
    · rw [hav, hal] at e
      cases e
      rw [hgc] at q2
      cases q2
      exact ⟨q5, q4, by rw [harm] at q3; simpa using q3⟩
  have kd := pdel_one (((w.setCell ⟨b, 4, none⟩ (.int .i64 ((σ.ops : Int) + 1))).setCell ⟨b, 6, none⟩ (.int .i64 ((σ.cnt : Int) + 1))).alloc (.cells #[.int .i64 (af : Int), kv] 132)).drew g cap cur hgX (by omega) (by omega)
  have hok5 : St.Ok { σ with ops := σ.ops + 1, arms := [], cnt := 0 } := ⟨hok.pos, hok.max, hok.len, hok.byte, hok.out, hok.clen, hok.cbyte, hok.few, hok.flp, hok.opsm⟩
  subst hkv
  have kf : ∀ W5 : World, Gr (fun k => k = g) (((w.setCell ⟨b, 4, none⟩ (.int .i64 ((σ.ops : Int) + 1))).setCell ⟨b, 6, none⟩ (.int .i64 ((σ.cnt : Int) + 1))).alloc (.cells #[.int .i64 (af : Int), .slice kp0 kl0 kc0] 132)).drew W5 → (∃ cur' : Array Value, W5.heap[g]? = some (.cells cur' 132 (0, 0)) ∧ cur'.size = cur.size) →
      W5.frozen? ⟨b, 5, none⟩ = false ∧ (∃ u, W5.cell? ⟨b, 5, none⟩ = some u) ∧ (W5.setCell ⟨b, 5, none⟩ (.slice (some ⟨g, 0, none⟩) 0 cap)).frozen? ⟨b, 6, none⟩ = false ∧ (∃ u, (W5.setCell ⟨b, 5, none⟩ (.slice (some ⟨g, 0, none⟩) 0 cap)).cell? ⟨b, 6, none⟩ = some u) ∧ ((W5.setCell ⟨b, 5, none⟩ (.slice (some ⟨g, 0, none⟩) 0 cap)).setCell ⟨b, 6, none⟩ (.int .i64 0)).cell? ⟨w.heap.size, 1, none⟩ = some (.slice kp0 kl0 kc0) ∧
      Calls Try.prog 71 #[.pointer (some ⟨b, 0, none⟩), .slice kp0 kl0 kc0] ((W5.setCell ⟨b, 5, none⟩ (.slice (some ⟨g, 0, none⟩) 0 cap)).setCell ⟨b, 6, none⟩ (.int .i64 0)) fun e w' => e = .returned (.tuple #[]) ∧ ∃ L' σ', Lost { σ with ops := σ.ops + 1, arms := [], cnt := 0 } kp σ' ∧ DevL w' b L' σ' ∧ (∀ k, Foot b L' σ' k → Foot b L σ k ∨ w.heap.size ≤ k) ∧ Gr (Foot b L σ) w w' ∧ L'.N ≤ L.N ∧ L'.KB = L.KB := fun W5 hg5 hc5 => by
    have q1 : W5.heap[b]? = _ := (hg5.block (k := b) (by show b < (((w.setCell ⟨b, 4, none⟩ (.int .i64 ((σ.ops : Int) + 1))).setCell ⟨b, 6, none⟩ (.int .i64 ((σ.cnt : Int) + 1))).alloc (.cells #[.int .i64 (af : Int), .slice kp0 kl0 kc0] 132)).heap.size; exact lt_of_heap hbX) (fun e => hgb e.symm)).trans hbX
    have q2 := heap_set1 W5 b 5 _ _ (.slice (some ⟨g, 0, none⟩) 0 cap) q1
    have q3 := heap_set1 _ b 6 _ _ (.int .i64 0) q2
    have hwg : w.heap.size ≠ g := fun e => by have := lt_of_heap hgc; omega
    have hwb : w.heap.size ≠ b := fun e => by have := h.lt; omega
    have q4 : ((W5.setCell ⟨b, 5, none⟩ (.slice (some ⟨g, 0, none⟩) 0 cap)).setCell ⟨b, 6, none⟩ (.int .i64 0)).heap[w.heap.size]? = some (.cells #[.int .i64 (af : Int), .slice kp0 kl0 kc0] 132 (0, 0)) := (heap_set_ne _ b 6 _ _ hwb).trans ((heap_set_ne _ b 5 _ _ hwb).trans ((hg5.block (k := w.heap.size) (lt_of_heap hfX) hwg).trans hfX))
    have q5 : ∀ k, k ≠ b → k ≠ g → k < w.heap.size → ((W5.setCell ⟨b, 5, none⟩ (.slice (some ⟨g, 0, none⟩) 0 cap)).setCell ⟨b, 6, none⟩ (.int .i64 0)).heap[k]? = w.heap[k]? := fun k k1 k2 k3 =>
      (heap_set_ne _ b 6 k _ k1).trans ((heap_set_ne _ b 5 k _ k1).trans ((hg5.block (k := k) (by show k < (((w.setCell ⟨b, 4, none⟩ (.int .i64 ((σ.ops : Int) + 1))).setCell ⟨b, 6, none⟩ (.int .i64 ((σ.cnt : Int) + 1))).alloc (.cells #[.int .i64 (af : Int), .slice kp0 kl0 kc0] 132)).heap.size; have := hAX.size; omega) k2).trans ((hAX.block k (by rw [hsz]; exact k3)).trans ((heap_set_ne _ b 6 k _ k1).trans (heap_set_ne w b 4 k _ k1)))))
    obtain ⟨cur', hq, hq2⟩ := hc5
    have q6 : ((W5.setCell ⟨b, 5, none⟩ (.slice (some ⟨g, 0, none⟩) 0 cap)).setCell ⟨b, 6, none⟩ (.int .i64 0)).heap[g]? = some (.cells cur' 132 (0, 0)) := (heap_set_ne _ b 6 g _ hgb).trans ((heap_set_ne _ b 5 g _ hgb).trans hq)
    have hd6 := h.disarm (w' := (W5.setCell ⟨b, 5, none⟩ (.slice (some ⟨g, 0, none⟩) 0 cap)).setCell ⟨b, 6, none⟩ (.int .i64 0)) (o := σ.ops + 1) hav (by rw [q3]; rfl) ⟨cur, hgc, hcs.1, hcs.2.1, cur', q6, hq2⟩ q5
    have gX : Gr (Foot b L σ) w (((w.setCell ⟨b, 4, none⟩ (.int .i64 ((σ.ops : Int) + 1))).setCell ⟨b, 6, none⟩ (.int .i64 ((σ.cnt : Int) + 1))).alloc (.cells #[.int .i64 (af : Int), .slice kp0 kl0 kc0] 132)) := ((Gr.set w b 4 _ (X := Foot b L σ) (.inl rfl)).trans (Gr.set _ b 6 _ (X := Foot b L σ) (.inl rfl)) (fun i h => .inl h)).trans (Gr.of_below hAX : Gr (Foot b L σ) _ (((w.setCell ⟨b, 4, none⟩ (.int .i64 ((σ.ops : Int) + 1))).setCell ⟨b, 6, none⟩ (.int .i64 ((σ.cnt : Int) + 1))).alloc (.cells #[.int .i64 (af : Int), .slice kp0 kl0 kc0] 132))) (fun i h => .inl h)
    have g5 : Gr (Foot b L σ) w W5 := (show Gr (Foot b L σ) w (((w.setCell ⟨b, 4, none⟩ (.int .i64 ((σ.ops : Int) + 1))).setCell ⟨b, 6, none⟩ (.int .i64 ((σ.cnt : Int) + 1))).alloc (.cells #[.int .i64 (af : Int), .slice kp0 kl0 kc0] 132)).drew from gX).trans hg5 (fun i hi => .inl (by rw [hi]; exact .inr (.inr (.inr (.inr (.inr (.inl (by rw [hav]; rfl))))))))
    have g6 : Gr (Foot b L σ) w ((W5.setCell ⟨b, 5, none⟩ (.slice (some ⟨g, 0, none⟩) 0 cap)).setCell ⟨b, 6, none⟩ (.int .i64 0)) := (g5.trans (Gr.set _ b 5 _ (X := Foot b L σ) (.inl rfl)) (fun i h => .inl h)).trans (Gr.set _ b 6 _ (X := Foot b L σ) (.inl rfl)) (fun i h => .inl h)
    have hfo : ∀ k, Foot b { L with av := .slice (some ⟨g, 0, none⟩) 0 cap } { σ with ops := σ.ops + 1, arms := [], cnt := 0 } k → Foot b L σ k := fun k hk => by
      rcases hk with r | r | r | r | r | r | r
      · exact .inl r
      · exact .inr (.inl r)
      · exact .inr (.inr (.inl r))
      · exact .inr (.inr (.inr (.inl r)))
      · exact .inr (.inr (.inr (.inr (.inl r))))
      · exact .inr (.inr (.inr (.inr (.inr (.inl (by rw [hav]; exact r))))))
      · exact .inr (.inr (.inr (.inr (.inr (.inr r)))))
    obtain ⟨p', c', e', _⟩ := id hke
    cases e'
    have hsn : SlN ((W5.setCell ⟨b, 5, none⟩ (.slice (some ⟨g, 0, none⟩) 0 cap)).setCell ⟨b, 6, none⟩ (.int .i64 0)) kp0 kp := slN_of hke h.kbt (fun k hk => by obtain ⟨c2, hc2⟩ := h.kbt k hk; exact q5 k (ne_ty hc2 h.dev (by decide)) (ne_ty hc2 hgc (by decide)) (lt_of_heap hc2)) hkb
    refine ⟨froz8 q1 5, ⟨_, cell8 q1 5⟩, froz8 q2 6, ⟨_, cell8 q2 6⟩, cell8 q4 1, (plose_kb kc0 hd6 hok5 hsn (by omega)).mono ?_⟩
    rintro e w' ⟨rfl, L', σ', l1, l2, l3, l4, l5⟩
    exact ⟨rfl, L', σ', l1, l2, fun k hk => (l3 k hk).imp (hfo k) (fun h5 => Nat.le_trans g6.size h5), g6.trans l4 (fun i hi => .inl (hi.elim (fun e => .inl e) (fun e => .inr (.inl e)))), l5⟩
  have KF := hide kf
  have KD := hide kd
  have opI : (σ.ops : Int) < 1400000000000 := by omega
  have cnI : ¬ (σ.cnt : Int) + 1 < (af : Int) := by omega
  have ncI : (σ.cnt : Int) < 1400000000000 := by omega
  have i5d : (((w.setCell ⟨b, 4, none⟩ (.int .i64 ((σ.ops : Int) + 1))).setCell ⟨b, 6, none⟩ (.int .i64 ((σ.cnt : Int) + 1))).alloc (.cells #[.int .i64 (af : Int), .slice kp0 kl0 kc0] 132)).drew.cell? ⟨b, 5, none⟩ = some (.slice (some ⟨g, 0, none⟩) 1 cap) := by rw [cell8 (w := (((w.setCell ⟨b, 4, none⟩ (.int .i64 ((σ.ops : Int) + 1))).setCell ⟨b, 6, none⟩ (.int .i64 ((σ.cnt : Int) + 1))).alloc (.cells #[.int .i64 (af : Int), .slice kp0 kl0 kc0] 132)).drew) hbX, ← hav]; rfl
  clear h harm hke hgc hc0 hc1 hbX hgX hfX sx hAX hsz hb1 hb2 hg2 hops hc hcn hav hgb f5 hn1 hal hok hok5 hkb hkl kf kd hcs
  generalize hno : σ.ops = no at *
  generalize hnc : σ.cnt = nc at *
  clear hnc
  go_enter Try.func54, Try.ntmps54
  go_wp2_with (fail)
  refine wp_region_held_drew (S := fun Y => Y.cell? ⟨b, 6, none⟩ = some (.int .i64 ((nc : Int) + 1)) ∧ Y.cell? ⟨w.heap.size, 0, none⟩ = some (.int .i64 (af : Int))) (by kernel_rfl) SX.out (fun hS => ?_)
  refine wpAnyH_take (i := 0) (v := (.pointer (some ⟨b, 0, none⟩))) rfl (by kernel_rfl) (by kernel_rfl) (by kernel_rfl) (fun _ _ _ h => h) (Or.inl ⟨by kernel_rfl, fun w' hw => by (go_simp)⟩) hS ?_
  refine wpAnyH_take (i := 1) (v := (.pointer (some ⟨b, 0, none⟩))) rfl (by kernel_rfl) (by kernel_rfl) (by kernel_rfl) (fun _ _ _ h => h) (Or.inl ⟨by kernel_rfl, fun w' hw => by (go_simp)⟩) hS ?_
  refine wpAnyH_take (i := 2) (v := (.pointer (some ⟨b, 6, none⟩))) rfl (by kernel_rfl) (by kernel_rfl) (by kernel_rfl) (fun _ _ _ h => h) (Or.inl ⟨by kernel_rfl, fun w' hw => by (go_simp)⟩) hS ?_
  refine wpAnyH_take (i := 3) (v := (.int .i64 ((nc : Int) + 1))) rfl (by kernel_rfl) (by kernel_rfl) (by kernel_rfl) (fun _ _ _ h => h) (Or.inl ⟨by kernel_rfl, fun w' hw => by (obtain ⟨z0, z1⟩ := hw; go_simp)⟩) hS ?_
  refine wpAnyH_take (i := 4) (v := (.pointer (some ⟨w.heap.size, 0, none⟩))) rfl (by kernel_rfl) (by kernel_rfl) (by kernel_rfl) (fun _ _ _ h => h) (Or.inl ⟨by kernel_rfl, fun w' hw => by (go_simp)⟩) hS ?_
  refine wpAnyH_take (i := 5) (v := (.int .i64 (af : Int))) rfl (by kernel_rfl) (by kernel_rfl) (by kernel_rfl) (fun _ _ _ h => h) (Or.inl ⟨by kernel_rfl, fun w' hw => by (obtain ⟨z0, z1⟩ := hw; go_simp)⟩) hS ?_
  refine wpAnyH_take (i := 6) (v := (.bool false)) rfl (by kernel_rfl) (by kernel_rfl) (by kernel_rfl) (fun _ _ _ h => h) (Or.inl ⟨by kernel_rfl, fun w' hw => by (go_simp)⟩) hS ?_
  refine wpAnyH_done (by kernel_rfl) ?_ _
  simp only [Act.put, List.getElem_toArray, List.getElem_cons_zero, List.getElem_cons_succ, List.setIfInBounds_toArray, List.set_cons_zero, List.set_cons_succ]
  go_wp2_with (first
    | (go_at_call 70; refine (KD.out).mono ?_; rintro e W5 ⟨rfl, hg5, hc5⟩; obtain ⟨x1, ⟨u1, x2⟩, x3, ⟨u2, x4⟩, x5, kl⟩ := KF.out W5 hg5 hc5; have KL := hide kl; clear hg5 hc5 kl)
    | (go_at_call 71; refine (KL.out).mono ?_; rintro e W7 ⟨rfl, hr⟩; have HR := hide hr; clear hr))
  go_ret
  exact ⟨rfl, HR.out⟩
end
end Go.Proofs.Ytafmpdljljmddaa
namespace Go.Proofs.Ytafmpdljljmddaa
open Go.RowKit Go.Shelf
set_option linter.unusedVariables false

/-- What one operation more leaves, and what is answered. -/
def Opd (σ : St) (c : Int) (σ' : St) : Prop :=
  (σ.arms = [] ∧ c = 0 ∧ σ' = { σ with ops := σ.ops + 1 }) ∨
  (∃ af kp, σ.arms = [(af, kp)] ∧ ((σ.cnt + 1 < af ∧ c = 0 ∧ σ' = { σ with ops := σ.ops + 1, cnt := σ.cnt + 1 }) ∨ (af ≤ σ.cnt + 1 ∧ c = 5 ∧ Lost { σ with ops := σ.ops + 1, arms := [], cnt := 0 } kp σ')))
/-- At most one loss of power waits. -/
structure Few (σ : St) : Prop where
  one : σ.arms = [] ∨ ∃ af kp, σ.arms = [(af, kp)] ∧ (∀ x ∈ kp, x < 9223372036854775808) ∧ kp.length ≤ 1400000000000
  cnt : σ.cnt < 1400000000000
theorem Opd.code {σ σ' : St} {c : Int} (h : Opd σ c σ') : c = 0 ∨ c = 5 := by
  rcases h with ⟨_, h, _⟩ | ⟨_, _, _, ⟨_, h, _⟩ | ⟨_, h, _⟩⟩
  · exact .inl h
  · exact .inl h
  · exact .inr h
/-- One operation more, behind which the power stays. -/
def tick (σ : St) : St := { σ with ops := σ.ops + 1, cnt := if σ.arms = [] then σ.cnt else σ.cnt + 1 }
/-- The next operation is the last one ahead of the loss. -/
def fires (σ : St) : Prop := ∃ af kp, σ.arms = [(af, kp)] ∧ af ≤ σ.cnt + 1
theorem Opd.no {σ σ' : St} {c : Int} (h : Opd σ c σ') (hf : ¬ fires σ) : c = 0 ∧ σ' = tick σ := by
  rcases h with ⟨h1, h2, h3⟩ | ⟨af, kp, h1, ⟨h0, h2, h3⟩ | ⟨h0, h2, h3⟩⟩
  · exact ⟨h2, by rw [h3]; unfold tick; rw [if_pos h1]⟩
  · exact ⟨h2, by rw [h3]; unfold tick; rw [if_neg (by rw [h1]; simp)]⟩
  · exact absurd ⟨af, kp, h1, h0⟩ hf
theorem Opd.yes {σ σ' : St} {c : Int} (h : Opd σ c σ') (hf : fires σ) : c = 5 := by
  obtain ⟨af', kp', e1, e2⟩ := hf
  rcases h with ⟨h1, h2, h3⟩ | ⟨af, kp, h1, ⟨h0, h2, h3⟩ | ⟨h0, h2, h3⟩⟩
  · rw [h1] at e1; cases e1
  · rw [h1] at e1; cases e1; omega
  · exact h2
theorem tick_ok {σ : St} (h : ({ σ with ops := σ.ops + 1 } : St).Ok) : (tick σ).Ok := ⟨h.pos, h.max, h.len, h.byte, h.out, h.clen, h.cbyte, h.few, h.flp, h.opsm⟩
theorem ok_more {σ : St} (h : σ.Ok) (hops : σ.ops < 1400000000000) : ({ σ with ops := σ.ops + 1 } : St).Ok := ⟨h.pos, h.max, h.len, h.byte, h.out, h.clen, h.cbyte, fun i => Nat.le_trans (h.few i) (Nat.le_succ _), h.flp, by show σ.ops + 1 ≤ _; omega⟩
section
variable {w : World} {b : Nat} {L : Lay} {σ : St}
theorem poper_gen (h : DevL w b L σ) (hok : ({ σ with ops := σ.ops + 1 } : St).Ok) (hf : Few σ) (hops : σ.ops < 1400000000000) :
    Calls Try.prog 54 #[.pointer (some ⟨b, 0, none⟩)] w fun e w' => ∃ c σ' L', e = .returned (.int .i64 c) ∧ Opd σ c σ' ∧ DevL w' b L' σ' ∧ (∀ k, Foot b L' σ' k → Foot b L σ k ∨ w.heap.size ≤ k) ∧ Gr (Foot b L σ) w w' ∧ L'.N ≤ L.N ∧ L'.KB = L.KB ∧ (c = 0 → L' = L) := by
  rcases hf.one with ha | ⟨af, kp, ha, hk, hl⟩
  · refine (poper_any h hops ha).mono ?_
    rintro e w' ⟨rfl, hw, hd⟩
    exact ⟨0, _, L, rfl, .inl ⟨ha, rfl, rfl⟩, hd, fun k hk => .inl hk, by rw [hw]; exact Gr.set w b 4 _ (.inl rfl), Nat.le_refl _, rfl, fun _ => rfl⟩
  · by_cases hc : σ.cnt + 1 < af
    · refine (poper_wait h hops ha hc hf.cnt).mono ?_
      rintro e w' ⟨rfl, hd, hg⟩
      exact ⟨0, _, L, rfl, .inr ⟨af, kp, ha, .inl ⟨hc, rfl, rfl⟩⟩, hd, fun k hk => .inl hk, hg.mono (fun k h => .inl h), Nat.le_refl _, rfl, fun _ => rfl⟩
    · refine (poper_fire h hok hops ha (by omega) hf.cnt hk hl).mono ?_
      rintro e w' ⟨rfl, L', σ', h1, h2, h3, h4, h5, h6⟩
      exact ⟨5, σ', L', rfl, .inr ⟨af, kp, ha, .inr ⟨by omega, rfl, h1⟩⟩, h2, h3, h4, h5, h6, fun h => by cases h⟩
theorem poper_no (h : DevL w b L σ) (hok : ({ σ with ops := σ.ops + 1 } : St).Ok) (hf : Few σ) (hops : σ.ops < 1400000000000) (hn : ¬ fires σ) :
    Calls Try.prog 54 #[.pointer (some ⟨b, 0, none⟩)] w fun e w' => e = .returned (.int .i64 0) ∧ DevL w' b L (tick σ) ∧ Gr (Foot b L σ) w w' := by
  refine (poper_gen h hok hf hops).mono ?_
  rintro e w' ⟨c, σ', L', rfl, h1, h2, h3, h4, h5, h6, h7⟩
  obtain ⟨rfl, rfl⟩ := h1.no hn
  obtain rfl := h7 rfl
  exact ⟨rfl, h2, h4⟩
theorem poper_yes (h : DevL w b L σ) (hok : ({ σ with ops := σ.ops + 1 } : St).Ok) (hf : Few σ) (hops : σ.ops < 1400000000000) (hn : fires σ) :
    Calls Try.prog 54 #[.pointer (some ⟨b, 0, none⟩)] w fun e w' => e = .returned (.int .i64 5) ∧ ∃ σ' L', Opd σ 5 σ' ∧ DevL w' b L' σ' ∧ (∀ k, Foot b L' σ' k → Foot b L σ k ∨ w.heap.size ≤ k) ∧ Gr (Foot b L σ) w w' ∧ L'.N ≤ L.N ∧ L'.KB = L.KB := by
  refine (poper_gen h hok hf hops).mono ?_
  rintro e w' ⟨c, σ', L', rfl, h1, h2, h3, h4, h5, h6, h7⟩
  obtain rfl := h1.yes hn
  exact ⟨rfl, σ', L', h1, h2, h3, h4, h5, h6⟩
end
end Go.Proofs.Ytafmpdljljmddaa
