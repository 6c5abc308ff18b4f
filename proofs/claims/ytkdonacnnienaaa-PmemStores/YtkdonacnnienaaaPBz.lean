/- Package pmem: the bytes of a line's contents. -/
import Derived.Test.YtkdonacnnienaaaPBy
namespace Go.Proofs.Ytkdonacnnienaaa
open Go.RowKit Go.Shelf
set_option linter.unusedVariables false

theorem RowsB.below {W W' : World} {B : Nat} {lv : Value} {cs : List (List Nat)} (h : RowsB W B lv cs) (hB : Below W.heap.size W W') : RowsB W' B lv cs := by
  obtain ⟨vals, h1, h2, h3⟩ := h
  refine ⟨vals, ownsRow_of_block h1 (fun g hg => ?_), h2, fun i c hi => ?_⟩
  · obtain ⟨c, hc⟩ := own_type h1 hg
    exact hB.block g (lt_of_heap hc)
  · obtain ⟨g, h4, h5, h6⟩ := h3 i c hi
    exact ⟨g, h4, h5, h6.below hB h6.lt⟩
theorem RowsB.drew {W : World} {B : Nat} {lv : Value} {cs : List (List Nat)} (h : RowsB W B lv cs) : RowsB W.drew B lv cs := h.below (Below.refl _ W).drew
theorem RowsB.more {W2 W3 : World} {B gb : Nat} {lv v' : Value} {cs : List (List Nat)} {vals : List Value} {c : List Nat} (h1 : W2.ownsRow B 28 1 lv cs.length vals) (h2 : vals.length = cs.length) (h3 : ∀ (i : Nat) (c : List Nat), cs[i]? = some c → ∃ g, vals[i]? = some (.slice (some ⟨g, 0, none⟩) 64 64) ∧ B ≤ g ∧ OwnB W2 g c)
    (hgb : B ≤ gb) (hob : OwnB W2 gb c) (hg : W2.grownBy W3 lv.ownBlock) (ho : W3.ownsRow B 28 1 v' (cs.length + 1) (vals ++ [.slice (some ⟨gb, 0, none⟩) 64 64])) : RowsB W3 B v' (cs ++ [c]) := by
  have kk : ∀ g c', OwnB W2 g c' → OwnB W3 g c' := fun g c' hc' => hc'.of_block (hg.block g hc'.lt (fun e => by
    obtain ⟨q, hq⟩ := own_type h1 e.symm
    exact ne_ty hq hc' (by decide) rfl))
  refine ⟨_, by rw [List.length_append, List.length_singleton]; exact ho, by simp [h2], fun i c' hi => ?_⟩
  rw [List.getElem?_append] at hi
  split at hi
  · rename_i hlt
    obtain ⟨g, h4, h5, h6⟩ := h3 i c' hi
    exact ⟨g, by rw [List.getElem?_append_left (by omega)]; exact h4, h5, kk g c' h6⟩
  · rename_i hlt
    have hi0 : i = cs.length := by
      rcases Nat.lt_or_ge (i - cs.length) 1 with h | h
      · omega
      · rw [List.getElem?_eq_none (by simpa using h)] at hi; cases hi
    subst hi0
    simp at hi
    subst hi
    exact ⟨gb, by rw [List.getElem?_append_right (by omega), h2]; simp, hgb, kk gb c hob⟩
theorem cell_one (W : World) (x : Value) (t : TypeId) : ∀ j u, [x][j]? = some u → (W.alloc (.cells #[x] t)).cell? ((⟨W.heap.size, 0, none⟩ : Addr).add j) = some u := fun j u hu => by
  rw [Addr.add_mid, Nat.zero_add, cell8 (heapNew W (.cells #[x] t))]
  simpa using hu
theorem size_one (W : World) (o : Obj) {n : Nat} (h : n ≤ W.heap.size) : n ≤ (W.alloc o).heap.size := by simp; omega
set_option maxRecDepth 100000 in
set_option maxHeartbeats 1000000 in
theorem ppb_any (w : World) (pb n : Nat) (v : Value) (rs : List (List Nat × Nat)) (hR : PastR w pb v n rs) (hn : (exR rs).length ≤ 274877906944) (hrl : rs.length ≤ 274877906944) (ht : ∀ r ∈ rs, r.2 ≤ 274877906944) :
    Calls Try.prog 44 #[.pointer (some ⟨pb, 0, none⟩)] w fun e w' => ∃ lv, e = .returned lv ∧ RowsB w' w.heap.size lv (exR rs) ∧ Below w.heap.size w w' := by
  obtain ⟨ap, ac, hv⟩ := own_slice hR.2.1
  obtain ⟨Z, hzl, hz⟩ := zero_run
  obtain ⟨d, hd, hdr⟩ := struct_run
  obtain ⟨i0, hi, hz0, hz1, hz2⟩ := infoRow
  have c0 : w.cell? ⟨pb, 0, none⟩ = some v := cell8 hR.1 0
  rw [hv] at c0
  have HH := hide hR
  have HV := hide hv
  have HZ := hide hz
  have HZL := hide hzl
  have HD := hide hd
  have HDR := hide hdr
  have HT := hide ht
  have HNN := hide hn
  clear hR hv hz hzl hd hdr ht hn
  generalize hm : rs.length = m at *
  have HM := hide hm
  clear hm
  go_enter Try.func44, Try.ntmps44
  go_wp2
  go_loopw [3, 11] (fun lv iv wr => ∃ j : Nat, iv = .int .i64 (j : Int) ∧ j ≤ m ∧ RowsB wr w.heap.size lv (exR (rs.take j)) ∧ Below w.heap.size w wr) (fun lv iv _ => (m - (intOf iv).toNat))
  case atStart => exact ⟨0, rfl, Nat.zero_le _, RowsB.nil _ _, Below.refl _ _⟩
  case round =>
    obtain ⟨j, rfl, hj, hrw, hB⟩ := hrel
    have hw := HH.out.below hB
    by_cases hlt : j < m
    · obtain ⟨r, hr⟩ : ∃ r, rs[j]? = some r := ⟨_, List.getElem?_eq_getElem (by rw [HM.out]; exact hlt)⟩
      obtain ⟨g, rfl⟩ : ∃ g, ap = some ⟨g, 0, none⟩ := by
        rcases HH.out.2.1.2 with ⟨h1, h2⟩ | ⟨g, cap, cur, h1, _⟩
        · rw [HM.out] at h2; omega
        · rw [HV.out] at h1; cases h1; exact ⟨g, rfl⟩
      have hown := hw.2.1
      rw [HV.out] at hown
      have hrg := row_range hown hw.2.2 hr
      have hrm : r ∈ rs := List.mem_of_getElem? hr
      have hr64 := (hw.2.2 r hrm).1
      have hrl := runC_len r hr64
      have hrt := HT.out r hrm
      have l0 := fun X => index_run g j m ac hlt X
      have hsz : (Try.prog.info? 108).map (·.size) = some (runC r).length := by rw [hrl]; kernel_rfl
      have hsz2 : (Try.prog.info? 108).map (·.size) = some (runC r).toArray.size := by rw [List.size_toArray]; exact hsz
      have hth : (wr.alloc (.cells Z.toArray 108)).there wr.heap.size 0 (runC r).toArray.size := there_row (heapNew wr _) 0 _ (by rw [List.size_toArray, hrl, HZL.out]; omega)
      obtain ⟨n1, n2, n3⟩ := new_row (W := wr) (cur := Z) (vs := runC r) (t := 108) (hrl.trans HZL.out.symm)
      have ct : ((wr.alloc (.cells Z.toArray 108)).setCells wr.heap.size 0 (runC r)).cell? ⟨wr.heap.size, 64, none⟩ = some (.int .i64 (r.2 : Int)) := by
        rw [cell8 n1]
        simp [runC, hr64]
      have hB2 : Below w.heap.size w ((wr.alloc (.cells Z.toArray 108)).setCells wr.heap.size 0 (runC r)) := hB.trans (n2.mono hB.size)
      have hrw2 := hrw.below n2
      have hex : exR (rs.take (j + 1)) = exR (rs.take j) ++ List.replicate r.2 r.1 := by
        rw [List.take_add_one, hr, exR_append]
        simp [exR]
      have hlen : ∀ k, k ≤ r.2 → (exR (rs.take j) ++ List.replicate k r.1).length ≤ 274877906944 := fun k hk => by
        have h5 : (exR rs).length = (exR (rs.take (j + 1))).length + (exR (rs.drop (j + 1))).length := by rw [← List.length_append, ← exR_append, List.take_append_drop]
        have h6 := HNN.out
        rw [hex] at h5
        simp at h5 ⊢
        omega
      have HS := hide (all_oneCell_toArray (runC_cell r))
      have HRG := hide hrg
      have HSZ := hide hsz
      have HSZ2 := hide hsz2
      have HTH := hide hth
      have HB2 := hide hB2
      have HRW2 := hide hrw2
      have HEX := hide hex
      have HLEN := hide hlen
      have N1 := hide n1
      have HR64 := hide hr64
      have htI : (r.2 : Int) ≤ 274877906944 := by omega
      have jI : (j : Int) < (m : Int) := by omega
      have hwl := hB.size
      have HWL := hide hwl
      obtain ⟨t, htt⟩ : ∃ t, t = r.2 := ⟨_, rfl⟩
      rw [← htt] at ct htI
      have HTT := hide htt
      clear hown hrg hr64 hrl hsz hsz2 hth n1 n2 n3 hB2 hw hr hrm hB hrt hrw hrw2 hex hlen htt hwl
      go_wp2_with (first | (refine wpList_load_mid rfl 108 (.tmp 13) rfl g (j * 65) (by kernel_rfl) (runC r) d HRG.out HD.out HDR.out HSZ.out ?_) | (refine wpList_alloc_row rfl 108 rfl Z (HZ.out _) ?_) | (refine wpList_store_mid rfl 108 (.tmp 5) (.tmp 14) rfl wr.heap.size 0 (runC r).toArray (by kernel_rfl) (by kernel_rfl) HTH.out HSZ2.out HS.out ?_))
      try go_frame
      generalize hX : (wr.alloc (.cells Z.toArray 108)).setCells wr.heap.size 0 (runC r) = X at *
      clear hX HRG HTH HSZ HSZ2 HS
      generalize wr.heap.size = G at *
      go_loopw [3, 17] (fun lv iv ws => ∃ k : Nat, iv = .int .i64 (k : Int) ∧ k ≤ t ∧ RowsB ws w.heap.size lv (exR (rs.take j) ++ List.replicate k r.1) ∧ Below w.heap.size w ws ∧ ws.heap[G]? = some (.cells (runC r).toArray 108 (0, 0))) (fun lv iv _ => (t - (intOf iv).toNat))
      case atStart => exact ⟨0, rfl, Nat.zero_le _, by simpa using HRW2.out, HB2.out, N1.out⟩
      case round =>
        obtain ⟨k, rfl, hk, hrw, hB, hg5⟩ := hrel
        by_cases hkt : k < t
        · have kI : (k : Int) < (t : Int) := by omega
          have kb := pcb_any wr r.1 HR64.out
          have hrn : wr.rangeAt G 0 (r.1.map B8) := fun q u hu => by
            have hq : q < (r.1.map B8).length := (List.getElem?_eq_some_iff.1 hu).1
            rw [Nat.zero_add]
            refine (cell8 hg5 q).trans ?_
            simp only [runC, List.getElem?_toArray]
            rw [List.getElem?_append_left hq]
            exact hu
          obtain ⟨q, hq⟩ : ∃ q, q = (exR (rs.take j) ++ List.replicate k r.1).length := ⟨_, rfl⟩
          have hq2 : q ≤ 274877906944 := by rw [hq]; exact HLEN.out k (by rw [← HTT.out]; omega)
          obtain ⟨vals, o1, o2, o3⟩ := hrw
          have HRN := hide hrn
          have KB := hide kb
          have O2 := hide o2
          have O3 := hide o3
          have HB := hide hB
          have HG5 := hide hg5
          have HQ := hide hq
          rw [← hq] at o1
          have O1 := hide o1
          clear hrn kb o1 o2 o3 hB hg5 hq
          go_wp2_with (first | (refine wpList_load_mid rfl 83 (.tmp 20) rfl G 0 (by kernel_rfl) (r.1.map B8) (.array 8 81) HRN.out (by kernel_rfl) rfl (by rw [List.length_map, HR64.out]; kernel_rfl) ?_) | (go_at_call 45; refine (KB.out).mono ?_; rintro e W1 ⟨rfl, hob, hb1⟩; have HOB := hide hob; have HB1 := hide hb1; clear hob hb1; have ho2 : (W1.alloc (.cells #[.slice (some ⟨wr.heap.size + 1, 0, none⟩) 64 64] 28)).ownsRow w.heap.size 28 1 u3 q vals := ownsRow_of_block O1.out (fun g hg => (by obtain ⟨c, hc⟩ := own_type O1.out hg; exact (((Below.refl _ W1).alloc (Nat.le_refl _) _).block g (Nat.lt_of_lt_of_le (lt_of_heap hc) HB1.out.size)).trans (HB1.out.block g (lt_of_heap hc)))); have HO2 := hide ho2; clear ho2) | (at_builtin; refine wpList_append_own_at _ rfl _ _ 46 rfl w.heap.size 28 i0 (.slice none 0 0) 1 24 Try.underlying46 hi hz0 hz1 hz2 rfl (by decide) u3 q vals rfl HO2.out ⟨W1.heap.size, 0, none⟩ 1 1 [.slice (some ⟨wr.heap.size + 1, 0, none⟩) 64 64] rfl rfl (cell_one W1 _ _) (by simp [Value.oneCell']) (by unfold maxLen; omega) (by omega) (size_one W1 _ (Nat.le_trans HB.out.size HB1.out.size)) ?_; intro v1 x1 ho3 hg3 hnn hat; clear hnn hat; have HO3 := hide ho3; have HG3 := hide hg3; clear ho3 hg3))
          go_roundw
          case rel =>
            have hA := (Below.refl _ W1).alloc (Nat.le_refl _) (.cells #[.slice (some ⟨wr.heap.size + 1, 0, none⟩) 64 64] 28)
            have hbb : Below wr.heap.size wr (W1.alloc (.cells #[.slice (some ⟨wr.heap.size + 1, 0, none⟩) 64 64] 28)) := HB1.out.trans (hA.mono HB1.out.size)
            have hown1 : ∀ g, u3.ownBlock = some g → w.heap.size ≤ g := fun g hg => by
              rcases O1.out.2 with ⟨e1, _⟩ | ⟨g', cap, cur, e1, e2, _⟩
              · rw [e1] at hg; cases hg
              · rw [e1] at hg; cases hg; exact e2
            have hm := RowsB.more (cs := exR (rs.take j) ++ List.replicate k r.1) (c := r.1) (gb := wr.heap.size + 1) (by rw [← HQ.out]; exact HO2.out) O2.out (fun i c hi => by
              obtain ⟨g, h4, h5, h6⟩ := O3.out i c hi
              exact ⟨g, h4, h5, h6.below hbb h6.lt⟩) (by have := HB.out.size; omega) (HOB.out.below hA HOB.out.lt) HG3.out (by rw [← HQ.out]; exact HO3.out)
            refine ⟨k + 1, int_congrP (by omega), by omega, by rw [List.replicate_succ', ← List.append_assoc]; exact hm, ?_, ?_⟩
            · have h7 := hbb
              have h8 := HG3.out
              exact ⟨h8.os.trans (h7.os.trans HB.out.os), h8.tape.trans (h7.tape.trans HB.out.tape), h8.output.trans (h7.output.trans HB.out.output), Nat.le_trans HB.out.size (Nat.le_trans h7.size h8.size), fun g hg => (h8.block g (by have := h7.size; have := HB.out.size; omega) (fun e => by have := hown1 g e.symm; omega)).trans ((h7.block g (by have := HB.out.size; omega)).trans (HB.out.block g hg))⟩
            · have h9 := (hbb.block G (lt_of_heap HG5.out)).trans HG5.out
              refine (HG3.out.block G (lt_of_heap h9) (fun e => ?_)).trans h9
              obtain ⟨c, hc⟩ := own_type HO2.out e.symm
              exact ne_ty hc h9 (by decide) rfl
          case measure => simp [intOf]; omega
        · have kI : ¬ (k : Int) < (t : Int) := by omega
          obtain rfl : k = t := by omega
          have HRW := hide hrw
          have HB := hide hB
          clear hrw hB hg5
          go_wp2
          go_roundw
          case rel => exact ⟨j + 1, int_congrP (by omega), by omega, by rw [HEX.out, ← HTT.out]; exact HRW.out, HB.out⟩
          case measure => simp [intOf]; omega
    · have hjm : j = m := by omega
      subst hjm
      have h5 := hrw
      rw [List.take_of_length_le (by rw [HM.out]; exact Nat.le_refl _)] at h5
      have HRW := hide h5
      have HB := hide hB
      clear hrw h5 hw hB
      go_wp2
      go_ret
      exact ⟨_, rfl, HRW.out, HB.out⟩
end Go.Proofs.Ytkdonacnnienaaa
