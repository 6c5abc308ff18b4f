/- Package pmem: a line has one content more: the first one that it has beside what is seen. -/
import Derived.Test.YtgfgihpkbbjkfaaPChg
namespace Go.Proofs.Ytgfgihpkbbjkfaa
open Go.RowKit
set_option linter.unusedVariables false

set_option maxRecDepth 100000 in
set_option maxHeartbeats 2000000 in
theorem pchg_new {w : World} {b i : Nat} {L : Lay} {σ : St} {c : List Nat} (h : DevL w b L σ) (hok : σ.Ok) (hi : i < σ.n) (hc : c.length = 64) (hp : σ.past i = []) (hN : L.N ≤ 4611686018427387904) :
    Calls Try.prog 67 #[.pointer (some ⟨b, 0, none⟩), .int .i64 (i : Int), .agg (c.map B8).toArray] w fun e w' => e = .returned (.tuple #[]) ∧ ∃ L', DevL w' b L' (σ.put i c) ∧ (∀ k, Foot b L' (σ.put i c) k → Foot b L σ k ∨ w.heap.size ≤ k) ∧ Gr (Foot b L σ) w w' ∧ L'.N ≤ L.N + 1 ∧ SameL L L' := by
  have hA : Below w.heap.size w (w.alloc (.cells (c.map B8).toArray 73)) := (Below.refl _ w).alloc (Nat.le_refl _) _
  have hd1 := h.below hA
  have hx1 := heapNew w (.cells (c.map B8).toArray 73)
  have c1 := hd1.c1
  have c2 := hd1.c2
  have hlr := line_range hd1 hok hi
  have hll := line_len hok hi
  have hnm := hok.max
  have hiI : (i : Int) < (σ.n : Int) := by omega
  have l0 := fun W => index_line L.sb i σ.n L.cp hi W
  have hwf := wfI (i := i) (by omega)
  have hof : oldF L σ (i : Int) = none := by unfold oldF; rw [if_neg (fun h => h.2 (by simpa using hp))]
  have hA2 : Below (w.alloc (.cells (c.map B8).toArray 73)).heap.size (w.alloc (.cells (c.map B8).toArray 73)) ((w.alloc (.cells (c.map B8).toArray 73)).alloc (.cells #[.slice none 0 0, .int .i64 0] 121)) := (Below.refl _ _).alloc (Nat.le_refl _) _
  have hd2 := hd1.below hA2
  have c2' := hd2.c2
  have hsz1 : (w.alloc (.cells (c.map B8).toArray 73)).heap.size = w.heap.size + 1 := by simp
  have hnew := heapNew (w.alloc (.cells (c.map B8).toArray 73)) (.cells #[.slice none 0 0, .int .i64 0] 121)
  have hx2 := (hA2.block w.heap.size (lt_of_heap hx1)).trans hx1
  obtain ⟨eo, qo, hob2⟩ := hd2.old.block
  have f3 : ∀ w3 : World, ((w.alloc (.cells (c.map B8).toArray 73)).alloc (.cells #[.slice none 0 0, .int .i64 0] 121)).grownBy w3 (some L.ob) → w3.cell? ⟨b, 1, none⟩ = some (.slice (some ⟨L.sb, 0, none⟩) σ.n L.cp) ∧ w3.rangeAt L.sb (i * 64) ((σ.line i).map B8) ∧ PastAt w3 (w.alloc (.cells (c.map B8).toArray 73)).heap.size (.slice none 0 0) [] := fun w3 hg => by
    have kk : ∀ (k : Nat) (c' : Array Value) (t : TypeId) (f : Nat × Nat), ((w.alloc (.cells (c.map B8).toArray 73)).alloc (.cells #[.slice none 0 0, .int .i64 0] 121)).heap[k]? = some (.cells c' t f) → w3.heap[k]? = ((w.alloc (.cells (c.map B8).toArray 73)).alloc (.cells #[.slice none 0 0, .int .i64 0] 121)).heap[k]? := fun k c' t f hk => hg.block k (lt_of_heap hk) (fun e => ne_map hk hob2 (by cases e; rfl))
    refine ⟨cell8 ((kk _ _ _ _ hd2.dev).trans hd2.dev) 1, fun j u hu => (World.cell?_of_block (kk _ _ _ _ hd2.seen)).trans (line_range hd2 hok hi j u hu), (kk _ _ _ _ hnew).trans hnew, [], ⟨rfl, .inl ⟨rfl, rfl⟩⟩, rfl, fun r hr => by cases hr⟩
  have ka := fun w3 hP => padd_any (w.alloc (.cells (c.map B8).toArray 73)).heap.size (σ.line i) (.slice none 0 0) [] w3 hP hll (by simp)
  have KA := hide ka
  have F3 := hide f3
  have HOLD := hide hd1.old
  have HOLD2 := hide hd2.old
  have HOF := hide hof
  have HLL := hide hll
  have HD2 := hide hd2
  have HD := hide h
  have HX := hide hx2
  have HA := hide hA
  have HA2 := hide hA2
  have HOK := hide hok
  have HP := hide hp
  have HNEW := hide hnew
  have hNm : L.N < maxLen := by unfold maxLen; omega
  have HN := hide hNm
  rw [hsz1] at KA F3 HNEW
  have e1 : w.heap.size + 1 ≠ b := fun e => by have := h.lt; omega
  clear h hok hd1 hx1 hA hA2 ka hof hlr hll hp hnm hd2 hx2 hnew f3 hob2 hNm hN hsz1 e1
  go_enter Try.func67, Try.ntmps67
  go_wp2_with (first | (at_lookup; refine wpList_look_none rfl (.tmp 12) (.tmp 13) rfl L.ob L.N (oldF L σ) (by kernel_rfl) HOLD.out i (by kernel_rfl) hwf HOF.out ?_) | (at_mapUpdate; refine wpList_put_ptr rfl (.tmp 24) (.tmp 25) (.tmp 26) rfl L.ob L.N (oldF L σ) (by kernel_rfl) HOLD2.out HN.out i (by kernel_rfl) hwf (w.heap.size + 1) (by kernel_rfl) ?_; intro w3 hm3 hg3; obtain ⟨d1, hlr3, hp3⟩ := F3.out w3 hg3; have HLR3 := hide hlr3; have KA3 := hide (KA.out w3 hp3); have HP3 := hide hp3; have HM3 := hide hm3; have HG3 := hide hg3; clear hlr3 hp3 hm3 hg3) | (refine wpList_load_mid rfl 73 (.tmp 33) rfl L.sb (i * 64) (by kernel_rfl) ((σ.line i).map B8) (.array 8 71) HLR3.out (by kernel_rfl) rfl (by rw [List.length_map, HLL.out]; kernel_rfl) ?_) | (go_at_call 83; refine (KA3.out).mono ?_; rintro e W4 ⟨rfl, v', hP, hl4, hg4⟩))
  have hd := HD.out
  have hok := HOK.out
  have hA := HA.out
  have hA2 := HA2.out
  have hd2 := HD2.out
  have hp := HP.out
  have hg3 := HG3.out
  have hs1 : (w.alloc (.cells (c.map B8).toArray 73)).heap.size = w.heap.size + 1 := by simp
  have hs2 : ((w.alloc (.cells (c.map B8).toArray 73)).alloc (.cells #[.slice none 0 0, .int .i64 0] 121)).heap.size = w.heap.size + 2 := by simp
  have hs3 := hg3.size
  have hAA := bseq hA hA2
  obtain ⟨kc, km⟩ := keep_past HP3.out hg4
  obtain ⟨eo, qo, hob2⟩ := hd2.old.block
  have kk : ∀ (k : Nat) (c' : Array Value) (t : TypeId) (f : Nat × Nat), ((w.alloc (.cells (c.map B8).toArray 73)).alloc (.cells #[.slice none 0 0, .int .i64 0] 121)).heap[k]? = some (.cells c' t f) → w3.heap[k]? = ((w.alloc (.cells (c.map B8).toArray 73)).alloc (.cells #[.slice none 0 0, .int .i64 0] 121)).heap[k]? := fun k c' t f hk => hg3.block k (lt_of_heap hk) (fun e => ne_map hk hob2 (by cases e; rfl))
  -- old blocks of cells: but for the new past none has changed
  have k1 : ∀ (k : Nat) (c' : Array Value) (t : TypeId) (f : Nat × Nat), w.heap[k]? = some (.cells c' t f) → W4.heap[k]? = w.heap[k]? := fun k c' t f hk => by
    have h2 := (hAA.block k (lt_of_heap hk)).trans hk
    have h3 := (kk k c' t f h2).trans h2
    have hlt := lt_of_heap hk
    refine (hg4.block (lt_of_heap h3) ?_).trans (h3.trans hk.symm)
    rintro (e | e)
    · omega
    · cases e
  obtain ⟨e2, q2, hfb⟩ := hd.flm.block
  have hfl : W4.heap[L.fb]? = w.heap[L.fb]? := by
    have h2 := (hAA.block _ (lt_of_heap hfb)).trans hfb
    have h3 := (hg3.block L.fb (lt_of_heap h2) (fun e => hd.mne (Option.some.inj e).symm)).trans h2
    exact (km _ _ _ h3).trans (h3.trans hfb.symm)
  obtain ⟨e3, q3, hob3⟩ := HM3.out.block
  have hbx : W4.heap[w.heap.size]? = some (.cells (c.map B8).toArray 73 (0, 0)) := by
    have h3 := (kk _ _ _ _ HX.out).trans HX.out
    exact (kc _ _ _ _ h3 (by decide) (by decide)).trans h3
  have hgw : Gr (Foot b L σ) w W4 := ((Gr.of_below hAA : Gr (Foot b L σ) w _).trans (Gr.of_grown (X := Foot b L σ) hg3 (fun k hk => .inl (by cases hk; exact .inr (.inr (.inl rfl))))) (fun k h => .inl h)).trans hg4 (fun k hk => .inr (hk.elim (fun e => by omega) (fun e => by cases e)))
  have hdev := k1 b _ _ _ hd.dev
  have hseen := k1 L.sb _ _ _ hd.seen
  have hfin := pchg_fin (W4 := W4.drew) (pbi := w.heap.size + 1) (v' := v') (M := L.N + 1) hd hok hi hc hgw hdev hseen hfl ((HM3.out.of_block (km _ _ _ hob3) : MapG ptrE DataW.held W4.drew L.ob (L.N + 1) _).congr (oldF_new L σ i (w.heap.size + 1) c hp)) (by omega) (by rw [hp]; exact hP)
    (fun j hji hj => ⟨k1 _ _ _ _ (hd.pasts j hj).1, fun g hg => by obtain ⟨c', hc'⟩ := (hd.pasts j hj).row hg; exact k1 _ _ _ _ hc'⟩)
    (fun j hji hj e => by have := lt_of_heap (hd.pasts j hj).1; omega)
    (fun j g hji hj hg hg' => by
      rcases hl4 with h | ⟨g2, h, h2⟩
      · rw [hg] at h; cases h
      · rw [hg] at h; cases h
        obtain ⟨c', hc'⟩ := (hd.pasts j hj).row hg'
        have := lt_of_heap hc'
        omega)
    (fun k hk => by
      rcases hk with hk | hk
      · obtain ⟨c', hc'⟩ := hd.av_row hk
        exact k1 k _ _ _ hc'
      · obtain ⟨c', hc'⟩ := hd.kbt k hk
        exact k1 k _ _ _ hc')
    (.inr (by omega))
    (fun g hg => by
      rcases hl4 with h | ⟨g2, h, h2⟩
      · rw [hg] at h; cases h
      · rw [hg] at h; cases h
        exact .inr (by omega))
  have fin : ∃ L', DevL (W4.drew.setCells L.sb (i * 64) (c.map B8)) b L' (σ.put i c) ∧ (∀ k, Foot b L' (σ.put i c) k → Foot b L σ k ∨ w.heap.size ≤ k) ∧ Gr (Foot b L σ) w (W4.drew.setCells L.sb (i * 64) (c.map B8)) ∧ L'.N ≤ L.N + 1 ∧ SameL L L' := by
    obtain ⟨L', f1, f2, f3, f4, f5⟩ := hfin
    exact ⟨L', f1, f2, f3, by omega, f5⟩
  have FIN := hide fin
  have sb : W4.drew.cell? ⟨b, 1, none⟩ = some (.slice (some ⟨L.sb, 0, none⟩) σ.n L.cp) ∧ W4.drew.rangeAt w.heap.size 0 (c.map B8) := ⟨cell8 (hdev.trans hd.dev) 1, range_all (w := W4.drew) hbx⟩
  have SB := hide sb
  have th : W4.drew.there L.sb (i * 64) (c.map B8).toArray.size := there_row (w := W4.drew) (hseen.trans hd.seen) _ _ (by rw [List.size_toArray, List.length_map, List.length_append, List.length_map, hc, hok.len]; omega)
  have TH := hide th
  have si : (Try.prog.info? 73).map (·.size) = some (c.map B8).toArray.size := by rw [List.size_toArray, List.length_map, hc]; kernel_rfl
  have SI := hide si
  have S1 := hide (all_oneCell_toArray (B8_cell c))
  clear si fin sb th hfin hgw hbx hfb hseen hdev k1 kc km hp hd hok hA hs1 hP hl4 hg4 hd2 hA2 hg3 hs2 hs3 hAA hob2 kk hfl hob3 HD HD2 HX HA HA2 HOK HP KA KA3 F3 HOLD HOLD2 HOF HLR3 HLL HP3 HM3 HG3 HNEW HN
  refine wp_region_early 7 (fun X => X.cell? ⟨b, 1, none⟩ = some (.slice (some ⟨L.sb, 0, none⟩) σ.n L.cp) ∧ X.rangeAt w.heap.size 0 (c.map B8)) (by kernel_rfl) SB.out (fun hS => ?_)
  refine wpAnyE_take (i := 0) (v := (.pointer (some ⟨b, 0, none⟩))) rfl (by kernel_rfl) (by kernel_rfl) (by kernel_rfl) (by kernel_rfl) (fun _ _ _ h => h) (Or.inl ⟨by kernel_rfl, fun w' hw => by (go_simp)⟩) hS ?_
  refine wpAnyE_take (i := 1) (v := (.pointer (some ⟨b, 0, none⟩))) rfl (by kernel_rfl) (by kernel_rfl) (by kernel_rfl) (by kernel_rfl) (fun _ _ _ h => h) (Or.inl ⟨by kernel_rfl, fun w' hw => by (go_simp)⟩) hS ?_
  refine wpAnyE_take (i := 2) (v := (.pointer (some ⟨b, 1, none⟩))) rfl (by kernel_rfl) (by kernel_rfl) (by kernel_rfl) (by kernel_rfl) (fun _ _ _ h => h) (Or.inl ⟨by kernel_rfl, fun w' hw => by (go_simp)⟩) hS ?_
  refine wpAnyE_take (i := 3) (v := (.slice (some ⟨L.sb, 0, none⟩) σ.n L.cp)) rfl (by kernel_rfl) (by kernel_rfl) (by kernel_rfl) (by kernel_rfl) (fun _ _ _ h => h) (Or.inl ⟨by kernel_rfl, fun w' hw => by (obtain ⟨z0, _⟩ := hw; go_simp)⟩) hS ?_
  refine wpAnyE_take (i := 4) (v := (.int .i64 (i : Int))) rfl (by kernel_rfl) (by kernel_rfl) (by kernel_rfl) (by kernel_rfl) (fun _ _ _ h => h) (Or.inl ⟨by kernel_rfl, fun w' hw => by (go_simp)⟩) hS ?_
  refine wpAnyE_take (i := 5) (v := (.agg (c.map B8).toArray)) rfl (by kernel_rfl) (by kernel_rfl) (by kernel_rfl) (by kernel_rfl) (fun _ _ _ h => h) (yieldsIf_load_mid (by kernel_rfl) 73 (.tmp 5) (by kernel_rfl) w.heap.size (0) (by kernel_rfl) (c.map B8) (.array 8 71) (fun w hw => hw.2) (by kernel_rfl) rfl (by rw [List.length_map, hc]; kernel_rfl)) hS ?_
  refine wpAnyE_take (i := 6) (v := (.pointer (some ⟨L.sb, i * 64, none⟩))) rfl (by kernel_rfl) (by kernel_rfl) (by kernel_rfl) (by kernel_rfl) (fun _ _ _ h => h) (Or.inl ⟨by kernel_rfl, fun w' hw => by (have e := index_line L.sb i σ.n L.cp hi w'; go_simp)⟩) hS ?_
  refine wpAnyE_store 73 (.tmp 42) (.tmp 41) L.sb (i * 64) (c.map B8).toArray (by kernel_rfl) rfl (by kernel_rfl) (by kernel_rfl) (by kernel_rfl) (by kernel_rfl) (by kernel_rfl) TH.out SI.out S1.out ?_
  simp only [Act.put, List.getElem_toArray, List.getElem_cons_zero, List.getElem_cons_succ, List.setIfInBounds_toArray, List.set_cons_zero, List.set_cons_succ]
  go_wp2_with (fail)
  go_end0
  exact ⟨rfl, FIN.out⟩
theorem pchg_any {w : World} {b i : Nat} {L : Lay} {σ : St} {c : List Nat} (h : DevL w b L σ) (hok : σ.Ok) (hi : i < σ.n) (hc : c.length = 64) (hN : L.N ≤ 4611686018427387904) :
    Calls Try.prog 67 #[.pointer (some ⟨b, 0, none⟩), .int .i64 (i : Int), .agg (c.map B8).toArray] w fun e w' => e = .returned (.tuple #[]) ∧ ∃ L', DevL w' b L' (σ.put i c) ∧ (∀ k, Foot b L' (σ.put i c) k → Foot b L σ k ∨ w.heap.size ≤ k) ∧ Gr (Foot b L σ) w w' ∧ L'.N ≤ L.N + 1 ∧ SameL L L' := by
  by_cases hp : σ.past i = []
  · exact pchg_new h hok hi hc hp hN
  · exact pchg_more h hok hi hc hp (Nat.le_trans (hok.few i) hok.opsm)
end Go.Proofs.Ytgfgihpkbbjkfaa
