/- Package pmem: a line has one content more. -/
import Derived.Test.YtgfgihpkbbjkfaaPChgA
namespace Go.Proofs.Ytgfgihpkbbjkfaa
open Go.RowKit
set_option linter.unusedVariables false

set_option maxRecDepth 100000 in
set_option maxHeartbeats 2000000 in
theorem pchg_more {w : World} {b i : Nat} {L : Lay} {σ : St} {c : List Nat} (h : DevL w b L σ) (hok : σ.Ok) (hi : i < σ.n) (hc : c.length = 64) (hp : σ.past i ≠ []) (hsm : (σ.past i).length ≤ 1400000000000) :
    Calls Try.prog 67 #[.pointer (some ⟨b, 0, none⟩), .int .i64 (i : Int), .agg (c.map B8).toArray] w fun e w' => e = .returned (.tuple #[]) ∧ ∃ L', DevL w' b L' (σ.put i c) ∧ (∀ k, Foot b L' (σ.put i c) k → Foot b L σ k ∨ w.heap.size ≤ k) ∧ Gr (Foot b L σ) w w' ∧ L'.N ≤ L.N + 1 ∧ SameL L L' := by
  have hA : Below w.heap.size w (w.alloc (.cells (c.map B8).toArray 73)) := (Below.refl _ w).alloc (Nat.le_refl _) _
  have hd1 := h.below hA
  have hx1 := heapNew w (.cells (c.map B8).toArray 73)
  have c1 := hd1.c1
  have c2 := hd1.c2
  have hlr := line_range hd1 hok hi
  have hll := line_len hok hi
  have hnm := hok.max
  have hiI : (i : Int) < (σ.n : Int) := by omega
  have l0 := fun W => index_line L.sb i σ.n L.cp hi W
  have hwf := wfI (i := i) (by omega)
  have hof : oldF L σ (i : Int) = some (L.pb i) := by unfold oldF; rw [if_pos ⟨by omega, by simpa using hp⟩]; simp
  have ka := padd_any (L.pb i) (σ.line i) (L.rv i) (σ.past i) _ (hd1.pasts i hp) hll hsm
  have KA := hide ka
  have HOLD := hide hd1.old
  have HOF := hide hof
  have HLR := hide hlr
  have HLL := hide hll
  have HD1 := hide hd1
  have HD := hide h
  have HX := hide hx1
  have HA := hide hA
  have HOK := hide hok
  have HP := hide hp
  clear h hok hd1 hx1 hA ka hof hlr hll hp hsm hnm
  go_enter Try.func67, Try.ntmps67
  go_wp2_with (first | (at_lookup; refine wpList_look_some rfl (.tmp 12) (.tmp 13) rfl L.ob L.N (oldF L σ) (by kernel_rfl) HOLD.out i (by kernel_rfl) hwf (L.pb i) HOF.out ?_) | (refine wpList_load_mid rfl 73 (.tmp 33) rfl L.sb (i * 64) (by kernel_rfl) ((σ.line i).map B8) (.array 8 71) HLR.out (by kernel_rfl) rfl (by rw [List.length_map, HLL.out]; kernel_rfl) ?_) | (go_at_call 83; refine (KA.out).mono ?_; rintro e W4 ⟨rfl, v', hP, hl4, hg4⟩))
  have hd := HD.out
  have hok := HOK.out
  have hA := HA.out
  have hs1 : (w.alloc (.cells (c.map B8).toArray 73)).heap.size = w.heap.size + 1 := by simp
  have hd1 := HD1.out
  have hp := HP.out
  obtain ⟨kc, km⟩ := keep_past (hd1.pasts i hp) hg4
  have k1 : ∀ (k : Nat) (c' : Array Value) (t : TypeId) (f : Nat × Nat), w.heap[k]? = some (.cells c' t f) → t ≠ 121 → t ≠ 145 → W4.heap[k]? = w.heap[k]? := fun k c' t f hk h1 h2 =>
    (kc k c' t f ((hA.block k (lt_of_heap hk)).trans hk) h1 h2).trans (hA.block k (lt_of_heap hk))
  have k2 : ∀ (k : Nat) (es : Array MapEntry) (q : Nat), w.heap[k]? = some (.map es q) → W4.heap[k]? = w.heap[k]? := fun k es q hk => (km k es q ((hA.block k (lt_of_heap hk)).trans hk)).trans (hA.block k (lt_of_heap hk))
  have hdev := k1 b _ _ _ hd.dev (by decide) (by decide)
  have hseen := k1 L.sb _ _ _ hd.seen (by decide) (by decide)
  obtain ⟨e2, q2, hfb⟩ := hd.flm.block
  obtain ⟨e1, q1, hob⟩ := hd.old.block
  have hbx : W4.heap[w.heap.size]? = some (.cells (c.map B8).toArray 73 (0, 0)) := (kc _ _ _ _ HX.out (by decide) (by decide)).trans HX.out
  have hgw : Gr (Foot b L σ) w W4 := (Gr.of_below hA).trans hg4 (fun k hk => .inl (hk.elim (fun e => by subst e; exact .inr (.inr (.inr (.inr (.inl ⟨i, hp, .inl rfl⟩))))) (fun e => .inr (.inr (.inr (.inr (.inl ⟨i, hp, .inr e⟩)))))))
  have hoth : ∀ j, j ≠ i → σ.past j ≠ [] → W4.heap[L.pb j]? = w.heap[L.pb j]? ∧ ∀ g, (L.rv j).ownBlock = some g → W4.heap[g]? = w.heap[g]? := fun j hji hj => by
    have hx := (hd1.pasts j hj)
    refine ⟨?_, fun g hg => ?_⟩
    · refine (hg4.block (lt_of_heap hx.1) ?_).trans (hA.block _ (lt_of_heap (hd.pasts j hj).1))
      rintro (e | e)
      · exact hd.pne j i hj hp hji e
      · obtain ⟨c', hc'⟩ := (hd1.pasts i hp).row e
        exact ne_ty hx.1 hc' (by decide) rfl
    · obtain ⟨c', hc'⟩ := (hd.pasts j hj).row hg
      have hc1 := (hA.block g (lt_of_heap hc')).trans hc'
      refine (hg4.block (lt_of_heap hc1) ?_).trans (hA.block _ (lt_of_heap hc'))
      rintro (e | e)
      · subst e; exact ne_ty (hd1.pasts i hp).1 hc1 (by decide) rfl
      · exact hd.rne i j g hp hj (Ne.symm hji) e hg
  have hfin := pchg_fin (W4 := W4.drew) (pbi := L.pb i) (v' := v') (M := L.N) hd hok hi hc hgw hdev hseen (k2 _ _ _ hfb) ((hd.old.of_block (k2 _ _ _ hob) : MapG ptrE DataW.held W4.drew L.ob L.N (oldF L σ)).congr (oldF_more L σ i c hp)) (Nat.le_refl _) hP
    hoth (fun j hji hj e => hd.pne j i hj hp hji e.symm)
    (fun j g hji hj hg hg' => by
      rcases hl4 with h | ⟨g2, h, h2⟩
      · exact hd.rne i j g hp hj (Ne.symm hji) (h.symm.trans hg) hg'
      · rw [hg] at h; cases h
        obtain ⟨c', hc'⟩ := (hd.pasts j hj).row hg'
        have := lt_of_heap hc'
        omega)
    (fun k hk => by
      rcases hk with hk | hk
      · obtain ⟨c', hc'⟩ := hd.av_row hk
        exact k1 k _ _ _ hc' (by decide) (by decide)
      · obtain ⟨c', hc'⟩ := hd.kbt k hk
        exact k1 k _ _ _ hc' (by decide) (by decide))
    (.inl (.inr (.inr (.inr (.inr (.inl ⟨i, hp, .inl rfl⟩))))))
    (fun g hg => by
      rcases hl4 with h | ⟨g2, h, h2⟩
      · exact .inl (.inr (.inr (.inr (.inr (.inl ⟨i, hp, .inr (h.symm.trans hg)⟩)))))
      · rw [hg] at h; cases h
        exact .inr (by omega))
  have fin : ∃ L', DevL (W4.drew.setCells L.sb (i * 64) (c.map B8)) b L' (σ.put i c) ∧ (∀ k, Foot b L' (σ.put i c) k → Foot b L σ k ∨ w.heap.size ≤ k) ∧ Gr (Foot b L σ) w (W4.drew.setCells L.sb (i * 64) (c.map B8)) ∧ L'.N ≤ L.N + 1 ∧ SameL L L' := by
    obtain ⟨L', f1, f2, f3, f4, f5⟩ := hfin
    exact ⟨L', f1, f2, f3, by omega, f5⟩
  have FIN := hide fin
  have sb : W4.drew.cell? ⟨b, 1, none⟩ = some (.slice (some ⟨L.sb, 0, none⟩) σ.n L.cp) ∧ W4.drew.rangeAt w.heap.size 0 (c.map B8) := ⟨cell8 (hdev.trans hd.dev) 1, range_all (w := W4.drew) hbx⟩
  have SB := hide sb
  have th : W4.drew.there L.sb (i * 64) (c.map B8).toArray.size := there_row (w := W4.drew) (hseen.trans hd.seen) _ _ (by rw [List.size_toArray, List.length_map, List.length_append, List.length_map, hc, hok.len]; omega)
  have TH := hide th
  have si : (Try.prog.info? 73).map (·.size) = some (c.map B8).toArray.size := by rw [List.size_toArray, List.length_map, hc]; kernel_rfl
  have SI := hide si
  clear si
  have S1 := hide (all_oneCell_toArray (B8_cell c))
  clear fin sb th hfin hoth hgw hbx hfb hob hseen hdev k1 k2 kc km hp hd1 hd hok hA hs1 hP hl4 hg4 HD HD1 HX HA HOK HP KA HOLD HOF HLR HLL
  refine wp_region_early 7 (fun X => X.cell? ⟨b, 1, none⟩ = some (.slice (some ⟨L.sb, 0, none⟩) σ.n L.cp) ∧ X.rangeAt w.heap.size 0 (c.map B8)) (by kernel_rfl) SB.out (fun hS => ?_)
  refine wpAnyE_take (i := 0) (v := (.pointer (some ⟨b, 0, none⟩))) rfl (by kernel_rfl) (by kernel_rfl) (by kernel_rfl) (by kernel_rfl) (fun _ _ _ h => h) (Or.inl ⟨by kernel_rfl, fun w' hw => by (go_simp)⟩) hS ?_
  refine wpAnyE_take (i := 1) (v := (.pointer (some ⟨b, 0, none⟩))) rfl (by kernel_rfl) (by kernel_rfl) (by kernel_rfl) (by kernel_rfl) (fun _ _ _ h => h) (Or.inl ⟨by kernel_rfl, fun w' hw => by (go_simp)⟩) hS ?_
  refine wpAnyE_take (i := 2) (v := (.pointer (some ⟨b, 1, none⟩))) rfl (by kernel_rfl) (by kernel_rfl) (by kernel_rfl) (by kernel_rfl) (fun _ _ _ h => h) (Or.inl ⟨by kernel_rfl, fun w' hw => by (go_simp)⟩) hS ?_
  refine wpAnyE_take (i := 3) (v := (.slice (some ⟨L.sb, 0, none⟩) σ.n L.cp)) rfl (by kernel_rfl) (by kernel_rfl) (by kernel_rfl) (by kernel_rfl) (fun _ _ _ h => h) (Or.inl ⟨by kernel_rfl, fun w' hw => by (obtain ⟨z0, _⟩ := hw; go_simp)⟩) hS ?_
  refine wpAnyE_take (i := 4) (v := (.int .i64 (i : Int))) rfl (by kernel_rfl) (by kernel_rfl) (by kernel_rfl) (by kernel_rfl) (fun _ _ _ h => h) (Or.inl ⟨by kernel_rfl, fun w' hw => by (go_simp)⟩) hS ?_
  refine wpAnyE_take (i := 5) (v := (.agg (c.map B8).toArray)) rfl (by kernel_rfl) (by kernel_rfl) (by kernel_rfl) (by kernel_rfl) (fun _ _ _ h => h) (yieldsIf_load_mid (by kernel_rfl) 73 (.tmp 5) (by kernel_rfl) w.heap.size (0) (by kernel_rfl) (c.map B8) (.array 8 71) (fun w hw => hw.2) (by kernel_rfl) rfl (by rw [List.length_map, hc]; kernel_rfl)) hS ?_
  refine wpAnyE_take (i := 6) (v := (.pointer (some ⟨L.sb, i * 64, none⟩))) rfl (by kernel_rfl) (by kernel_rfl) (by kernel_rfl) (by kernel_rfl) (fun _ _ _ h => h) (Or.inl ⟨by kernel_rfl, fun w' hw => by (have e := index_line L.sb i σ.n L.cp hi w'; go_simp)⟩) hS ?_
  refine wpAnyE_store 73 (.tmp 42) (.tmp 41) L.sb (i * 64) (c.map B8).toArray (by kernel_rfl) rfl (by kernel_rfl) (by kernel_rfl) (by kernel_rfl) (by kernel_rfl) (by kernel_rfl) TH.out SI.out S1.out ?_
  simp only [Act.put, List.getElem_toArray, List.getElem_cons_zero, List.getElem_cons_succ, List.setIfInBounds_toArray, List.set_cons_zero, List.set_cons_succ]
  go_wp2_with (fail)
  go_end0
  exact ⟨rfl, FIN.out⟩
end Go.Proofs.Ytgfgihpkbbjkfaa
