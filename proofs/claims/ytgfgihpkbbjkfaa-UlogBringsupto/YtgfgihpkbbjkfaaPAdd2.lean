/- Package pmem: a content is put behind the others. -/
import Derived.Test.YtgfgihpkbbjkfaaPAdd
import Derived.Test.YtgfgihpkbbjkfaaPHeld
import Derived.Deep.QuietTactic
import Derived.BigQuiet
namespace Go.Proofs.Ytgfgihpkbbjkfaa
open Go.RowKit
set_option linter.unusedVariables false

set_option maxRecDepth 100000 in
set_option maxHeartbeats 2000000 in
theorem padd_more (pb n : Nat) (c : List Nat) (v : Value) (rs : List (List Nat × Nat)) (cs : List (List Nat)) (w : World) (h : w.heap[pb]? = some (.cells #[v, .int .i64 (n : Int)] 121 (0, 0))) (ho : w.ownsRow 0 145 65 v rs.length (rs.flatMap runC)) (hcs : exR rs = cs) (hn : n = cs.length) (hr : ∀ r ∈ rs, r.1.length = 64 ∧ 1 ≤ r.2) (hc : c.length = 64) (hsm : n ≤ 1400000000000) (hrl : rs.length ≤ 1400000000000) (qs : List (List Nat × Nat)) (d : List Nat) (t q : Nat) (hrs : rs = qs ++ [(d, t)]) (hqd : qs.length = q) (hne : d ≠ c) :
    Calls Try.prog 83 #[.pointer (some ⟨pb, 0, none⟩), .agg (c.map B8).toArray] w fun e w' => e = .returned (.tuple #[]) ∧ ∃ v', PastAt w' pb v' (cs ++ [c]) ∧ (v'.ownBlock = v.ownBlock ∨ ∃ g, v'.ownBlock = some g ∧ w.heap.size ≤ g) ∧ Gr (fun k => k = pb ∨ v.ownBlock = some k) w w' := by
  have hq : rs.length = q + 1 := by rw [hrs]; simp [hqd]
  obtain ⟨g, cap, cur, hv, hg, hcap, hcur, htk⟩ : ∃ g cap cur, v = .slice (some ⟨g, 0, none⟩) (q + 1) cap ∧ w.heap[g]? = some (.cells cur 145 (0, 0)) ∧ q + 1 ≤ cap ∧ cur.size = cap * 65 ∧ cur.toList.take ((q + 1) * 65) = rs.flatMap runC := by
    have ho' := ho
    rw [hq] at ho'
    rcases ho'.2 with ⟨_, h0⟩ | ⟨g, cap, cur, hv, _, hg, hcap, _, hcur, htk⟩
    · omega
    · exact ⟨g, cap, cur, hv, hg, hcap, hcur, htk⟩
  have hpre : (qs.flatMap runC).length = q * 65 := by rw [runs_len qs (fun r hr' => hr r (by rw [hrs]; exact List.mem_append_left _ hr')), hqd]
  have hdl : d.length = 64 := (hr (d, t) (by rw [hrs]; simp)).1
  have hcl : cur = cur.toList.toArray := by simp
  have hdr : (cur.toList.drop (q * 65)).take 65 = runC (d, t) := by
    have e : (cur.toList.drop (q * 65)).take 65 = ((cur.toList.take ((q + 1) * 65)).drop (q * 65)) := by
      rw [List.drop_take]; congr 1; omega
    rw [e, htk, hrs, List.flatMap_append, List.drop_append_of_le_length (by omega), List.drop_of_length_le (by omega)]
    simp
  have hrange : w.rangeAt g (q * 65) (runC (d, t)) := range_row (by rw [← hcl]; exact hg) _ _ (by rw [runC_len (d, t) hdl]; exact hdr)
  have hrd : w.rangeAt g (q * 65) (d.map B8) := fun j u hu => hrange j u (by simp only [runC]; rw [List.getElem?_append_left (List.getElem?_eq_some_iff.1 hu).1]; exact hu)
  have hrt : w.cell? ⟨g, q * 65 + 64, none⟩ = some (.int .i64 (t : Int)) := hrange 64 _ (by simp [runC, hdl])
  obtain ⟨it, Z, hit, hz, hzs', h65, h72⟩ := run_zero
  have hzs : (Value.agg Z).cells.size = 65 := hzs'
  clear hzs'
  have hA : Below w.heap.size w (w.alloc (.cells (c.map B8).toArray 73)) := (Below.refl _ w).alloc (Nat.le_refl _) _
  have h1 := (hA.block pb (lt_of_heap h)).trans h
  have hpb := lt_of_heap h
  have c0 : (w.alloc (.cells (c.map B8).toArray 73)).cell? ⟨pb, 0, none⟩ = some v := cell8 h1 0
  have c1 : (w.alloc (.cells (c.map B8).toArray 73)).cell? ⟨pb, 1, none⟩ = some (.int .i64 (n : Int)) := cell8 h1 1
  have f0 := froz8 h1 0
  have f1 := froz8 h1 1
  have hnI : (n : Int) ≤ 1400000000000 := by omega
  have hx1 := heapNew w (.cells (c.map B8).toArray 73)
  have hvb : v.ownBlock ≠ some pb := fun e => by obtain ⟨c', hc'⟩ := own_type ho e; exact ne_ty hc' h (by decide) rfl
  have e1 : ((n + 1 : Nat) : Int) = (n : Int) + 1 := by omega
  have PB : Hid (∀ nq, (((w.alloc (.cells (c.map B8).toArray 73)).setCell ⟨pb, 1, none⟩ (.int .i64 ((n : Int) + 1))).drewN nq).heap[pb]? = some (.cells #[v, .int .i64 ((n + 1 : Nat) : Int)] 121 (0, 0))) := fun nq => by
    rw [e1]; exact heap_set1 _ pb 1 _ _ _ h1
  have PX : Hid (∀ nq, (((w.alloc (.cells (c.map B8).toArray 73)).setCell ⟨pb, 1, none⟩ (.int .i64 ((n : Int) + 1))).drewN nq).heap[w.heap.size]? = some (.cells (c.map B8).toArray 73 (0, 0))) := fun nq =>
    (heap_set_ne _ pb 1 _ _ (by omega)).trans hx1
  have PG : Hid (∀ nq, Gr (fun k => k = pb ∨ v.ownBlock = some k) w (((w.alloc (.cells (c.map B8).toArray 73)).setCell ⟨pb, 1, none⟩ (.int .i64 ((n : Int) + 1))).drewN nq)) := fun nq =>
    ((Gr.of_below hA : Gr (fun k => k = pb ∨ v.ownBlock = some k) w _).trans (Gr.set _ pb 1 _ (X := fun k => k = pb ∨ v.ownBlock = some k) (.inl rfl) : Gr (fun k => k = pb ∨ v.ownBlock = some k) _ _) (fun i h => .inl h)).drewN nq
  have hgv : ∀ g, v.ownBlock = some g → ((w.alloc (.cells (c.map B8).toArray 73)).setCell ⟨pb, 1, none⟩ (.int .i64 ((n : Int) + 1))).heap[g]? = w.heap[g]? := fun g hg => by
    obtain ⟨c', hc'⟩ := own_type ho hg
    exact (heap_set_ne _ pb 1 g _ (fun e => hvb (by rw [hg, e]))).trans (hA.block g (lt_of_heap hc'))
  have PO : Hid (∀ nq, (((w.alloc (.cells (c.map B8).toArray 73)).setCell ⟨pb, 1, none⟩ (.int .i64 ((n : Int) + 1))).drewN nq).ownsRow 0 145 65 v rs.length (rs.flatMap runC)) := fun nq => ownsRow_of_block ho hgv
  rw [hv] at c0
  have HV := hide hv
  have HRS := hide hrs
  have HPB := hide hpb
  have HN := hide hn
  have HCS := hide hcs
  have HVB := hide hvb
  have hvg : v.ownBlock = some g := by rw [hv]; rfl
  have ps : ((w.alloc (.cells (c.map B8).toArray 73)).setCell ⟨pb, 1, none⟩ (.int .i64 ((n : Int) + 1))).drew.cell? ⟨pb, 0, none⟩ = some (.slice (some ⟨g, 0, none⟩) (q + 1) cap) ∧ ((w.alloc (.cells (c.map B8).toArray 73)).setCell ⟨pb, 1, none⟩ (.int .i64 ((n : Int) + 1))).drew.rangeAt g (q * 65) (d.map B8) ∧ ((w.alloc (.cells (c.map B8).toArray 73)).setCell ⟨pb, 1, none⟩ (.int .i64 ((n : Int) + 1))).drew.rangeAt w.heap.size 0 (c.map B8) := by
    refine ⟨?_, fun j u hu => (World.cell?_of_block (hgv g hvg)).trans (hrd j u hu), range_all (PX.out 0)⟩
    rw [← hv]
    exact cell8 (PB.out 0) 0
  have PS := hide ps
  have l3 : ∀ W : World, (Op.equalIn 10000 73 (.agg (d.map B8).toArray) (.agg (c.map B8).toArray)).run Try.prog W = .ok false W := fun W => by rw [eql_content d c W hdl hc, decide_eq_false hne]
  have hqI : (q : Int) ≤ 1400000000000 := by omega
  clear h h1 ho hgv hA hx1 hv hrs e1 hpb hn hcs hvb hq hpre hdr hrange hrd hqd hcl hcur htk hg hvg hne ps
  go_enter Try.func83, Try.ntmps83
  go_wp2_with (fail)
  have s0 := PS.out
  refine wp_region_held_drew (S := fun X => X.cell? ⟨pb, 0, none⟩ = some (.slice (some ⟨g, 0, none⟩) (q + 1) cap) ∧ X.rangeAt g (q * 65) (d.map B8) ∧ X.rangeAt w.heap.size 0 (c.map B8)) (by kernel_rfl) s0 (fun hS => ?_)
  refine wpAnyH_take (i := 0) (v := (.int .i64 (q : Int))) rfl (by kernel_rfl) (by kernel_rfl) (by kernel_rfl) (fun _ _ _ h => h) (Or.inl ⟨by kernel_rfl, fun w' hw => by (go_simp)⟩) hS ?_
  refine wpAnyH_take (i := 1) (v := (.bool true)) rfl (by kernel_rfl) (by kernel_rfl) (by kernel_rfl) (fun _ _ _ h => h) (Or.inl ⟨by kernel_rfl, fun w' hw => by (go_simp)⟩) hS ?_
  refine wpAnyH_take (i := 2) (v := (.bool true)) rfl (by kernel_rfl) (by kernel_rfl) (by kernel_rfl) (fun _ _ _ h => h) (Or.inl ⟨by kernel_rfl, fun w' hw => by (go_simp)⟩) hS ?_
  refine wpAnyH_take (i := 3) (v := (.pointer (some ⟨pb, 0, none⟩))) rfl (by kernel_rfl) (by kernel_rfl) (by kernel_rfl) (fun _ _ _ h => h) (Or.inl ⟨by kernel_rfl, fun w' hw => by (go_simp)⟩) hS ?_
  refine wpAnyH_take (i := 4) (v := (.pointer (some ⟨pb, 0, none⟩))) rfl (by kernel_rfl) (by kernel_rfl) (by kernel_rfl) (fun _ _ _ h => h) (Or.inl ⟨by kernel_rfl, fun w' hw => by (go_simp)⟩) hS ?_
  refine wpAnyH_take (i := 5) (v := (.pointer (some ⟨pb, 0, none⟩))) rfl (by kernel_rfl) (by kernel_rfl) (by kernel_rfl) (fun _ _ _ h => h) (Or.inl ⟨by kernel_rfl, fun w' hw => by (go_simp)⟩) hS ?_
  refine wpAnyH_take (i := 6) (v := (.slice (some ⟨g, 0, none⟩) (q + 1) cap)) rfl (by kernel_rfl) (by kernel_rfl) (by kernel_rfl) (fun _ _ _ h => h) (Or.inl ⟨by kernel_rfl, fun w' hw => by (obtain ⟨z0, _, _⟩ := hw; go_simp)⟩) hS ?_
  refine wpAnyH_take (i := 7) (v := (.int .i64 (q : Int))) rfl (by kernel_rfl) (by kernel_rfl) (by kernel_rfl) (fun _ _ _ h => h) (Or.inl ⟨by kernel_rfl, fun w' hw => by (go_simp)⟩) hS ?_
  refine wpAnyH_take (i := 8) (v := (.pointer (some ⟨g, q * 65, none⟩))) rfl (by kernel_rfl) (by kernel_rfl) (by kernel_rfl) (fun _ _ _ h => h) (Or.inl ⟨by kernel_rfl, fun w' hw => by (have e := index_run g q (q + 1) cap (by omega) w'; go_simp)⟩) hS ?_
  refine wpAnyH_take (i := 9) (v := (.pointer (some ⟨g, q * 65, none⟩))) rfl (by kernel_rfl) (by kernel_rfl) (by kernel_rfl) (fun _ _ _ h => h) (Or.inl ⟨by kernel_rfl, fun w' hw => by (go_simp)⟩) hS ?_
  refine wpAnyH_take (i := 10) (v := (.agg (d.map B8).toArray)) rfl (by kernel_rfl) (by kernel_rfl) (by kernel_rfl) (fun _ _ _ h => h) (yieldsIf_load_mid (by kernel_rfl) 73 (.tmp 27) (by kernel_rfl) g (q * 65) (by kernel_rfl) (d.map B8) (.array 8 71) (fun w hw => hw.2.1) (by kernel_rfl) rfl (by rw [List.length_map, hdl]; kernel_rfl)) hS ?_
  refine wpAnyH_take (i := 11) (v := (.agg (c.map B8).toArray)) rfl (by kernel_rfl) (by kernel_rfl) (by kernel_rfl) (fun _ _ _ h => h) (yieldsIf_load_mid (by kernel_rfl) 73 (.tmp 3) (by kernel_rfl) w.heap.size (0) (by kernel_rfl) (c.map B8) (.array 8 71) (fun w hw => hw.2.2) (by kernel_rfl) rfl (by rw [List.length_map, hc]; kernel_rfl)) hS ?_
  refine wpAnyH_take (i := 12) (v := (.bool false)) rfl (by kernel_rfl) (by kernel_rfl) (by kernel_rfl) (fun _ _ _ h => h) (Or.inl ⟨by kernel_rfl, fun w' hw => by (have e := l3 w'; go_simp)⟩) hS ?_
  refine wpAnyH_take (i := 13) (v := (.bool false)) rfl (by kernel_rfl) (by kernel_rfl) (by kernel_rfl) (fun _ _ _ h => h) (Or.inl ⟨by kernel_rfl, fun w' hw => by (go_simp)⟩) hS ?_
  refine wpAnyH_done (by kernel_rfl) ?_ _
  simp only [Act.put, List.getElem_toArray, List.getElem_cons_zero, List.getElem_cons_succ, List.setIfInBounds_toArray, List.set_cons_zero, List.set_cons_succ]
  go_wp2_with (fail)
  have hx := HV.out
  have nq : Nat := 0
  have hpb := HPB.out
  have hn := HN.out
  have hcs := HCS.out
  have hvb := HVB.out
  have hB0 : (((w.alloc (.cells (c.map B8).toArray 73)).setCell ⟨pb, 1, none⟩ (.int .i64 ((n : Int) + 1))).drew).heap[pb]? = some (.cells #[v, .int .i64 ((n + 1 : Nat) : Int)] 121 (0, 0)) := PB.out 0
  have hx0 : (((w.alloc (.cells (c.map B8).toArray 73)).setCell ⟨pb, 1, none⟩ (.int .i64 ((n : Int) + 1))).drew).heap[w.heap.size]? = some (.cells (c.map B8).toArray 73 (0, 0)) := PX.out 0
  have hg0 : Gr (fun k => k = pb ∨ v.ownBlock = some k) w (((w.alloc (.cells (c.map B8).toArray 73)).setCell ⟨pb, 1, none⟩ (.int .i64 ((n : Int) + 1))).drew) := PG.out 0
  have ho0 : (((w.alloc (.cells (c.map B8).toArray 73)).setCell ⟨pb, 1, none⟩ (.int .i64 ((n : Int) + 1))).drew).ownsRow 0 145 65 v rs.length (rs.flatMap runC) := PO.out 0
  generalize hW0 : (((w.alloc (.cells (c.map B8).toArray 73)).setCell ⟨pb, 1, none⟩ (.int .i64 ((n : Int) + 1))).drew) = W0 at *
  have hd0 : W0.drew.heap = W0.heap := rfl
  have y0 : W0.drew.cell? ⟨pb, 0, none⟩ = some v := cell8 (w := W0.drew) hB0 0
  have y1 : W0.drew.rangeAt w.heap.size 0 (c.map B8) := range_all (w := W0.drew) hx0
  have hB7 : Below W0.heap.size W0 (W0.drew.alloc (.cells (c.map B8 ++ [Value.int .i64 1]).toArray 145)) := (Below.refl _ W0).drew.alloc (Nat.le_refl _) _
  have q0 : (W0.drew.alloc (.cells (c.map B8 ++ [Value.int .i64 1]).toArray 145)).cell? ⟨pb, 0, none⟩ = some v := cell8 ((hB7.block pb (lt_of_heap hB0)).trans hB0) 0
  have q1 : (W0.drew.alloc (.cells (c.map B8 ++ [Value.int .i64 1]).toArray 145)).rangeAt w.heap.size 0 (c.map B8) := range_all ((hB7.block w.heap.size (lt_of_heap hx0)).trans hx0)
  have QO := hide (ownsRow_of_block ho0 (fun g hg => by obtain ⟨c', hc'⟩ := own_type ho0 hg; exact hB7.block g (lt_of_heap hc')) : World.ownsRow (W0.drew.alloc (.cells (c.map B8 ++ [Value.int .i64 1]).toArray 145)) 0 145 65 v rs.length (rs.flatMap runC))
  have QC : Hid (∀ (j : Nat) (u : Value), (c.map B8 ++ [Value.int .i64 1])[j]? = some u → (W0.drew.alloc (.cells (c.map B8 ++ [Value.int .i64 1]).toArray 145)).cell? ((⟨W0.drew.heap.size, 0, none⟩ : Addr).add j) = some u) := fun j u hu => by
    have h := range_all (heapNew W0.drew (.cells (c.map B8 ++ [Value.int .i64 1]).toArray 145)) j u hu
    rw [Addr.add_mid]; exact h
  have hxb : v.ownBlock ≠ some w.heap.size := fun e => by obtain ⟨c', hc'⟩ := own_type ho0 e; exact ne_ty hc' hx0 (by decide) rfl
  have q8 : ∀ W8 : World, (W0.drew.alloc (.cells (c.map B8 ++ [Value.int .i64 1]).toArray 145)).grownBy W8 v.ownBlock → W8.cell? ⟨pb, 0, none⟩ = some v ∧ W8.frozen? ⟨pb, 0, none⟩ = false ∧ W8.rangeAt w.heap.size 0 (c.map B8) := fun W8 hg8 => by
    have b7 := (hB7.block pb (lt_of_heap hB0)).trans hB0
    have x7 := (hB7.block w.heap.size (lt_of_heap hx0)).trans hx0
    have b8 := (hg8.block pb (lt_of_heap b7) (fun e => hvb e.symm)).trans b7
    exact ⟨cell8 b8 0, froz8 b8 0, range_all ((hg8.block w.heap.size (lt_of_heap x7) (fun e => hxb e.symm)).trans x7)⟩
  have Q8 := hide q8
  have fin := fun v8 W8 ho8 hg8 hl8 => padd_fin (w := w) (W0 := W0) (W8 := W8) (v := v) (v8 := v8) (rs := rs) (cs := cs) (c := c) (n := n) (c.map B8 ++ [Value.int .i64 1]).toArray hB0 hg0 rfl ho8 hg8 hl8 hvb hpb hc hcs hn hr
  have FIN := hide fin
  clear fin q8 hB0 hx0 hg0 ho0 hB7 hxb hvb hcs hn hr PB PX PG PO hW0 hd0 hx hpb
  refine wp_region_early 11 (fun X => X.cell? ⟨pb, 0, none⟩ = some v ∧ X.rangeAt w.heap.size 0 (c.map B8)) (by kernel_rfl) ⟨y0, y1⟩ (fun hS => ?_)
  refine wpAnyE_take (i := 0) (v := (.pointer (some ⟨pb, 0, none⟩))) rfl (by kernel_rfl) (by kernel_rfl) (by kernel_rfl) (by kernel_rfl) (fun _ _ _ h => h) (Or.inl ⟨by kernel_rfl, fun w' hw => by (obtain ⟨z0, z1⟩ := hw; go_simp)⟩) hS ?_
  refine wpAnyE_take (i := 1) (v := (.pointer (some ⟨pb, 0, none⟩))) rfl (by kernel_rfl) (by kernel_rfl) (by kernel_rfl) (by kernel_rfl) (fun _ _ _ h => h) (Or.inl ⟨by kernel_rfl, fun w' hw => by (obtain ⟨z0, z1⟩ := hw; go_simp)⟩) hS ?_
  refine wpAnyE_take (i := 2) (v := (.pointer (some ⟨pb, 0, none⟩))) rfl (by kernel_rfl) (by kernel_rfl) (by kernel_rfl) (by kernel_rfl) (fun _ _ _ h => h) (Or.inl ⟨by kernel_rfl, fun w' hw => by (obtain ⟨z0, z1⟩ := hw; go_simp)⟩) hS ?_
  refine wpAnyE_take (i := 3) (v := (.pointer (some ⟨pb, 0, none⟩))) rfl (by kernel_rfl) (by kernel_rfl) (by kernel_rfl) (by kernel_rfl) (fun _ _ _ h => h) (Or.inl ⟨by kernel_rfl, fun w' hw => by (obtain ⟨z0, z1⟩ := hw; go_simp)⟩) hS ?_
  refine wpAnyE_take (i := 4) (v := v) rfl (by kernel_rfl) (by kernel_rfl) (by kernel_rfl) (by kernel_rfl) (fun _ _ _ h => h) (Or.inl ⟨by kernel_rfl, fun w' hw => by (obtain ⟨z0, z1⟩ := hw; go_simp)⟩) hS ?_
  refine wpAnyE_take (i := 5) (v := (.agg (c.map B8).toArray)) rfl (by kernel_rfl) (by kernel_rfl) (by kernel_rfl) (by kernel_rfl) (fun _ _ _ h => h) (yieldsIf_load_mid (by kernel_rfl) 73 _ rfl w.heap.size 0 rfl (c.map B8) (.array 8 71) (fun w hw => hw.2) (by kernel_rfl) rfl (by rw [List.length_map, hc]; kernel_rfl)) hS ?_
  refine wpAnyE_take (i := 6) (v := (.agg (c.map B8 ++ [Value.int .i64 1]).toArray)) rfl (by kernel_rfl) (by kernel_rfl) (by kernel_rfl) (by kernel_rfl) (fun _ _ _ h => h) (Or.inl ⟨by kernel_rfl, fun w' hw => exec_build2 145 0 1 (.tmp 48) (.const (.int .i64 1)) (by kernel_rfl) (.agg (c.map B8).toArray) (.int .i64 1) (by kernel_rfl) (by kernel_rfl) (build_run c 1 w' hc)⟩) hS ?_
  refine wpAnyE_do (i := 7) (by kernel_rfl) rfl (by kernel_rfl) (fun K hK => ?_)
  refine wp_slice_run (.tmp 49) (by kernel_rfl) (c.map B8 ++ [Value.int .i64 1]) (by kernel_rfl) (by simp [hc]) ?_
  refine hK.out _ _ (fun _ => ⟨q0, q1⟩) ?_
  clear hK K
  refine wpAnyE_do (i := 8) (by kernel_rfl) rfl (by kernel_rfl) (fun K hK => ?_)
  refine wp_append_at (.tmp 47) (.tmp 50) 119 (by kernel_rfl) 0 145 it (.agg Z) 65 72 Try.underlying119 hit hz h65 h72 hzs (by decide) v rs.length (rs.flatMap runC) (by kernel_rfl) QO.out ⟨W0.drew.heap.size, 0, none⟩ 1 1 (c.map B8 ++ [Value.int .i64 1]) (by kernel_rfl) (by simp [hc]) QC.out (runC_cell (c, 1)) (by unfold maxLen; omega) (by omega) (Nat.zero_le _) ?_
  intro v8 W8 ho8 hg8 _ hl8
  obtain ⟨r0, rf, r1⟩ := Q8.out W8 hg8
  obtain ⟨a8, c8, rfl⟩ := own_slice ho8
  have HO8 := hide ho8
  have HG8 := hide hg8
  have HL8 := hide hl8
  clear ho8 hg8 hl8
  refine hK.out _ _ (fun _ => ⟨r0, r1⟩) ?_
  clear hK K
  refine wpAnyE_do (i := 9) (by kernel_rfl) rfl (by kernel_rfl) (fun K hK => ?_)
  go_simp
  refine hK.out _ _ (fun _ => ⟨r0, r1⟩) ?_
  clear hK K
  refine wpAnyE_do (i := 10) (by kernel_rfl) rfl (by kernel_rfl) (fun K hK => ?_)
  go_simp
  refine hK.out _ _ (fun _ => ⟨r0, r1⟩) ?_
  clear hK K
  refine wpAnyE_do (i := 11) (by kernel_rfl) rfl (by kernel_rfl) (fun K hK => ?_)
  go_simp
  refine hK.out _ _ (fun h => absurd rfl h) ?_
  clear hK K
  refine wpAnyE_done (by kernel_rfl) ?_ _
  try simp only [Act.put, List.getElem_toArray, List.getElem_cons_zero, List.getElem_cons_succ, List.setIfInBounds_toArray, List.set_cons_zero, List.set_cons_succ]
  go_wp2_with (fail)
  go_end0
  exact ⟨rfl, _, FIN.out _ _ HO8.out HG8.out HL8.out⟩
end Go.Proofs.Ytgfgihpkbbjkfaa
