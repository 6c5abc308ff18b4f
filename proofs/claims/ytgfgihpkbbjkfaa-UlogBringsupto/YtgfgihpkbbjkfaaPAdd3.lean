/- Package pmem: a content is put behind the others. -/
import Derived.Test.YtgfgihpkbbjkfaaPAdd2
import Derived.Test.YtgfgihpkbbjkfaaPHeld
import Derived.Deep.QuietTactic
import Derived.BigQuiet
namespace Go.Proofs.Ytgfgihpkbbjkfaa
open Go.RowKit
set_option linter.unusedVariables false

set_option maxRecDepth 100000 in
set_option maxHeartbeats 2000000 in
theorem padd_same (pb n : Nat) (c : List Nat) (v : Value) (rs : List (List Nat × Nat)) (cs : List (List Nat)) (w : World) (h : w.heap[pb]? = some (.cells #[v, .int .i64 (n : Int)] 121 (0, 0))) (ho : w.ownsRow 0 145 65 v rs.length (rs.flatMap runC)) (hcs : exR rs = cs) (hn : n = cs.length) (hr : ∀ r ∈ rs, r.1.length = 64 ∧ 1 ≤ r.2) (hc : c.length = 64) (hsm : n ≤ 1400000000000) (hrl : rs.length ≤ 1400000000000) (qs : List (List Nat × Nat)) (d : List Nat) (t q : Nat) (hrs : rs = qs ++ [(d, t)]) (hqd : qs.length = q) (hne : d = c) (ht : t ≤ 1400000000000) :
    Calls Try.prog 83 #[.pointer (some ⟨pb, 0, none⟩), .agg (c.map B8).toArray] w fun e w' => e = .returned (.tuple #[]) ∧ ∃ v', PastAt w' pb v' (cs ++ [c]) ∧ (v'.ownBlock = v.ownBlock ∨ ∃ g, v'.ownBlock = some g ∧ w.heap.size ≤ g) ∧ Gr (fun k => k = pb ∨ v.ownBlock = some k) w w' := by
  have hq : rs.length = q + 1 := by rw [hrs]; simp [hqd]
  obtain ⟨g, cap, cur, hv, hg, hcap, hcur, htk⟩ : ∃ g cap cur, v = .slice (some ⟨g, 0, none⟩) (q + 1) cap ∧ w.heap[g]? = some (.cells cur 145 (0, 0)) ∧ q + 1 ≤ cap ∧ cur.size = cap * 65 ∧ cur.toList.take ((q + 1) * 65) = rs.flatMap runC := by
    have ho' := ho
    rw [hq] at ho'
    rcases ho'.2 with ⟨_, h0⟩ | ⟨g, cap, cur, hv, _, hg, hcap, _, hcur, htk⟩
    · omega
    · exact ⟨g, cap, cur, hv, hg, hcap, hcur, htk⟩
  have hpre : (qs.flatMap runC).length = q * 65 := by rw [runs_len qs (fun r hr' => hr r (by rw [hrs]; exact List.mem_append_left _ hr')), hqd]
  have hdl : d.length = 64 := (hr (d, t) (by rw [hrs]; simp)).1
  have hcl : cur = cur.toList.toArray := by simp
  have hdr : (cur.toList.drop (q * 65)).take 65 = runC (d, t) := by
    have e : (cur.toList.drop (q * 65)).take 65 = ((cur.toList.take ((q + 1) * 65)).drop (q * 65)) := by
      rw [List.drop_take]; congr 1; omega
    rw [e, htk, hrs, List.flatMap_append, List.drop_append_of_le_length (by omega), List.drop_of_length_le (by omega)]
    simp
  have hrange : w.rangeAt g (q * 65) (runC (d, t)) := range_row (by rw [← hcl]; exact hg) _ _ (by rw [runC_len (d, t) hdl]; exact hdr)
  have hrd : w.rangeAt g (q * 65) (d.map B8) := fun j u hu => hrange j u (by simp only [runC]; rw [List.getElem?_append_left (List.getElem?_eq_some_iff.1 hu).1]; exact hu)
  have hrt : w.cell? ⟨g, q * 65 + 64, none⟩ = some (.int .i64 (t : Int)) := hrange 64 _ (by simp [runC, hdl])
  obtain ⟨it, Z, hit, hz, hzs', h65, h72⟩ := run_zero
  have hzs : (Value.agg Z).cells.size = 65 := hzs'
  clear hzs'
  have hA : Below w.heap.size w (w.alloc (.cells (c.map B8).toArray 73)) := (Below.refl _ w).alloc (Nat.le_refl _) _
  have h1 := (hA.block pb (lt_of_heap h)).trans h
  have hpb := lt_of_heap h
  have c0 : (w.alloc (.cells (c.map B8).toArray 73)).cell? ⟨pb, 0, none⟩ = some v := cell8 h1 0
  have c1 : (w.alloc (.cells (c.map B8).toArray 73)).cell? ⟨pb, 1, none⟩ = some (.int .i64 (n : Int)) := cell8 h1 1
  have f0 := froz8 h1 0
  have f1 := froz8 h1 1
  have hnI : (n : Int) ≤ 1400000000000 := by omega
  have hx1 := heapNew w (.cells (c.map B8).toArray 73)
  have hvb : v.ownBlock ≠ some pb := fun e => by obtain ⟨c', hc'⟩ := own_type ho e; exact ne_ty hc' h (by decide) rfl
  have e1 : ((n + 1 : Nat) : Int) = (n : Int) + 1 := by omega
  have PB : Hid (∀ nq, (((w.alloc (.cells (c.map B8).toArray 73)).setCell ⟨pb, 1, none⟩ (.int .i64 ((n : Int) + 1))).drewN nq).heap[pb]? = some (.cells #[v, .int .i64 ((n + 1 : Nat) : Int)] 121 (0, 0))) := fun nq => by
    rw [e1]; exact heap_set1 _ pb 1 _ _ _ h1
  have PX : Hid (∀ nq, (((w.alloc (.cells (c.map B8).toArray 73)).setCell ⟨pb, 1, none⟩ (.int .i64 ((n : Int) + 1))).drewN nq).heap[w.heap.size]? = some (.cells (c.map B8).toArray 73 (0, 0))) := fun nq =>
    (heap_set_ne _ pb 1 _ _ (by omega)).trans hx1
  have PG : Hid (∀ nq, Gr (fun k => k = pb ∨ v.ownBlock = some k) w (((w.alloc (.cells (c.map B8).toArray 73)).setCell ⟨pb, 1, none⟩ (.int .i64 ((n : Int) + 1))).drewN nq)) := fun nq =>
    ((Gr.of_below hA : Gr (fun k => k = pb ∨ v.ownBlock = some k) w _).trans (Gr.set _ pb 1 _ (X := fun k => k = pb ∨ v.ownBlock = some k) (.inl rfl) : Gr (fun k => k = pb ∨ v.ownBlock = some k) _ _) (fun i h => .inl h)).drewN nq
  have hgv : ∀ g, v.ownBlock = some g → ((w.alloc (.cells (c.map B8).toArray 73)).setCell ⟨pb, 1, none⟩ (.int .i64 ((n : Int) + 1))).heap[g]? = w.heap[g]? := fun g hg => by
    obtain ⟨c', hc'⟩ := own_type ho hg
    exact (heap_set_ne _ pb 1 g _ (fun e => hvb (by rw [hg, e]))).trans (hA.block g (lt_of_heap hc'))
  have PO : Hid (∀ nq, (((w.alloc (.cells (c.map B8).toArray 73)).setCell ⟨pb, 1, none⟩ (.int .i64 ((n : Int) + 1))).drewN nq).ownsRow 0 145 65 v rs.length (rs.flatMap runC)) := fun nq => ownsRow_of_block ho hgv
  rw [hv] at c0
  have HV := hide hv
  have HRS := hide hrs
  have HPB := hide hpb
  have HN := hide hn
  have HCS := hide hcs
  have HVB := hide hvb
  have hvg : v.ownBlock = some g := by rw [hv]; rfl
  have ps : ((w.alloc (.cells (c.map B8).toArray 73)).setCell ⟨pb, 1, none⟩ (.int .i64 ((n : Int) + 1))).drew.cell? ⟨pb, 0, none⟩ = some (.slice (some ⟨g, 0, none⟩) (q + 1) cap) ∧ ((w.alloc (.cells (c.map B8).toArray 73)).setCell ⟨pb, 1, none⟩ (.int .i64 ((n : Int) + 1))).drew.rangeAt g (q * 65) (d.map B8) ∧ ((w.alloc (.cells (c.map B8).toArray 73)).setCell ⟨pb, 1, none⟩ (.int .i64 ((n : Int) + 1))).drew.rangeAt w.heap.size 0 (c.map B8) := by
    refine ⟨?_, fun j u hu => (World.cell?_of_block (hgv g hvg)).trans (hrd j u hu), range_all (PX.out 0)⟩
    rw [← hv]
    exact cell8 (PB.out 0) 0
  have PS := hide ps
  have l3 : ∀ W : World, (Op.equalIn 10000 73 (.agg (d.map B8).toArray) (.agg (c.map B8).toArray)).run Try.prog W = .ok true W := fun W => by rw [eql_content d c W hdl hc, decide_eq_true hne]
  have hqI : (q : Int) ≤ 1400000000000 := by omega
  have hgx : ((w.alloc (.cells (c.map B8).toArray 73)).setCell ⟨pb, 1, none⟩ (.int .i64 ((n : Int) + 1))).drew.heap[g]? = some (.cells cur 145 (0, 0)) := (hgv g hvg).trans hg
  have ct : ((w.alloc (.cells (c.map B8).toArray 73)).setCell ⟨pb, 1, none⟩ (.int .i64 ((n : Int) + 1))).drew.cell? ⟨g, q * 65 + 64, none⟩ = some (.int .i64 (t : Int)) := (World.cell?_of_block (hgv g hvg)).trans hrt
  have ft := froz8 hgx (q * 65 + 64)
  have cp : ((w.alloc (.cells (c.map B8).toArray 73)).setCell ⟨pb, 1, none⟩ (.int .i64 ((n : Int) + 1))).drew.cell? ⟨pb, 0, none⟩ = some (.slice (some ⟨g, 0, none⟩) (q + 1) cap) := ps.1
  have l0 := fun W => index_run g q (q + 1) cap (by omega) W
  have htI : (t : Int) ≤ 1400000000000 := by omega
  have hgpb : g ≠ pb := fun e => hvb (by rw [hvg, e])
  have e2 : ((t + 1 : Nat) : Int) = (t : Int) + 1 := by omega
  have hfin : PastAt (((w.alloc (.cells (c.map B8).toArray 73)).setCell ⟨pb, 1, none⟩ (.int .i64 ((n : Int) + 1))).drew.setCell ⟨g, q * 65 + 64, none⟩ (.int .i64 ((t : Int) + 1))) pb v (cs ++ [c]) := by
    refine ⟨?_, qs ++ [(c, t + 1)], ?_, ?_, ?_⟩
    · rw [heap_set_ne _ g _ pb _ hgpb.symm, List.length_append, ← hn]
      exact PB.out 0
    · have h5 : ((w.alloc (.cells (c.map B8).toArray 73)).setCell ⟨pb, 1, none⟩ (.int .i64 ((n : Int) + 1))).drew.ownsRow 0 145 65 (.slice (some ⟨g, 0, none⟩) (q + 1) cap) (q + 1) (rs.flatMap runC) := by rw [← hv, ← hq]; exact PO.out 0
      have h6 := h5.stored (q * 65 + 64) (.int .i64 ((t : Int) + 1))
      rw [← hv] at h6
      have h7 : (rs.flatMap runC).set (q * 65 + 64) (.int .i64 ((t : Int) + 1)) = (qs ++ [(c, t + 1)]).flatMap runC := by
        rw [hrs, List.flatMap_append, List.flatMap_append, List.set_append_right _ _ (by omega), hpre, show q * 65 + 64 - q * 65 = 64 by omega]
        congr 1
        simp only [List.flatMap_cons, List.flatMap_nil, List.append_nil, runC]
        rw [hne, e2, List.set_append_right _ _ (by rw [List.length_map, hc]; omega), List.length_map, hc]
        rfl
      rw [h7] at h6
      have h8 : (qs ++ [(c, t + 1)]).length = q + 1 := by simp [hqd]
      rw [h8]
      exact h6.1
    · rw [exR_append, ← hcs, hrs, exR_append]
      simp [exR, hne, List.replicate_succ', List.append_assoc]
    · intro r hr'
      rcases List.mem_append.1 hr' with h | h
      · exact hr r (by rw [hrs]; exact List.mem_append_left _ h)
      · obtain rfl := List.mem_singleton.1 h
        exact ⟨hc, by omega⟩
  have hgr : Gr (fun k => k = pb ∨ v.ownBlock = some k) w (((w.alloc (.cells (c.map B8).toArray 73)).setCell ⟨pb, 1, none⟩ (.int .i64 ((n : Int) + 1))).drew.setCell ⟨g, q * 65 + 64, none⟩ (.int .i64 ((t : Int) + 1))) :=
    (PG.out 0).trans (Gr.set (X := fun k => k = pb ∨ v.ownBlock = some k) (((w.alloc (.cells (c.map B8).toArray 73)).setCell ⟨pb, 1, none⟩ (.int .i64 ((n : Int) + 1))).drew) g (q * 65 + 64) _ (.inr hvg)) (fun i h => .inl h)
  have HFIN := hide hfin
  have HGR := hide hgr
  clear h h1 ho hgv hA hx1 hv hrs e1 hpb hn hcs hvb hq hpre hdr hrange hrd hqd hcl hcur htk hg hvg hne ps hgx hfin hgr hgpb e2 hrt hr PB PX PG PO
  go_enter Try.func83, Try.ntmps83
  go_wp2_with (fail)
  have s0 := PS.out
  refine wp_region_held_drew (S := fun X => X.cell? ⟨pb, 0, none⟩ = some (.slice (some ⟨g, 0, none⟩) (q + 1) cap) ∧ X.rangeAt g (q * 65) (d.map B8) ∧ X.rangeAt w.heap.size 0 (c.map B8)) (by kernel_rfl) s0 (fun hS => ?_)
  refine wpAnyH_take (i := 0) (v := (.int .i64 (q : Int))) rfl (by kernel_rfl) (by kernel_rfl) (by kernel_rfl) (fun _ _ _ h => h) (Or.inl ⟨by kernel_rfl, fun w' hw => by (go_simp)⟩) hS ?_
  refine wpAnyH_take (i := 1) (v := (.bool true)) rfl (by kernel_rfl) (by kernel_rfl) (by kernel_rfl) (fun _ _ _ h => h) (Or.inl ⟨by kernel_rfl, fun w' hw => by (go_simp)⟩) hS ?_
  refine wpAnyH_take (i := 2) (v := (.bool true)) rfl (by kernel_rfl) (by kernel_rfl) (by kernel_rfl) (fun _ _ _ h => h) (Or.inl ⟨by kernel_rfl, fun w' hw => by (go_simp)⟩) hS ?_
  refine wpAnyH_take (i := 3) (v := (.pointer (some ⟨pb, 0, none⟩))) rfl (by kernel_rfl) (by kernel_rfl) (by kernel_rfl) (fun _ _ _ h => h) (Or.inl ⟨by kernel_rfl, fun w' hw => by (go_simp)⟩) hS ?_
  refine wpAnyH_take (i := 4) (v := (.pointer (some ⟨pb, 0, none⟩))) rfl (by kernel_rfl) (by kernel_rfl) (by kernel_rfl) (fun _ _ _ h => h) (Or.inl ⟨by kernel_rfl, fun w' hw => by (go_simp)⟩) hS ?_
  refine wpAnyH_take (i := 5) (v := (.pointer (some ⟨pb, 0, none⟩))) rfl (by kernel_rfl) (by kernel_rfl) (by kernel_rfl) (fun _ _ _ h => h) (Or.inl ⟨by kernel_rfl, fun w' hw => by (go_simp)⟩) hS ?_
  refine wpAnyH_take (i := 6) (v := (.slice (some ⟨g, 0, none⟩) (q + 1) cap)) rfl (by kernel_rfl) (by kernel_rfl) (by kernel_rfl) (fun _ _ _ h => h) (Or.inl ⟨by kernel_rfl, fun w' hw => by (obtain ⟨z0, _, _⟩ := hw; go_simp)⟩) hS ?_
  refine wpAnyH_take (i := 7) (v := (.int .i64 (q : Int))) rfl (by kernel_rfl) (by kernel_rfl) (by kernel_rfl) (fun _ _ _ h => h) (Or.inl ⟨by kernel_rfl, fun w' hw => by (go_simp)⟩) hS ?_
  refine wpAnyH_take (i := 8) (v := (.pointer (some ⟨g, q * 65, none⟩))) rfl (by kernel_rfl) (by kernel_rfl) (by kernel_rfl) (fun _ _ _ h => h) (Or.inl ⟨by kernel_rfl, fun w' hw => by (have e := index_run g q (q + 1) cap (by omega) w'; go_simp)⟩) hS ?_
  refine wpAnyH_take (i := 9) (v := (.pointer (some ⟨g, q * 65, none⟩))) rfl (by kernel_rfl) (by kernel_rfl) (by kernel_rfl) (fun _ _ _ h => h) (Or.inl ⟨by kernel_rfl, fun w' hw => by (go_simp)⟩) hS ?_
  refine wpAnyH_take (i := 10) (v := (.agg (d.map B8).toArray)) rfl (by kernel_rfl) (by kernel_rfl) (by kernel_rfl) (fun _ _ _ h => h) (yieldsIf_load_mid (by kernel_rfl) 73 (.tmp 27) (by kernel_rfl) g (q * 65) (by kernel_rfl) (d.map B8) (.array 8 71) (fun w hw => hw.2.1) (by kernel_rfl) rfl (by rw [List.length_map, hdl]; kernel_rfl)) hS ?_
  refine wpAnyH_take (i := 11) (v := (.agg (c.map B8).toArray)) rfl (by kernel_rfl) (by kernel_rfl) (by kernel_rfl) (fun _ _ _ h => h) (yieldsIf_load_mid (by kernel_rfl) 73 (.tmp 3) (by kernel_rfl) w.heap.size (0) (by kernel_rfl) (c.map B8) (.array 8 71) (fun w hw => hw.2.2) (by kernel_rfl) rfl (by rw [List.length_map, hc]; kernel_rfl)) hS ?_
  refine wpAnyH_take (i := 12) (v := (.bool true)) rfl (by kernel_rfl) (by kernel_rfl) (by kernel_rfl) (fun _ _ _ h => h) (Or.inl ⟨by kernel_rfl, fun w' hw => by (have e := l3 w'; go_simp)⟩) hS ?_
  refine wpAnyH_take (i := 13) (v := (.bool true)) rfl (by kernel_rfl) (by kernel_rfl) (by kernel_rfl) (fun _ _ _ h => h) (Or.inl ⟨by kernel_rfl, fun w' hw => by (go_simp)⟩) hS ?_
  refine wpAnyH_done (by kernel_rfl) ?_ _
  simp only [Act.put, List.getElem_toArray, List.getElem_cons_zero, List.getElem_cons_succ, List.setIfInBounds_toArray, List.set_cons_zero, List.set_cons_succ]
  go_wp2_with (fail)
  refine bodyPost_ret (results_none rfl _ _ _) rfl ?_
  exact ⟨rfl, v, HFIN.out, .inl rfl, HGR.out⟩
/-- A content is put behind the others. -/
theorem padd_any (pb : Nat) (c : List Nat) (v : Value) (cs : List (List Nat)) (w : World) (h : PastAt w pb v cs) (hc : c.length = 64) (hsm : cs.length ≤ 1400000000000) :
    Calls Try.prog 83 #[.pointer (some ⟨pb, 0, none⟩), .agg (c.map B8).toArray] w fun e w' => e = .returned (.tuple #[]) ∧ ∃ v', PastAt w' pb v' (cs ++ [c]) ∧ (v'.ownBlock = v.ownBlock ∨ ∃ g, v'.ownBlock = some g ∧ w.heap.size ≤ g) ∧ Gr (fun k => k = pb ∨ v.ownBlock = some k) w w' := by
  obtain ⟨hb, rs, ho, hcs, hr⟩ := h
  have hrl : rs.length ≤ 1400000000000 := Nat.le_trans (exR_len rs hr) (by rw [hcs]; exact hsm)
  rcases List.eq_nil_or_concat rs with hrs | ⟨qs, r, hrs⟩
  · exact padd_nil pb cs.length c v rs cs w hb ho hcs rfl hr hc hsm hrl hrs
  · rw [List.concat_eq_append] at hrs
    by_cases hd : r.1 = c
    · refine padd_same pb cs.length c v rs cs w hb ho hcs rfl hr hc hsm hrl qs r.1 r.2 qs.length hrs rfl hd ?_
      have h1 : (exR rs).length = cs.length := by rw [hcs]
      rw [hrs, exR_append, List.length_append] at h1
      have h2 : (exR [r]).length = r.2 := by simp [exR]
      omega
    · exact padd_more pb cs.length c v rs cs w hb ho hcs rfl hr hc hsm hrl qs r.1 r.2 qs.length hrs rfl hd
end Go.Proofs.Ytgfgihpkbbjkfaa
