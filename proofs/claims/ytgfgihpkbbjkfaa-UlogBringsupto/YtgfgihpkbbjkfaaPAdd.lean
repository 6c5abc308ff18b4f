/- Package pmem: a content is put behind the others. -/
import Derived.Test.YtgfgihpkbbjkfaaPBld
import Derived.Test.YtgfgihpkbbjkfaaPHeld
import Derived.Deep.QuietTactic
import Derived.BigQuiet
namespace Go.Proofs.Ytgfgihpkbbjkfaa
open Go.RowKit
set_option linter.unusedVariables false

theorem Gr.drewN {X : Nat → Prop} {a b : World} (h : Gr X a b) (n : Nat) : Gr X a (b.drewN n) := h
theorem heapNew (w : World) (o : Obj) : (w.alloc o).heap[w.heap.size]? = some o := by
  show (w.heap.push o)[w.heap.size]? = some o
  simp
theorem B8_cell (l : List Nat) : ∀ v ∈ l.map B8, v.oneCell' = true := by
  intro v hv
  obtain ⟨x, _, rfl⟩ := List.mem_map.1 hv
  rfl
theorem range_row {w : World} {g : Nat} {cur : List Value} {t : TypeId} {fr : Nat × Nat} (h : w.heap[g]? = some (.cells cur.toArray t fr)) (o : Nat) (l : List Value) (hl : (cur.drop o).take l.length = l) : w.rangeAt g o l := by
  intro j v hv
  have hj : j < l.length := (List.getElem?_eq_some_iff.1 hv).1
  rw [← hl, List.getElem?_take, if_pos hj, List.getElem?_drop] at hv
  simp [World.cell?, h, hv]
theorem range_all {w : World} {g : Nat} {l : List Value} {t : TypeId} {fr : Nat × Nat} (h : w.heap[g]? = some (.cells l.toArray t fr)) : w.rangeAt g 0 l := range_row h 0 l (by simp)
theorem load_content {w : World} {g o : Nat} {l : List Nat} (h : w.rangeAt g o (l.map B8)) (hl : l.length = 64) : (Instr.loadAt 73 (.pointer (some ⟨g, o, none⟩))).run Try.prog w = .ok (.agg (l.map B8).toArray) w :=
  run_loadAt_mid w g o 73 (l.map B8) (.array 8 71) h (by kernel_rfl) rfl (by rw [List.length_map, hl]; kernel_rfl)
theorem runC_len (r : List Nat × Nat) (h : r.1.length = 64) : (runC r).length = 65 := by simp [runC, h]
theorem runC_cell (r : List Nat × Nat) : ∀ v ∈ runC r, v.oneCell' = true := by
  intro v hv
  rcases List.mem_append.1 hv with h | h
  · exact B8_cell _ v h
  · obtain rfl := List.mem_singleton.1 h; rfl
theorem runs_len (rs : List (List Nat × Nat)) (h : ∀ r ∈ rs, r.1.length = 64 ∧ 1 ≤ r.2) : (rs.flatMap runC).length = rs.length * 65 := by
  induction rs with
  | nil => rfl
  | cons r rs ih =>
    rw [List.flatMap_cons, List.length_append, runC_len r (h r (by simp)).1, ih (fun x hx => h x (by simp [hx])), List.length_cons]
    omega
theorem exR_len (rs : List (List Nat × Nat)) (h : ∀ r ∈ rs, r.1.length = 64 ∧ 1 ≤ r.2) : rs.length ≤ (exR rs).length := by
  induction rs with
  | nil => simp
  | cons r rs ih =>
    have h1 := (h r (by simp)).2
    have h2 := ih (fun x hx => h x (by simp [hx]))
    have e : exR (r :: rs) = List.replicate r.2 r.1 ++ exR rs := by simp [exR]
    rw [e, List.length_append, List.length_replicate, List.length_cons]
    omega
theorem exR_append (a b : List (List Nat × Nat)) : exR (a ++ b) = exR a ++ exR b := by simp [exR]
theorem own_slice {w : World} {base : Nat} {e : TypeId} {size : Nat} {v : Value} {n : Nat} {xs : List Value} (h : w.ownsRow base e size v n xs) : ∃ a c, v = .slice a n c := by
  rcases h.2 with ⟨rfl, rfl⟩ | ⟨g, cap, cur, rfl, _⟩
  · exact ⟨_, _, rfl⟩
  · exact ⟨_, _, rfl⟩
theorem own_type {w : World} {base : Nat} {e : TypeId} {size : Nat} {v : Value} {n : Nat} {xs : List Value} (h : w.ownsRow base e size v n xs) {g : Nat} (hg : v.ownBlock = some g) : ∃ c, w.heap[g]? = some (.cells c e (0, 0)) := by
  rcases h.2 with ⟨rfl, rfl⟩ | ⟨g', cap, cur, rfl, _, hg', _⟩
  · cases hg
  · cases hg; exact ⟨_, hg'⟩
/-- What a past is behind one content more, laid at the row's end. -/
theorem padd_fin {w W0 W7 W8 : World} {pb n : Nat} {v v8 : Value} {rs : List (List Nat × Nat)} {cs : List (List Nat)} {c : List Nat} (X : Array Value)
    (h0 : W0.heap[pb]? = some (.cells #[v, .int .i64 ((n + 1 : Nat) : Int)] 121 (0, 0))) (hg0 : Gr (fun k => k = pb ∨ v.ownBlock = some k) w W0) (h7 : W7 = W0.drew.alloc (.cells X 145))
    (hown : W8.ownsRow 0 145 65 v8 (rs.length + 1) (rs.flatMap runC ++ (c.map B8 ++ [.int .i64 1]))) (hgr : W7.grownBy W8 v.ownBlock) (hloc : v8.ownBlock = v.ownBlock ∨ v8.ownBlock = some W7.heap.size)
    (hvb : v.ownBlock ≠ some pb) (hpb : pb < w.heap.size) (hc : c.length = 64) (hcs : exR rs = cs) (hn : n = cs.length) (hr : ∀ r ∈ rs, r.1.length = 64 ∧ 1 ≤ r.2) :
    PastAt (W8.setCell ⟨pb, 0, none⟩ v8) pb v8 (cs ++ [c]) ∧ (v8.ownBlock = v.ownBlock ∨ ∃ g, v8.ownBlock = some g ∧ w.heap.size ≤ g) ∧ Gr (fun k => k = pb ∨ v.ownBlock = some k) w (W8.setCell ⟨pb, 0, none⟩ v8) := by
  have hs0 := hg0.size
  have hd : W0.drew.heap = W0.heap := rfl
  have hs7 : W7.heap.size = W0.heap.size + 1 := by rw [h7]; simp [hd]
  have b7 : W7.heap[pb]? = some (.cells #[v, .int .i64 ((n + 1 : Nat) : Int)] 121 (0, 0)) := by
    rw [h7]
    exact (((Below.refl _ W0.drew).alloc (Nat.le_refl _) _).block pb (lt_of_heap h0)).trans h0
  have b8 : W8.heap[pb]? = some (.cells #[v, .int .i64 ((n + 1 : Nat) : Int)] 121 (0, 0)) := (hgr.block pb (lt_of_heap b7) (fun e => hvb e.symm)).trans b7
  have hloc' : v8.ownBlock = v.ownBlock ∨ ∃ g, v8.ownBlock = some g ∧ w.heap.size ≤ g := hloc.imp id (fun h => ⟨_, h, by omega⟩)
  have hne : ∀ g, v8.ownBlock = some g → g ≠ pb := fun g hg => by
    obtain ⟨c', hc'⟩ := own_type hown hg
    exact ne_ty hc' b8 (by decide)
  refine ⟨⟨?_, rs ++ [(c, 1)], ?_, ?_, ?_⟩, hloc', ?_⟩
  · rw [heap_set1 W8 pb 0 _ _ _ b8]
    rw [List.length_append, ← hn]
    rfl
  · rw [List.flatMap_append, List.length_append]
    have e : List.flatMap runC [(c, 1)] = c.map B8 ++ [.int .i64 1] := by simp [runC]
    rw [e]
    exact ownsRow_of_block hown (fun g hg => heap_set_ne W8 pb 0 g _ (hne g hg))
  · rw [exR_append, hcs]
    rfl
  · intro r hr'
    rcases List.mem_append.1 hr' with h | h
    · exact hr r h
    · obtain rfl := List.mem_singleton.1 h
      exact ⟨hc, Nat.le_refl _⟩
  · have g7 : Gr (fun k => k = pb ∨ v.ownBlock = some k) w W7 := by
      rw [h7]
      exact hg0.trans (Gr.of_below (w := W0) (w' := W0.drew.alloc (.cells X 145)) ((Below.refl _ W0).drew.alloc (Nat.le_refl _) _) : Gr (fun k => k = pb ∨ v.ownBlock = some k) W0 _) (fun i h => .inl h)
    exact (g7.trans (Gr.of_grown (X := fun k => k = pb ∨ v.ownBlock = some k) hgr (fun k hk => .inl (.inr hk))) (fun i h => .inl h)).trans (Gr.set W8 pb 0 v8 (X := fun k => k = pb ∨ v.ownBlock = some k) (.inl rfl)) (fun i h => .inl h)
set_option maxRecDepth 100000 in
set_option maxHeartbeats 2000000 in
theorem padd_nil (pb n : Nat) (c : List Nat) (v : Value) (rs : List (List Nat × Nat)) (cs : List (List Nat)) (w : World) (h : w.heap[pb]? = some (.cells #[v, .int .i64 (n : Int)] 121 (0, 0))) (ho : w.ownsRow 0 145 65 v rs.length (rs.flatMap runC)) (hcs : exR rs = cs) (hn : n = cs.length) (hr : ∀ r ∈ rs, r.1.length = 64 ∧ 1 ≤ r.2) (hc : c.length = 64) (hsm : n ≤ 1400000000000) (hrl : rs.length ≤ 1400000000000) (hrs : rs = []) :
    Calls Try.prog 83 #[.pointer (some ⟨pb, 0, none⟩), .agg (c.map B8).toArray] w fun e w' => e = .returned (.tuple #[]) ∧ ∃ v', PastAt w' pb v' (cs ++ [c]) ∧ (v'.ownBlock = v.ownBlock ∨ ∃ g, v'.ownBlock = some g ∧ w.heap.size ≤ g) ∧ Gr (fun k => k = pb ∨ v.ownBlock = some k) w w' := by
  obtain ⟨ap, ac, hv⟩ : ∃ a c, v = .slice a 0 c := by
    rw [hrs] at ho
    exact own_slice ho
  obtain ⟨it, Z, hit, hz, hzs', h65, h72⟩ := run_zero
  have hzs : (Value.agg Z).cells.size = 65 := hzs'
  clear hzs'
  have hA : Below w.heap.size w (w.alloc (.cells (c.map B8).toArray 73)) := (Below.refl _ w).alloc (Nat.le_refl _) _
  have h1 := (hA.block pb (lt_of_heap h)).trans h
  have hpb := lt_of_heap h
  have c0 : (w.alloc (.cells (c.map B8).toArray 73)).cell? ⟨pb, 0, none⟩ = some v := cell8 h1 0
  have c1 : (w.alloc (.cells (c.map B8).toArray 73)).cell? ⟨pb, 1, none⟩ = some (.int .i64 (n : Int)) := cell8 h1 1
  have f0 := froz8 h1 0
  have f1 := froz8 h1 1
  have hnI : (n : Int) ≤ 1400000000000 := by omega
  have hx1 := heapNew w (.cells (c.map B8).toArray 73)
  have hvb : v.ownBlock ≠ some pb := fun e => by obtain ⟨c', hc'⟩ := own_type ho e; exact ne_ty hc' h (by decide) rfl
  have e1 : ((n + 1 : Nat) : Int) = (n : Int) + 1 := by omega
  have PB : Hid (∀ nq, (((w.alloc (.cells (c.map B8).toArray 73)).setCell ⟨pb, 1, none⟩ (.int .i64 ((n : Int) + 1))).drewN nq).heap[pb]? = some (.cells #[v, .int .i64 ((n + 1 : Nat) : Int)] 121 (0, 0))) := fun nq => by
    rw [e1]; exact heap_set1 _ pb 1 _ _ _ h1
  have PX : Hid (∀ nq, (((w.alloc (.cells (c.map B8).toArray 73)).setCell ⟨pb, 1, none⟩ (.int .i64 ((n : Int) + 1))).drewN nq).heap[w.heap.size]? = some (.cells (c.map B8).toArray 73 (0, 0))) := fun nq =>
    (heap_set_ne _ pb 1 _ _ (by omega)).trans hx1
  have PG : Hid (∀ nq, Gr (fun k => k = pb ∨ v.ownBlock = some k) w (((w.alloc (.cells (c.map B8).toArray 73)).setCell ⟨pb, 1, none⟩ (.int .i64 ((n : Int) + 1))).drewN nq)) := fun nq =>
    ((Gr.of_below hA : Gr (fun k => k = pb ∨ v.ownBlock = some k) w _).trans (Gr.set _ pb 1 _ (X := fun k => k = pb ∨ v.ownBlock = some k) (.inl rfl) : Gr (fun k => k = pb ∨ v.ownBlock = some k) _ _) (fun i h => .inl h)).drewN nq
  have hgv : ∀ g, v.ownBlock = some g → ((w.alloc (.cells (c.map B8).toArray 73)).setCell ⟨pb, 1, none⟩ (.int .i64 ((n : Int) + 1))).heap[g]? = w.heap[g]? := fun g hg => by
    obtain ⟨c', hc'⟩ := own_type ho hg
    exact (heap_set_ne _ pb 1 g _ (fun e => hvb (by rw [hg, e]))).trans (hA.block g (lt_of_heap hc'))
  have PO : Hid (∀ nq, (((w.alloc (.cells (c.map B8).toArray 73)).setCell ⟨pb, 1, none⟩ (.int .i64 ((n : Int) + 1))).drewN nq).ownsRow 0 145 65 v rs.length (rs.flatMap runC)) := fun nq => ownsRow_of_block ho hgv
  rw [hv] at c0
  have HV := hide hv
  have HRS := hide hrs
  have HPB := hide hpb
  have HN := hide hn
  have HCS := hide hcs
  have HVB := hide hvb
  clear h h1 ho hgv hA hx1 hv hrs e1 hpb hn hcs hvb
  go_enter Try.func83, Try.ntmps83
  go_wp2_with (fail)
  go_quiet (fail)
  go_wp2_with (fail)
  have hx := HV.out
  rw [← hx]
  have hpb := HPB.out
  have hn := HN.out
  have hcs := HCS.out
  have hvb := HVB.out
  have hB0 := PB.out nq
  have hx0 := PX.out nq
  have hg0 := PG.out nq
  have ho0 := PO.out nq
  generalize hW0 : (((w.alloc (.cells (c.map B8).toArray 73)).setCell ⟨pb, 1, none⟩ (.int .i64 ((n : Int) + 1))).drewN nq) = W0 at *
  have hd0 : W0.drew.heap = W0.heap := rfl
  have y0 : W0.drew.cell? ⟨pb, 0, none⟩ = some v := cell8 (w := W0.drew) hB0 0
  have y1 : W0.drew.rangeAt w.heap.size 0 (c.map B8) := range_all (w := W0.drew) hx0
  have hB7 : Below W0.heap.size W0 (W0.drew.alloc (.cells (c.map B8 ++ [Value.int .i64 1]).toArray 145)) := (Below.refl _ W0).drew.alloc (Nat.le_refl _) _
  have q0 : (W0.drew.alloc (.cells (c.map B8 ++ [Value.int .i64 1]).toArray 145)).cell? ⟨pb, 0, none⟩ = some v := cell8 ((hB7.block pb (lt_of_heap hB0)).trans hB0) 0
  have q1 : (W0.drew.alloc (.cells (c.map B8 ++ [Value.int .i64 1]).toArray 145)).rangeAt w.heap.size 0 (c.map B8) := range_all ((hB7.block w.heap.size (lt_of_heap hx0)).trans hx0)
  have QO := hide (ownsRow_of_block ho0 (fun g hg => by obtain ⟨c', hc'⟩ := own_type ho0 hg; exact hB7.block g (lt_of_heap hc')) : World.ownsRow (W0.drew.alloc (.cells (c.map B8 ++ [Value.int .i64 1]).toArray 145)) 0 145 65 v rs.length (rs.flatMap runC))
  have QC : Hid (∀ (j : Nat) (u : Value), (c.map B8 ++ [Value.int .i64 1])[j]? = some u → (W0.drew.alloc (.cells (c.map B8 ++ [Value.int .i64 1]).toArray 145)).cell? ((⟨W0.drew.heap.size, 0, none⟩ : Addr).add j) = some u) := fun j u hu => by
    have h := range_all (heapNew W0.drew (.cells (c.map B8 ++ [Value.int .i64 1]).toArray 145)) j u hu
    rw [Addr.add_mid]; exact h
  have hxb : v.ownBlock ≠ some w.heap.size := fun e => by obtain ⟨c', hc'⟩ := own_type ho0 e; exact ne_ty hc' hx0 (by decide) rfl
  have q8 : ∀ W8 : World, (W0.drew.alloc (.cells (c.map B8 ++ [Value.int .i64 1]).toArray 145)).grownBy W8 v.ownBlock → W8.cell? ⟨pb, 0, none⟩ = some v ∧ W8.frozen? ⟨pb, 0, none⟩ = false ∧ W8.rangeAt w.heap.size 0 (c.map B8) := fun W8 hg8 => by
    have b7 := (hB7.block pb (lt_of_heap hB0)).trans hB0
    have x7 := (hB7.block w.heap.size (lt_of_heap hx0)).trans hx0
    have b8 := (hg8.block pb (lt_of_heap b7) (fun e => hvb e.symm)).trans b7
    exact ⟨cell8 b8 0, froz8 b8 0, range_all ((hg8.block w.heap.size (lt_of_heap x7) (fun e => hxb e.symm)).trans x7)⟩
  have Q8 := hide q8
  have fin := fun v8 W8 ho8 hg8 hl8 => padd_fin (w := w) (W0 := W0) (W8 := W8) (v := v) (v8 := v8) (rs := rs) (cs := cs) (c := c) (n := n) (c.map B8 ++ [Value.int .i64 1]).toArray hB0 hg0 rfl ho8 hg8 hl8 hvb hpb hc hcs hn hr
  have FIN := hide fin
  clear fin q8 hB0 hx0 hg0 ho0 hB7 hxb hvb hcs hn hr PB PX PG PO hW0 hd0 hx hpb
  refine wp_region_early 11 (fun X => X.cell? ⟨pb, 0, none⟩ = some v ∧ X.rangeAt w.heap.size 0 (c.map B8)) (by kernel_rfl) ⟨y0, y1⟩ (fun hS => ?_)
  refine wpAnyE_take (i := 0) (v := (.pointer (some ⟨pb, 0, none⟩))) rfl (by kernel_rfl) (by kernel_rfl) (by kernel_rfl) (by kernel_rfl) (fun _ _ _ h => h) (Or.inl ⟨by kernel_rfl, fun w' hw => by (obtain ⟨z0, z1⟩ := hw; go_simp)⟩) hS ?_
  refine wpAnyE_take (i := 1) (v := (.pointer (some ⟨pb, 0, none⟩))) rfl (by kernel_rfl) (by kernel_rfl) (by kernel_rfl) (by kernel_rfl) (fun _ _ _ h => h) (Or.inl ⟨by kernel_rfl, fun w' hw => by (obtain ⟨z0, z1⟩ := hw; go_simp)⟩) hS ?_
  refine wpAnyE_take (i := 2) (v := (.pointer (some ⟨pb, 0, none⟩))) rfl (by kernel_rfl) (by kernel_rfl) (by kernel_rfl) (by kernel_rfl) (fun _ _ _ h => h) (Or.inl ⟨by kernel_rfl, fun w' hw => by (obtain ⟨z0, z1⟩ := hw; go_simp)⟩) hS ?_
  refine wpAnyE_take (i := 3) (v := (.pointer (some ⟨pb, 0, none⟩))) rfl (by kernel_rfl) (by kernel_rfl) (by kernel_rfl) (by kernel_rfl) (fun _ _ _ h => h) (Or.inl ⟨by kernel_rfl, fun w' hw => by (obtain ⟨z0, z1⟩ := hw; go_simp)⟩) hS ?_
  refine wpAnyE_take (i := 4) (v := v) rfl (by kernel_rfl) (by kernel_rfl) (by kernel_rfl) (by kernel_rfl) (fun _ _ _ h => h) (Or.inl ⟨by kernel_rfl, fun w' hw => by (obtain ⟨z0, z1⟩ := hw; go_simp)⟩) hS ?_
  refine wpAnyE_take (i := 5) (v := (.agg (c.map B8).toArray)) rfl (by kernel_rfl) (by kernel_rfl) (by kernel_rfl) (by kernel_rfl) (fun _ _ _ h => h) (yieldsIf_load_mid (by kernel_rfl) 73 _ rfl w.heap.size 0 rfl (c.map B8) (.array 8 71) (fun w hw => hw.2) (by kernel_rfl) rfl (by rw [List.length_map, hc]; kernel_rfl)) hS ?_
  refine wpAnyE_take (i := 6) (v := (.agg (c.map B8 ++ [Value.int .i64 1]).toArray)) rfl (by kernel_rfl) (by kernel_rfl) (by kernel_rfl) (by kernel_rfl) (fun _ _ _ h => h) (Or.inl ⟨by kernel_rfl, fun w' hw => exec_build2 145 0 1 (.tmp 48) (.const (.int .i64 1)) (by kernel_rfl) (.agg (c.map B8).toArray) (.int .i64 1) (by kernel_rfl) (by kernel_rfl) (build_run c 1 w' hc)⟩) hS ?_
  refine wpAnyE_do (i := 7) (by kernel_rfl) rfl (by kernel_rfl) (fun K hK => ?_)
  refine wp_slice_run (.tmp 49) (by kernel_rfl) (c.map B8 ++ [Value.int .i64 1]) (by kernel_rfl) (by simp [hc]) ?_
  refine hK.out _ _ (fun _ => ⟨q0, q1⟩) ?_
  clear hK K
  refine wpAnyE_do (i := 8) (by kernel_rfl) rfl (by kernel_rfl) (fun K hK => ?_)
  refine wp_append_at (.tmp 47) (.tmp 50) 119 (by kernel_rfl) 0 145 it (.agg Z) 65 72 Try.underlying119 hit hz h65 h72 hzs (by decide) v rs.length (rs.flatMap runC) (by kernel_rfl) QO.out ⟨W0.drew.heap.size, 0, none⟩ 1 1 (c.map B8 ++ [Value.int .i64 1]) (by kernel_rfl) (by simp [hc]) QC.out (runC_cell (c, 1)) (by unfold maxLen; omega) (by omega) (Nat.zero_le _) ?_
  intro v8 W8 ho8 hg8 _ hl8
  obtain ⟨r0, rf, r1⟩ := Q8.out W8 hg8
  obtain ⟨a8, c8, rfl⟩ := own_slice ho8
  have HO8 := hide ho8
  have HG8 := hide hg8
  have HL8 := hide hl8
  clear ho8 hg8 hl8
  refine hK.out _ _ (fun _ => ⟨r0, r1⟩) ?_
  clear hK K
  refine wpAnyE_do (i := 9) (by kernel_rfl) rfl (by kernel_rfl) (fun K hK => ?_)
  go_simp
  refine hK.out _ _ (fun _ => ⟨r0, r1⟩) ?_
  clear hK K
  refine wpAnyE_do (i := 10) (by kernel_rfl) rfl (by kernel_rfl) (fun K hK => ?_)
  go_simp
  refine hK.out _ _ (fun _ => ⟨r0, r1⟩) ?_
  clear hK K
  refine wpAnyE_do (i := 11) (by kernel_rfl) rfl (by kernel_rfl) (fun K hK => ?_)
  go_simp
  refine hK.out _ _ (fun h => absurd rfl h) ?_
  clear hK K
  refine wpAnyE_done (by kernel_rfl) ?_ _
  try simp only [Act.put, List.getElem_toArray, List.getElem_cons_zero, List.getElem_cons_succ, List.setIfInBounds_toArray, List.set_cons_zero, List.set_cons_succ]
  go_wp2_with (fail)
  go_end0
  exact ⟨rfl, _, FIN.out _ _ HO8.out HG8.out HL8.out⟩
end Go.Proofs.Ytgfgihpkbbjkfaa
