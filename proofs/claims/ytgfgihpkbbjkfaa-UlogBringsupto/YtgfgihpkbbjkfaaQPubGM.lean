/- Package persist: Publish, where a loss of power may wait. -/
import Derived.Test.YtgfgihpkbbjkfaaPLos
import Derived.ArgAppend
import Derived.Deep.Cut
import Derived.Test.YtgfgihpkbbjkfaaPWr
import Derived.Test.YtgfgihpkbbjkfaaPSt
import Derived.Test.YtgfgihpkbbjkfaaPFl
import Derived.Test.YtgfgihpkbbjkfaaQFl
import Derived.Test.YtgfgihpkbbjkfaaPFnW
import Derived.Test.YtgfgihpkbbjkfaaQPub
namespace Go.Proofs.Ytgfgihpkbbjkfaa
open Go.RowKit Go.Shelf
set_option linter.unusedVariables false

theorem infoArm : ∃ i, Try.prog.info? 89 = some i ∧ i.zero = some (.agg #[.int .i64 0, .slice none 0 0]) ∧ i.size = 2 := by
  have h : (Try.prog.info? 89).map (fun i => (i.zero, i.size)) = some (some (.agg #[.int .i64 0, .slice none 0 0]), 2) := by kernel_rfl
  obtain ⟨i, h1, h2⟩ := Option.map_eq_some_iff.1 h
  simp only [Prod.mk.injEq] at h2
  exact ⟨i, h1, h2.1, h2.2⟩
theorem armSlice : Try.prog.underlying 24 = some (.slice 89) := by kernel_rfl
theorem cut_front (g n cap : Nat) (hn : 1 ≤ n) (hc : n ≤ cap) (w : World) : (Instr.sliceAt 24 (.slice (some ⟨g, 0, none⟩) n cap) none (some (.int .i64 0)) none).run Try.prog w = .ok (.slice (some ⟨g, 0, none⟩) 0 cap) w := by
  obtain ⟨i, h1, h2, h3⟩ := infoArm
  have e : ¬ cap = 0 := by omega
  simp [Instr.sliceAt, Instr.slice, Sem.run_bind, run_underlying armSlice, Instr.sliceBounds, Instr.sliceBound, asIntOf, sizeOf, typeInfo, h1, Addr.add_mid, e]
theorem cut_whole (g n cap : Nat) (hn : 1 ≤ n) (hc : n ≤ cap) (w : World) : (Instr.sliceAt 24 (.slice (some ⟨g, 0, none⟩) n cap) (some (.int .i64 0)) (some (.int .i64 1)) (some (.int .i64 (n : Int)))).run Try.prog w = .ok (.slice (some ⟨g, 0, none⟩) 1 n) w := by
  obtain ⟨i, h1, h2, h3⟩ := infoArm
  have e : ¬ n = 0 := by omega
  have e1 : (1 : Int) ≤ (n : Int) := by omega
  have e2 : (n : Int) ≤ (cap : Int) := by omega
  simp [Instr.sliceAt, Instr.slice, Sem.run_bind, run_underlying armSlice, Instr.sliceBounds, Instr.sliceBound, asIntOf, sizeOf, typeInfo, h1, Addr.add_mid, e1]
  omega
theorem cut_back (g n m cap : Nat) (hn : m + 1 = n) (hc : n ≤ cap) : ∃ ad : Addr, (1 ≤ m → ad = ⟨g, 2, none⟩) ∧ ∀ w : World, (Instr.sliceAt 24 (.slice (some ⟨g, 0, none⟩) n cap) (some (.int .i64 1)) none none).run Try.prog w = .ok (.slice (some ad) m (cap - 1)) w := by
  obtain ⟨i, h1, h2, h3⟩ := infoArm
  have e1 : 1 ≤ n := by omega
  have e2 : n - 1 = m := by omega
  by_cases h : cap = 1
  · refine ⟨⟨g, 0, none⟩, fun hm => by omega, fun w => ?_⟩
    simp [Instr.sliceAt, Instr.slice, Sem.run_bind, run_underlying armSlice, Instr.sliceBounds, Instr.sliceBound, asIntOf, sizeOf, typeInfo, h1, Addr.add_mid, h, e2]
    omega
  · refine ⟨⟨g, 2, none⟩, fun _ => rfl, fun w => ?_⟩
    simp [Instr.sliceAt, Instr.slice, Sem.run_bind, run_underlying armSlice, Instr.sliceBounds, Instr.sliceBound, asIntOf, sizeOf, typeInfo, h1, h3, Addr.add_mid, h, e2]
    omega
theorem cut_tail (g n m cap : Nat) (hn : m + 1 = n) (hc : n ≤ cap) (w : World) : (Instr.sliceAt 24 (.slice (some ⟨g, 0, none⟩) m cap) (some (.int .i64 (m : Int))) (some (.int .i64 (n : Int))) none).run Try.prog w = .ok (.slice (some ⟨g, m * 2, none⟩) 1 (cap - m)) w := by
  obtain ⟨i, h1, h2, h3⟩ := infoArm
  have e : ¬ cap = m := by omega
  have e3 : n - m = 1 := by omega
  simp [Instr.sliceAt, Instr.slice, Sem.run_bind, run_underlying armSlice, Instr.sliceBounds, Instr.sliceBound, asIntOf, sizeOf, typeInfo, h1, h3, Addr.add_mid, e, e3]
  rw [if_pos (by omega), if_pos (by omega)]
theorem clear_one (g o cap : Nat) (ty : TypeId) (w : World) (cur : List Value) (hg : w.heap[g]? = some (.cells cur.toArray 89 (0, 0))) (hs : o + 2 ≤ cur.length) : (Builtin.clear_ #[24] ty #[.slice (some ⟨g, o, none⟩) 1 cap]).run Try.prog w = .ok (.tuple #[]) (w.setCells g o [.int .i64 0, .slice none 0 0]) := by
  obtain ⟨i, h1, h2, h3⟩ := infoArm
  have hz : ∀ w : World, (zeroValue 89).run Try.prog w = .ok (.agg #[.int .i64 0, .slice none 0 0]) w := fun w => by simp [zeroValue, typeInfo, h1, h2]
  have hst := run_storeCells_cells (P := Try.prog) g o [.int .i64 0, .slice none 0 0] 0 w (fun j hj => by rw [Nat.add_zero, cell8 hg, Array.getElem?_eq_getElem (by simp at hj ⊢; omega)]; rfl) (fun j hj => froz8 hg _) (by simp [Value.oneCell'])
  have e : (Builtin.zeroCells (Value.agg #[Value.int .i64 0, Value.slice none 0 0]).cells 1).toList = [Value.int .i64 0, Value.slice none 0 0] := by kernel_rfl
  have hst' : (storeCells ⟨g, o, none⟩ [Value.int .i64 0, Value.slice none 0 0]).run Try.prog w = .ok () (w.setCells g o [.int .i64 0, .slice none 0 0]) := by simpa using hst
  simp [Builtin.clear_, run_underlying armSlice, hz, e, hst']
theorem wpAnyH_goD {P : Program} {ops : Array Oper} {Q : Exit → Act → World → Prop} {md : Region.Mode} {S : World → Prop} {i : Nat} {o : Oper} {fuel : Nat} {listed : Array Bool} {a : Act} {w : World} (hr : Region.ready md ops listed = [i]) (ho : ops[i]? = some o) (hw : Region.wanted o (yielded ops a.tmps) = true)
    (h : ∀ K' : Act → World → Prop, Shut (∀ a w, S w → wpAnyH P md ops Q S fuel (listed.setIfInBounds i true) a w → K' a w) → Oper.wp P o a w K' Q) : wpAnyH P md ops Q S (fuel + 1) listed a w := by
  refine wpAnyH_ready (rs := [i]) hr (by simp) (AllReadyH.cons ho (fun K hK => ?_) AllReadyH.nil)
  rw [if_pos hw]
  exact h K (fun a w hs hq => hK a w hs (fun _ => hq))
theorem wp_append_run {P : Program} {o : Oper} {a : Act} {w w' : World} {v' v1 v2 : Value} {K : Act → World → Prop} {Q : Exit → Act → World → Prop} (s x : Operand) (t : TypeId)
    (ho : o.op = .call { callee := .builtin .append, args := #[s, x], argTypes := #[t, t] }) (hs : a.eval s = v1) (hx : a.eval x = v2) (hr : (Builtin.append_ #[t, t] o.type #[v1, v2]).run P w = .ok v' w') (h : K (a.put o.dst v') w') : o.wp P a w K Q := by
  unfold Oper.wp execOp
  simp only [ho, resolve, invoke, builtin, Sem.run_bind, Sem.run_pure, Result.andThen_ok, List.map_toArray, List.map_cons, List.map_nil, hs, hx, hr]
  exact h
set_option maxHeartbeats 400000 in
theorem pdel_gen (w : World) (g cap n m : Nat) (cur : Array Value) (hg : w.heap[g]? = some (.cells cur 89 (0, 0))) (hn : m + 1 = n) (hc : n ≤ cap) (hs : cur.size = cap * 2) (h1 : ∀ u ∈ cur.toList.take (n * 2), u.oneCell' = true) (hcm : cap ≤ maxLen) :
    Calls Try.prog 78 #[.slice (some ⟨g, 0, none⟩) n cap, .int .i64 0, .int .i64 1] w fun e w' => e = .returned (.slice (some ⟨g, 0, none⟩) m cap) ∧ Gr (fun k => k = g) w w' ∧ ∃ cur' : Array Value, w'.heap[g]? = some (.cells cur' 89 (0, 0)) ∧ cur'.size = cur.size ∧ cur'.toList.take (m * 2) = (cur.toList.drop 2).take (m * 2) := by
  obtain ⟨ad, had, e2⟩ := cut_back g n m cap hn hc
  have e0 := fun W => cut_whole g n cap (by omega) hc W
  have e1 := fun W => cut_front g n cap (by omega) hc W
  have hcl : cur.toList.length = cap * 2 := by simpa using hs
  have hnl : ((cur.toList.drop 2).take (m * 2)).length = m * 2 := by rw [List.length_take, List.length_drop, hcl]; omega
  have e3 : ∀ ty : TypeId, (Builtin.append_ #[24, 24] ty #[.slice (some ⟨g, 0, none⟩) 0 cap, .slice (some ad) m (cap - 1)]).run Try.prog w.drew = .ok (.slice (some ⟨g, 0, none⟩) m cap) (w.drew.setCells g 0 ((cur.toList.drop 2).take (m * 2))) := fun ty => by
    obtain ⟨i, q1, q2, q3⟩ := infoArm
    have h := run_append_room_cells (P := Try.prog) w.drew 24 ty 89 i armSlice q1 g 0 0 cap ad m (cap - 1) ((cur.toList.drop 2).take (m * 2)) (by rw [hnl, q3]) (fun j u hj => ?_) (fun u hu => ?_) (by omega) (fun j hj => ?_) (fun j hj => froz8 (w := w.drew) hg _)
    · simp only [Nat.zero_mul, Nat.zero_add] at h
      exact h
    · have hjl : j < m * 2 := by have := (List.getElem?_eq_some_iff.1 hj).1; omega
      rw [had (by omega), Addr.add_lit, cell8 (w := w.drew) hg]
      rw [List.getElem?_take, if_pos hjl, List.getElem?_drop] at hj
      simpa using hj
    · refine h1 u ?_
      obtain ⟨j, hj⟩ := List.getElem?_of_mem hu
      have hjl : j < m * 2 := by have := (List.getElem?_eq_some_iff.1 hj).1; omega
      rw [List.getElem?_take, if_pos hjl, List.getElem?_drop] at hj
      refine List.mem_of_getElem? (i := 2 + j) ?_
      rw [List.getElem?_take, if_pos (by omega)]
      exact hj
    · rw [cell8 (w := w.drew) hg, Array.getElem?_eq_getElem (by omega)]
      rfl
  have q1 : w.drew.heap[g]? = some (.cells cur.toList.toArray 89 (0, 0)) := by show w.heap[g]? = _; simpa using hg
  have q2 := heap_setCells g 89 ((cur.toList.drop 2).take (m * 2)) 0 w.drew cur.toList q1 (by omega)
  have l2 : (splice cur.toList 0 ((cur.toList.drop 2).take (m * 2))).length = cap * 2 := by rw [length_splice _ _ _ (by omega), hcl]
  have e4 := fun ty : TypeId => clear_one g (m * 2) (cap - m) ty (w.drew.setCells g 0 ((cur.toList.drop 2).take (m * 2))) _ q2 (by omega)
  have q3 := heap_setCells g 89 [.int .i64 0, .slice none 0 0] (m * 2) _ _ q2 (by simp; omega)
  have e5 := fun W => cut_tail g n m cap hn hc W
  have fin : Gr (fun k => k = g) w ((w.drew.setCells g 0 ((cur.toList.drop 2).take (m * 2))).setCells g (m * 2) [.int .i64 0, .slice none 0 0]) ∧ ∃ cur' : Array Value, ((w.drew.setCells g 0 ((cur.toList.drop 2).take (m * 2))).setCells g (m * 2) [.int .i64 0, .slice none 0 0]).heap[g]? = some (.cells cur' 89 (0, 0)) ∧ cur'.size = cur.size ∧ cur'.toList.take (m * 2) = (cur.toList.drop 2).take (m * 2) := by
    refine ⟨(Gr.setCells w.drew g _ _ rfl : Gr (fun k => k = g) w.drew _).trans (Gr.setCells _ g _ _ rfl : Gr (fun k => k = g) _ _) (fun i h => .inl h), ⟨_, q3, ?_, ?_⟩⟩
    · rw [List.size_toArray, length_splice _ _ _ (by simp; omega), l2, hs]
    · rw [List.toList_toArray]
      generalize (cur.toList.drop 2).take (m * 2) = ns at *
      have hL : ((splice cur.toList 0 ns).take (m * 2)).length = m * 2 := by rw [List.length_take, l2]; omega
      generalize hX : splice cur.toList 0 ns = X at *
      have hsp : ∀ (l c : List Value) (o : Nat), splice l o c = l.take o ++ (c ++ l.drop (o + c.length)) := fun l c o => by unfold splice; simp
      rw [hsp, List.take_left' hL, ← hX, hsp, List.take_zero, List.nil_append, List.take_left' hnl]
  have FIN := hide fin
  have E3 := hide e3
  clear fin hg hs q1 q2 q3 l2 had h1 hcl hnl e3
  generalize (cur.toList.drop 2).take (m * 2) = ns at *
  have e6 : ((0 : Int) == (1 : Int)) = false := rfl
  go_enter Try.func78, Try.ntmps78
  go_wp2_with (fail)
  refine wp_region_held_drew (S := fun _ => True) (by kernel_rfl) trivial (fun hS => ?_)
  refine wpAnyH_take (i := 0) (v := (.slice (some ⟨g, 0, none⟩) n cap)) rfl (by kernel_rfl) (by kernel_rfl) (by kernel_rfl) (fun _ _ _ h => h) (Or.inl ⟨by kernel_rfl, fun w' hw => by (go_simp)⟩) hS ?_
  refine wpAnyH_take (i := 1) (v := (.int .i64 0)) rfl (by kernel_rfl) (by kernel_rfl) (by kernel_rfl) (fun _ _ _ h => h) (Or.inl ⟨by kernel_rfl, fun w' hw => by (go_simp)⟩) hS ?_
  refine wpAnyH_take (i := 2) (v := (.slice (some ⟨g, 0, none⟩) 0 cap)) rfl (by kernel_rfl) (by kernel_rfl) (by kernel_rfl) (fun _ _ _ h => h) (Or.inl ⟨by kernel_rfl, fun w' hw => by (have e := e1 w'; go_simp)⟩) hS ?_
  refine wpAnyH_take (i := 3) (v := (.slice (some ⟨g, 0, none⟩) n cap)) rfl (by kernel_rfl) (by kernel_rfl) (by kernel_rfl) (fun _ _ _ h => h) (Or.inl ⟨by kernel_rfl, fun w' hw => by (go_simp)⟩) hS ?_
  refine wpAnyH_take (i := 4) (v := (.int .i64 1)) rfl (by kernel_rfl) (by kernel_rfl) (by kernel_rfl) (fun _ _ _ h => h) (Or.inl ⟨by kernel_rfl, fun w' hw => by (go_simp)⟩) hS ?_
  refine wpAnyH_take (i := 5) (v := (.slice (some ad) m (cap - 1))) rfl (by kernel_rfl) (by kernel_rfl) (by kernel_rfl) (fun _ _ _ h => h) (Or.inl ⟨by kernel_rfl, fun w' hw => by (have e := e2 w'; go_simp)⟩) hS ?_
  refine wpAnyH_goD (i := 6) (by kernel_rfl) rfl (by kernel_rfl) (fun K hK => ?_)
  refine wp_append_run (.tmp 22) (.tmp 25) 24 (by kernel_rfl) (by kernel_rfl) (by kernel_rfl) (E3.out _) ?_
  refine hK.out _ _ trivial ?_
  clear hK K
  refine wpAnyH_take (i := 7) (v := (.slice (some ⟨g, 0, none⟩) m cap)) rfl (by kernel_rfl) (by kernel_rfl) (by kernel_rfl) (fun _ _ _ h => h) (Or.inl ⟨by kernel_rfl, fun w' hw => by (go_simp)⟩) hS ?_
  refine wpAnyH_done (by kernel_rfl) ?_ _
  simp only [Act.put, List.getElem_toArray, List.getElem_cons_zero, List.getElem_cons_succ, List.setIfInBounds_toArray, List.set_cons_zero, List.set_cons_succ]
  generalize w.drew.setCells g 0 ns = W1 at *
  go_wp2_with (fail)
  go_ret
  exact ⟨rfl, FIN.out⟩
end Go.Proofs.Ytgfgihpkbbjkfaa
namespace Go.Proofs.Ytgfgihpkbbjkfaa
open Go.RowKit Go.Shelf
set_option linter.unusedVariables false

section
variable {w : World} {b : Nat} {L : Lay} {σ : St}
/-- Where the first loss that waits lies. -/
theorem arm_first {af : Nat} {kp : List Nat} {rest : List (Nat × List Nat)} (h : DevL w b L σ) (harm : σ.arms = (af, kp) :: rest) :
    ∃ g cap kv, L.av = .slice (some ⟨g, 0, none⟩) σ.arms.length cap ∧ 0 < σ.arms.length ∧ ∃ cur : Array Value, w.heap[g]? = some (.cells cur 89 (0, 0)) ∧ cur[0]? = some (.int .i64 (af : Int)) ∧ cur[1]? = some kv ∧ KeepAt w L.KB kv kp := by
  obtain ⟨ks, hl, ho, hk⟩ := h.arms
  rw [harm] at hl ho hk
  rw [harm]
  match ks, hl with
  | k0 :: ks', hl =>
    rcases ho.2 with ⟨e, h0⟩ | ⟨g, cap, cur, e, h1, h2, h3, h4, h5, h6⟩
    · simp at h0
    · refine ⟨g, cap, k0, e, by simp, cur, h2, ?_, ?_, hk 0 k0 (af, kp) rfl rfl⟩
      · have h7 : (cur.toList.take (((af, kp) :: rest).length * 2))[0]? = some (.int .i64 (af : Int)) := by rw [h6]; rfl
        rw [List.getElem?_take, if_pos (by simp)] at h7
        simpa using h7
      · have h7 : (cur.toList.take (((af, kp) :: rest).length * 2))[1]? = some k0 := by rw [h6]; rfl
        rw [List.getElem?_take, if_pos (by simp; omega)] at h7
        simpa using h7
theorem index_arm (g len cap : Nat) (hi : 0 < len) (w : World) : (Instr.indexAt 24 (.slice (some ⟨g, 0, none⟩) len cap) (.int .i64 0)).run Try.prog w = .ok (.pointer (some ⟨g, 0, none⟩)) w := by
  have h := index_at (t := 24) (e := 89) (sz := 2) armSlice (by kernel_rfl) g 0 0 len cap hi w
  rwa [Nat.zero_add, Nat.zero_mul] at h
set_option maxRecDepth 100000 in
set_option maxHeartbeats 400000 in
/-- One operation more; the loss still waits. -/
theorem poper_wait {af : Nat} {kp : List Nat} {rest : List (Nat × List Nat)} (h : DevL w b L σ) (hops : σ.ops < 1400000000000) (harm : σ.arms = (af, kp) :: rest) (hc : σ.cnt + 1 < af) (hcn : σ.cnt < 1400000000000) :
    Calls Try.prog 62 #[.pointer (some ⟨b, 0, none⟩)] w fun e w' => e = .returned (.int .i64 0) ∧ DevL w' b L { σ with ops := σ.ops + 1, cnt := σ.cnt + 1 } ∧ Gr (fun k => k = b) w w' := by
  obtain ⟨g, cap, kv, hav, hn1, cur, hgc, hc0, hc1, hke⟩ := arm_first (rest := rest) h harm
  obtain ⟨mm, hmm⟩ : ∃ mm, rest.length = mm := ⟨_, rfl⟩
  obtain ⟨nn, hnn⟩ : ∃ nn, mm + 1 = nn := ⟨_, rfl⟩
  have hal : σ.arms.length = nn := by rw [harm, List.length_cons, hmm, hnn]
  rw [hal] at hav hn1
  have nz : ((nn : Int) == 0) = false := by simp; omega
  have nz2 : decide ((nn : Int) = 0) = false := decide_eq_false (by omega)
  have hgb : g ≠ b := ne_ty hgc h.dev (by decide)
  have c4 := h.c4
  have c5 := h.c5
  rw [hav] at c5
  have c6 := h.c6
  have f4 := h.fz 4
  have f6 := h.fz 6
  have f5 := h.fz 5
  have hb1 : (w.setCell ⟨b, 4, none⟩ (.int .i64 ((σ.ops : Int) + 1))).heap[b]? = _ := heap_set1 w b 4 _ _ _ h.dev
  have d5 : (w.setCell ⟨b, 4, none⟩ (.int .i64 ((σ.ops : Int) + 1))).cell? ⟨b, 5, none⟩ = some (.slice (some ⟨g, 0, none⟩) nn cap) := by rw [cell8 hb1, ← hav]; rfl
  have d6 : (w.setCell ⟨b, 4, none⟩ (.int .i64 ((σ.ops : Int) + 1))).cell? ⟨b, 6, none⟩ = some (.int .i64 (σ.cnt : Int)) := by rw [cell8 hb1]; rfl
  have g6 : (w.setCell ⟨b, 4, none⟩ (.int .i64 ((σ.ops : Int) + 1))).frozen? ⟨b, 6, none⟩ = false := froz8 hb1 6
  have hb2 := heap_set1 (w.setCell ⟨b, 4, none⟩ (.int .i64 ((σ.ops : Int) + 1))) b 6 _ _ (.int .i64 ((σ.cnt : Int) + 1)) hb1
  have i5 : ((w.setCell ⟨b, 4, none⟩ (.int .i64 ((σ.ops : Int) + 1))).setCell ⟨b, 6, none⟩ (.int .i64 ((σ.cnt : Int) + 1))).cell? ⟨b, 5, none⟩ = some (.slice (some ⟨g, 0, none⟩) nn cap) := by rw [cell8 hb2, ← hav]; rfl
  have hg2 : ((w.setCell ⟨b, 4, none⟩ (.int .i64 ((σ.ops : Int) + 1))).setCell ⟨b, 6, none⟩ (.int .i64 ((σ.cnt : Int) + 1))).heap[g]? = some (.cells cur 89 (0, 0)) := ((heap_set_ne _ b 6 g _ hgb).trans (heap_set_ne w b 4 g _ hgb)).trans hgc
  have j0 : ((w.setCell ⟨b, 4, none⟩ (.int .i64 ((σ.ops : Int) + 1))).setCell ⟨b, 6, none⟩ (.int .i64 ((σ.cnt : Int) + 1))).cell? ⟨g, 0, none⟩ = some (.int .i64 (af : Int)) := (cell8 hg2 0).trans hc0
  have j1 : ((w.setCell ⟨b, 4, none⟩ (.int .i64 ((σ.ops : Int) + 1))).setCell ⟨b, 6, none⟩ (.int .i64 ((σ.cnt : Int) + 1))).cell? ⟨g, 1, none⟩ = some kv := (cell8 hg2 1).trans hc1
  have hsz : ((w.setCell ⟨b, 4, none⟩ (.int .i64 ((σ.ops : Int) + 1))).setCell ⟨b, 6, none⟩ (.int .i64 ((σ.cnt : Int) + 1))).heap.size = w.heap.size := by simp
  have hAX : Below ((w.setCell ⟨b, 4, none⟩ (.int .i64 ((σ.ops : Int) + 1))).setCell ⟨b, 6, none⟩ (.int .i64 ((σ.cnt : Int) + 1))).heap.size ((w.setCell ⟨b, 4, none⟩ (.int .i64 ((σ.ops : Int) + 1))).setCell ⟨b, 6, none⟩ (.int .i64 ((σ.cnt : Int) + 1))) (((w.setCell ⟨b, 4, none⟩ (.int .i64 ((σ.ops : Int) + 1))).setCell ⟨b, 6, none⟩ (.int .i64 ((σ.cnt : Int) + 1))).alloc (.cells #[.int .i64 (af : Int), kv] 89)) := (Below.refl _ _).alloc (Nat.le_refl _) _
  have hbX : (((w.setCell ⟨b, 4, none⟩ (.int .i64 ((σ.ops : Int) + 1))).setCell ⟨b, 6, none⟩ (.int .i64 ((σ.cnt : Int) + 1))).alloc (.cells #[.int .i64 (af : Int), kv] 89)).heap[b]? = _ := (hAX.block b (by rw [hsz]; exact h.lt)).trans hb2
  have hgX : (((w.setCell ⟨b, 4, none⟩ (.int .i64 ((σ.ops : Int) + 1))).setCell ⟨b, 6, none⟩ (.int .i64 ((σ.cnt : Int) + 1))).alloc (.cells #[.int .i64 (af : Int), kv] 89)).heap[g]? = some (.cells cur 89 (0, 0)) := (hAX.block g (by rw [hsz]; exact lt_of_heap hgc)).trans hg2
  have hfX : (((w.setCell ⟨b, 4, none⟩ (.int .i64 ((σ.ops : Int) + 1))).setCell ⟨b, 6, none⟩ (.int .i64 ((σ.cnt : Int) + 1))).alloc (.cells #[.int .i64 (af : Int), kv] 89)).heap[w.heap.size]? = some (.cells #[.int .i64 (af : Int), kv] 89 (0, 0)) := by
    have := heap_alloc_new ((w.setCell ⟨b, 4, none⟩ (.int .i64 ((σ.ops : Int) + 1))).setCell ⟨b, 6, none⟩ (.int .i64 ((σ.cnt : Int) + 1))) (.cells #[.int .i64 (af : Int), kv] 89)
    rwa [hsz] at this
  have sx : (((w.setCell ⟨b, 4, none⟩ (.int .i64 ((σ.ops : Int) + 1))).setCell ⟨b, 6, none⟩ (.int .i64 ((σ.cnt : Int) + 1))).alloc (.cells #[.int .i64 (af : Int), kv] 89)).drew.cell? ⟨b, 6, none⟩ = some (.int .i64 ((σ.cnt : Int) + 1)) ∧ (((w.setCell ⟨b, 4, none⟩ (.int .i64 ((σ.ops : Int) + 1))).setCell ⟨b, 6, none⟩ (.int .i64 ((σ.cnt : Int) + 1))).alloc (.cells #[.int .i64 (af : Int), kv] 89)).drew.cell? ⟨w.heap.size, 0, none⟩ = some (.int .i64 (af : Int)) := ⟨by rw [cell8 (w := (((w.setCell ⟨b, 4, none⟩ (.int .i64 ((σ.ops : Int) + 1))).setCell ⟨b, 6, none⟩ (.int .i64 ((σ.cnt : Int) + 1))).alloc (.cells #[.int .i64 (af : Int), kv] 89)).drew) hbX]; rfl, cell8 (w := (((w.setCell ⟨b, 4, none⟩ (.int .i64 ((σ.ops : Int) + 1))).setCell ⟨b, 6, none⟩ (.int .i64 ((σ.cnt : Int) + 1))).alloc (.cells #[.int .i64 (af : Int), kv] 89)).drew) hfX 0⟩
  have SX := hide sx
  have ix := fun Y => index_arm g nn cap hn1 Y
  obtain ⟨kp0, kl0, kc0, hkv⟩ : ∃ p l c, kv = .slice p l c := by obtain ⟨p, c, e, _⟩ := hke; exact ⟨p, _, c, e⟩
  have hre : DevL (((w.setCell ⟨b, 4, none⟩ (.int .i64 ((σ.ops : Int) + 1))).setCell ⟨b, 6, none⟩ (.int .i64 ((σ.cnt : Int) + 1))).alloc (.cells #[.int .i64 (af : Int), kv] 89)).drew b L { σ with ops := σ.ops + 1, cnt := σ.cnt + 1 } := h.re (ops := σ.ops + 1) (cnt := σ.cnt + 1) (off := σ.off) (by show (((w.setCell ⟨b, 4, none⟩ (.int .i64 ((σ.ops : Int) + 1))).setCell ⟨b, 6, none⟩ (.int .i64 ((σ.cnt : Int) + 1))).alloc (.cells #[.int .i64 (af : Int), kv] 89)).heap[b]? = _; rw [hbX]; rfl) (fun k hk hlt => (hAX.block k (by rw [hsz]; exact hlt)).trans ((heap_set_ne _ b 6 k _ hk).trans (heap_set_ne w b 4 k _ hk)))
  have hgr : Gr (fun k => k = b) w (((w.setCell ⟨b, 4, none⟩ (.int .i64 ((σ.ops : Int) + 1))).setCell ⟨b, 6, none⟩ (.int .i64 ((σ.cnt : Int) + 1))).alloc (.cells #[.int .i64 (af : Int), kv] 89)).drew := ((Gr.set w b 4 _ (X := fun k => k = b) rfl).trans (Gr.set _ b 6 _ (X := fun k => k = b) rfl) (fun i h => .inl h)).trans (Gr.of_below hAX : Gr (fun k => k = b) _ (((w.setCell ⟨b, 4, none⟩ (.int .i64 ((σ.ops : Int) + 1))).setCell ⟨b, 6, none⟩ (.int .i64 ((σ.cnt : Int) + 1))).alloc (.cells #[.int .i64 (af : Int), kv] 89))) (fun i h => .inl h)
  have HR := hide hre
  have HG := hide hgr
  have opI : (σ.ops : Int) < 1400000000000 := by omega
  have cnI : (σ.cnt : Int) + 1 < (af : Int) := by omega
  have ncI : (σ.cnt : Int) < 1400000000000 := by omega
  subst hkv
  clear h harm hre hgr hke hgc hc0 hc1 hbX hgX hfX sx hAX hsz hb1 hb2 hg2 hops hc hcn hav hgb f5 hn1 hal hmm hnn
  generalize σ.ops = no at *
  generalize σ.cnt = nc at *
  go_enter Try.func62, Try.ntmps62
  go_wp2_with (fail)
  refine wp_region_held_drew (S := fun Y => Y.cell? ⟨b, 6, none⟩ = some (.int .i64 ((nc : Int) + 1)) ∧ Y.cell? ⟨w.heap.size, 0, none⟩ = some (.int .i64 (af : Int))) (by kernel_rfl) SX.out (fun hS => ?_)
  refine wpAnyH_take (i := 0) (v := (.pointer (some ⟨b, 0, none⟩))) rfl (by kernel_rfl) (by kernel_rfl) (by kernel_rfl) (fun _ _ _ h => h) (Or.inl ⟨by kernel_rfl, fun w' hw => by (go_simp)⟩) hS ?_
  refine wpAnyH_take (i := 1) (v := (.pointer (some ⟨b, 0, none⟩))) rfl (by kernel_rfl) (by kernel_rfl) (by kernel_rfl) (fun _ _ _ h => h) (Or.inl ⟨by kernel_rfl, fun w' hw => by (go_simp)⟩) hS ?_
  refine wpAnyH_take (i := 2) (v := (.pointer (some ⟨b, 6, none⟩))) rfl (by kernel_rfl) (by kernel_rfl) (by kernel_rfl) (fun _ _ _ h => h) (Or.inl ⟨by kernel_rfl, fun w' hw => by (go_simp)⟩) hS ?_
  refine wpAnyH_take (i := 3) (v := (.int .i64 ((nc : Int) + 1))) rfl (by kernel_rfl) (by kernel_rfl) (by kernel_rfl) (fun _ _ _ h => h) (Or.inl ⟨by kernel_rfl, fun w' hw => by (obtain ⟨z0, z1⟩ := hw; go_simp)⟩) hS ?_
  refine wpAnyH_take (i := 4) (v := (.pointer (some ⟨w.heap.size, 0, none⟩))) rfl (by kernel_rfl) (by kernel_rfl) (by kernel_rfl) (fun _ _ _ h => h) (Or.inl ⟨by kernel_rfl, fun w' hw => by (go_simp)⟩) hS ?_
  refine wpAnyH_take (i := 5) (v := (.int .i64 (af : Int))) rfl (by kernel_rfl) (by kernel_rfl) (by kernel_rfl) (fun _ _ _ h => h) (Or.inl ⟨by kernel_rfl, fun w' hw => by (obtain ⟨z0, z1⟩ := hw; go_simp)⟩) hS ?_
  refine wpAnyH_take (i := 6) (v := (.bool true)) rfl (by kernel_rfl) (by kernel_rfl) (by kernel_rfl) (fun _ _ _ h => h) (Or.inl ⟨by kernel_rfl, fun w' hw => by (go_simp)⟩) hS ?_
  refine wpAnyH_done (by kernel_rfl) ?_ _
  simp only [Act.put, List.getElem_toArray, List.getElem_cons_zero, List.getElem_cons_succ, List.setIfInBounds_toArray, List.set_cons_zero, List.set_cons_succ]
  go_wp2_with (fail)
  go_ret
  exact ⟨rfl, HR.out, HG.out⟩
/-- The first loss that waits is gone. -/
theorem DevL.disarm {w' : World} {g cap o nn mm af : Nat} {kp : List Nat} {rest : List (Nat × List Nat)} (h : DevL w b L σ) (harm : σ.arms = (af, kp) :: rest) (hmm : rest.length = mm) (hav : L.av = .slice (some ⟨g, 0, none⟩) nn cap) (hb : w'.heap[b]? = some (.cells (devC b { L with av := .slice (some ⟨g, 0, none⟩) mm cap } { σ with ops := o, arms := rest, cnt := 0 }) 69 (0, 0)))
    (hg : ∃ cur : Array Value, w.heap[g]? = some (.cells cur 89 (0, 0)) ∧ cur.size = cap * 2 ∧ cap ≤ maxLen ∧ mm ≤ cap ∧ ∃ cur' : Array Value, w'.heap[g]? = some (.cells cur' 89 (0, 0)) ∧ cur'.size = cur.size ∧ cur'.toList.take (mm * 2) = (cur.toList.drop 2).take (mm * 2)) (hk : ∀ k, k ≠ b → k ≠ g → k < w.heap.size → w'.heap[k]? = w.heap[k]?) :
    DevL w' b { L with av := .slice (some ⟨g, 0, none⟩) mm cap } { σ with ops := o, arms := rest, cnt := 0 } := by
  obtain ⟨cur, hg1, hs1, hm1, hmc, cur', hg2, hs2, ht2⟩ := hg
  have hs : ∀ (k : Nat) (c : Array Value) t fr, w.heap[k]? = some (Obj.cells c t fr) → t ≠ 69 → t ≠ 89 → w'.heap[k]? = w.heap[k]? := fun k c t fr h1 h2 h3 => hk k (ne_ty h1 h.dev h2) (ne_ty h1 hg1 h3) (lt_of_heap h1)
  obtain ⟨e1, k1, hob⟩ := h.old.block
  obtain ⟨e2, k2, hfb⟩ := h.flm.block
  have harms : ArmsR w' L.KB (.slice (some ⟨g, 0, none⟩) mm cap) rest := by
    obtain ⟨ks, hl, ho, hkp⟩ := h.arms
    rw [harm] at hl ho hkp
    match ks, hl with
    | k0 :: ks', hl =>
      have hl' : ks'.length = rest.length := by simpa using hl
      refine ⟨ks', hl', ⟨?_, .inr ⟨g, cap, cur', by rw [hmm], Nat.zero_le _, hg2, by omega, hm1, by rw [hs2, hs1], ?_⟩⟩, fun i k a h3 h4 => ?_⟩
      · have h5 := ho.1
        rw [List.zip_cons_cons, List.flatMap_cons, List.length_append, List.length_cons] at h5
        have h6 : (armC (k0, (af, kp))).length = 2 := rfl
        omega
      · rcases ho.2 with ⟨e, h0⟩ | ⟨g', cap', cur3, e, _, q2, q3, q4, q5, q6⟩
        · simp at h0
        · rw [hav] at e
          cases e
          rw [hg1] at q2
          cases q2
          rw [hmm, ht2]
          have h7 := congrArg (List.drop 2) q6
          rw [List.drop_take, List.zip_cons_cons, List.flatMap_cons, List.length_cons, hmm, show (mm + 1) * 2 - 2 = mm * 2 by omega] at h7
          exact h7
      · obtain ⟨p, c, e, h5⟩ := hkp (i + 1) k a (by simpa using h3) (by simpa using h4)
        refine ⟨p, c, e, h5.imp id ?_⟩
        rintro ⟨g', hp, hg', hc'⟩
        obtain ⟨c2, hc2⟩ := h.kbt g' hg'
        exact ⟨g', hp, hg', fun i x hx => (World.cell?_of_block (hs _ _ _ _ hc2 (by decide) (by decide))).trans (hc' i x hx)⟩
  refine ⟨hb, (hs _ _ _ _ h.seen (by decide) (by decide)).trans h.seen, h.old.of_block (hk _ (ne_map h.dev hob).symm (ne_map hg1 hob).symm (lt_of_heap hob)), h.flm.of_block (hk _ (ne_map h.dev hfb).symm (ne_map hg1 hfb).symm (lt_of_heap hfb)),
    fun i hi => (h.pasts i hi).keep (hs _ _ _ _ (h.pasts i hi).1 (by decide) (by decide)) (fun g' hg' => ?_), h.pne, h.rne, h.mne, harms, fun k hkb => ?_⟩
  · obtain ⟨c, hc⟩ := (h.pasts i hi).row hg'
    exact hs _ _ _ _ hc (by decide) (by decide)
  · obtain ⟨c, hc⟩ := h.kbt k hkb
    exact ⟨c, (hs _ _ _ _ hc (by decide) (by decide)).trans hc⟩
theorem slN_of {W : World} {KB : Nat → Prop} {p : Option Addr} {c : Nat} {kp : List Nat} (h : KeepAt w KB (.slice p kp.length c) kp) (hkb : ∀ k, KB k → ∃ c, w.heap[k]? = some (.cells c 3 (0, 0))) (hW : ∀ k, KB k → W.heap[k]? = w.heap[k]?) (hb : ∀ x ∈ kp, x < 9223372036854775808) : SlN W p kp := by
  obtain ⟨p', c', e, h1⟩ := h
  cases e
  rcases h1 with ⟨h2, h3⟩ | ⟨g, h2, h3, h4⟩
  · exact ⟨hb, .inl ⟨h2, h3⟩⟩
  · obtain ⟨c2, hc2⟩ := hkb g h3
    exact ⟨hb, .inr ⟨g, 0, c2, (0, 0), h2, (hW g h3).trans hc2, fun j k hj => by rw [Nat.zero_add]; exact (World.cell?_of_block (a := ⟨g, j, none⟩) (hW g h3)).trans (h4 j k hj)⟩⟩
set_option maxRecDepth 100000 in
set_option maxHeartbeats 400000 in
/-- One operation more, behind which the power goes. -/
theorem poper_fire {af : Nat} {kp : List Nat} {rest : List (Nat × List Nat)} (h : DevL w b L σ) (hok : ({ σ with ops := σ.ops + 1 } : St).Ok) (hops : σ.ops < 1400000000000) (harm : σ.arms = (af, kp) :: rest) (hc : af ≤ σ.cnt + 1) (hcn : σ.cnt < 1400000000000) (hkb : ∀ x ∈ kp, x < 9223372036854775808) (hkl : kp.length ≤ 1400000000000) :
    Calls Try.prog 62 #[.pointer (some ⟨b, 0, none⟩)] w fun e w' => e = .returned (.int .i64 5) ∧ ∃ L' σ', Lost { σ with ops := σ.ops + 1, arms := rest, cnt := 0 } kp σ' ∧ DevL w' b L' σ' ∧ (∀ k, Foot b L' σ' k → Foot b L σ k ∨ w.heap.size ≤ k) ∧ Gr (Foot b L σ) w w' ∧ L'.N ≤ L.N ∧ L'.KB = L.KB := by
  obtain ⟨g, cap, kv, hav, hn1, cur, hgc, hc0, hc1, hke⟩ := arm_first (rest := rest) h harm
  obtain ⟨mm, hmm⟩ : ∃ mm, rest.length = mm := ⟨_, rfl⟩
  obtain ⟨nn, hnn⟩ : ∃ nn, mm + 1 = nn := ⟨_, rfl⟩
  have hal : σ.arms.length = nn := by rw [harm, List.length_cons, hmm, hnn]
  rw [hal] at hav hn1
  have nz : ((nn : Int) == 0) = false := by simp; omega
  have nz2 : decide ((nn : Int) = 0) = false := decide_eq_false (by omega)
  have hgb : g ≠ b := ne_ty hgc h.dev (by decide)
  have c4 := h.c4
  have c5 := h.c5
  rw [hav] at c5
  have c6 := h.c6
  have f4 := h.fz 4
  have f6 := h.fz 6
  have f5 := h.fz 5
  have hb1 : (w.setCell ⟨b, 4, none⟩ (.int .i64 ((σ.ops : Int) + 1))).heap[b]? = _ := heap_set1 w b 4 _ _ _ h.dev
  have d5 : (w.setCell ⟨b, 4, none⟩ (.int .i64 ((σ.ops : Int) + 1))).cell? ⟨b, 5, none⟩ = some (.slice (some ⟨g, 0, none⟩) nn cap) := by rw [cell8 hb1, ← hav]; rfl
  have d6 : (w.setCell ⟨b, 4, none⟩ (.int .i64 ((σ.ops : Int) + 1))).cell? ⟨b, 6, none⟩ = some (.int .i64 (σ.cnt : Int)) := by rw [cell8 hb1]; rfl
  have g6 : (w.setCell ⟨b, 4, none⟩ (.int .i64 ((σ.ops : Int) + 1))).frozen? ⟨b, 6, none⟩ = false := froz8 hb1 6
  have hb2 := heap_set1 (w.setCell ⟨b, 4, none⟩ (.int .i64 ((σ.ops : Int) + 1))) b 6 _ _ (.int .i64 ((σ.cnt : Int) + 1)) hb1
  have i5 : ((w.setCell ⟨b, 4, none⟩ (.int .i64 ((σ.ops : Int) + 1))).setCell ⟨b, 6, none⟩ (.int .i64 ((σ.cnt : Int) + 1))).cell? ⟨b, 5, none⟩ = some (.slice (some ⟨g, 0, none⟩) nn cap) := by rw [cell8 hb2, ← hav]; rfl
  have hg2 : ((w.setCell ⟨b, 4, none⟩ (.int .i64 ((σ.ops : Int) + 1))).setCell ⟨b, 6, none⟩ (.int .i64 ((σ.cnt : Int) + 1))).heap[g]? = some (.cells cur 89 (0, 0)) := ((heap_set_ne _ b 6 g _ hgb).trans (heap_set_ne w b 4 g _ hgb)).trans hgc
  have j0 : ((w.setCell ⟨b, 4, none⟩ (.int .i64 ((σ.ops : Int) + 1))).setCell ⟨b, 6, none⟩ (.int .i64 ((σ.cnt : Int) + 1))).cell? ⟨g, 0, none⟩ = some (.int .i64 (af : Int)) := (cell8 hg2 0).trans hc0
  have j1 : ((w.setCell ⟨b, 4, none⟩ (.int .i64 ((σ.ops : Int) + 1))).setCell ⟨b, 6, none⟩ (.int .i64 ((σ.cnt : Int) + 1))).cell? ⟨g, 1, none⟩ = some kv := (cell8 hg2 1).trans hc1
  have hsz : ((w.setCell ⟨b, 4, none⟩ (.int .i64 ((σ.ops : Int) + 1))).setCell ⟨b, 6, none⟩ (.int .i64 ((σ.cnt : Int) + 1))).heap.size = w.heap.size := by simp
  have hAX : Below ((w.setCell ⟨b, 4, none⟩ (.int .i64 ((σ.ops : Int) + 1))).setCell ⟨b, 6, none⟩ (.int .i64 ((σ.cnt : Int) + 1))).heap.size ((w.setCell ⟨b, 4, none⟩ (.int .i64 ((σ.ops : Int) + 1))).setCell ⟨b, 6, none⟩ (.int .i64 ((σ.cnt : Int) + 1))) (((w.setCell ⟨b, 4, none⟩ (.int .i64 ((σ.ops : Int) + 1))).setCell ⟨b, 6, none⟩ (.int .i64 ((σ.cnt : Int) + 1))).alloc (.cells #[.int .i64 (af : Int), kv] 89)) := (Below.refl _ _).alloc (Nat.le_refl _) _
  have hbX : (((w.setCell ⟨b, 4, none⟩ (.int .i64 ((σ.ops : Int) + 1))).setCell ⟨b, 6, none⟩ (.int .i64 ((σ.cnt : Int) + 1))).alloc (.cells #[.int .i64 (af : Int), kv] 89)).heap[b]? = _ := (hAX.block b (by rw [hsz]; exact h.lt)).trans hb2
  have hgX : (((w.setCell ⟨b, 4, none⟩ (.int .i64 ((σ.ops : Int) + 1))).setCell ⟨b, 6, none⟩ (.int .i64 ((σ.cnt : Int) + 1))).alloc (.cells #[.int .i64 (af : Int), kv] 89)).heap[g]? = some (.cells cur 89 (0, 0)) := (hAX.block g (by rw [hsz]; exact lt_of_heap hgc)).trans hg2
  have hfX : (((w.setCell ⟨b, 4, none⟩ (.int .i64 ((σ.ops : Int) + 1))).setCell ⟨b, 6, none⟩ (.int .i64 ((σ.cnt : Int) + 1))).alloc (.cells #[.int .i64 (af : Int), kv] 89)).heap[w.heap.size]? = some (.cells #[.int .i64 (af : Int), kv] 89 (0, 0)) := by
    have := heap_alloc_new ((w.setCell ⟨b, 4, none⟩ (.int .i64 ((σ.ops : Int) + 1))).setCell ⟨b, 6, none⟩ (.int .i64 ((σ.cnt : Int) + 1))) (.cells #[.int .i64 (af : Int), kv] 89)
    rwa [hsz] at this
  have sx : (((w.setCell ⟨b, 4, none⟩ (.int .i64 ((σ.ops : Int) + 1))).setCell ⟨b, 6, none⟩ (.int .i64 ((σ.cnt : Int) + 1))).alloc (.cells #[.int .i64 (af : Int), kv] 89)).drew.cell? ⟨b, 6, none⟩ = some (.int .i64 ((σ.cnt : Int) + 1)) ∧ (((w.setCell ⟨b, 4, none⟩ (.int .i64 ((σ.ops : Int) + 1))).setCell ⟨b, 6, none⟩ (.int .i64 ((σ.cnt : Int) + 1))).alloc (.cells #[.int .i64 (af : Int), kv] 89)).drew.cell? ⟨w.heap.size, 0, none⟩ = some (.int .i64 (af : Int)) := ⟨by rw [cell8 (w := (((w.setCell ⟨b, 4, none⟩ (.int .i64 ((σ.ops : Int) + 1))).setCell ⟨b, 6, none⟩ (.int .i64 ((σ.cnt : Int) + 1))).alloc (.cells #[.int .i64 (af : Int), kv] 89)).drew) hbX]; rfl, cell8 (w := (((w.setCell ⟨b, 4, none⟩ (.int .i64 ((σ.ops : Int) + 1))).setCell ⟨b, 6, none⟩ (.int .i64 ((σ.cnt : Int) + 1))).alloc (.cells #[.int .i64 (af : Int), kv] 89)).drew) hfX 0⟩
  have SX := hide sx
  have ix := fun Y => index_arm g nn cap hn1 Y
  obtain ⟨kp0, kl0, kc0, hkv⟩ : ∃ p l c, kv = .slice p l c := by obtain ⟨p, c, e, _⟩ := hke; exact ⟨p, _, c, e⟩
  have hcs : cur.size = cap * 2 ∧ cap ≤ maxLen ∧ nn ≤ cap ∧ ∀ u ∈ cur.toList.take (nn * 2), u.oneCell' = true := by
    obtain ⟨ks, hl, ho, hkp⟩ := h.arms
    rcases ho.2 with ⟨e, _⟩ | ⟨g', cap', cur', e, q1, q2, q3, q4, q5, q6⟩
    · rw [hav] at e; cases e
    · rw [hav, hal] at e
      cases e
      rw [hgc] at q2
      cases q2
      refine ⟨q5, q4, by rw [← hal]; exact q3, fun u hu => ?_⟩
      rw [← hal, q6] at hu
      obtain ⟨p, hp, hu⟩ := List.mem_flatMap.1 hu
      obtain ⟨i, hi⟩ := List.getElem?_of_mem hp
      obtain ⟨h3, h4⟩ := List.getElem?_zip_eq_some.1 hi
      obtain ⟨pp, cc, e, _⟩ := hkp i p.1 p.2 h3 h4
      unfold armC at hu
      rw [e] at hu
      simp at hu
      rcases hu with rfl | rfl <;> rfl
  have kd := pdel_gen (((w.setCell ⟨b, 4, none⟩ (.int .i64 ((σ.ops : Int) + 1))).setCell ⟨b, 6, none⟩ (.int .i64 ((σ.cnt : Int) + 1))).alloc (.cells #[.int .i64 (af : Int), kv] 89)).drew g cap nn mm cur hgX hnn hcs.2.2.1 hcs.1 hcs.2.2.2 hcs.2.1
  have hok5 : St.Ok { σ with ops := σ.ops + 1, arms := rest, cnt := 0 } := ⟨hok.pos, hok.max, hok.len, hok.byte, hok.out, hok.clen, hok.cbyte, hok.few, hok.flp, hok.opsm⟩
  subst hkv
  have kf : ∀ W5 : World, Gr (fun k => k = g) (((w.setCell ⟨b, 4, none⟩ (.int .i64 ((σ.ops : Int) + 1))).setCell ⟨b, 6, none⟩ (.int .i64 ((σ.cnt : Int) + 1))).alloc (.cells #[.int .i64 (af : Int), .slice kp0 kl0 kc0] 89)).drew W5 → (∃ cur' : Array Value, W5.heap[g]? = some (.cells cur' 89 (0, 0)) ∧ cur'.size = cur.size ∧ cur'.toList.take (mm * 2) = (cur.toList.drop 2).take (mm * 2)) →
      W5.frozen? ⟨b, 5, none⟩ = false ∧ (∃ u, W5.cell? ⟨b, 5, none⟩ = some u) ∧ (W5.setCell ⟨b, 5, none⟩ (.slice (some ⟨g, 0, none⟩) mm cap)).frozen? ⟨b, 6, none⟩ = false ∧ (∃ u, (W5.setCell ⟨b, 5, none⟩ (.slice (some ⟨g, 0, none⟩) mm cap)).cell? ⟨b, 6, none⟩ = some u) ∧ ((W5.setCell ⟨b, 5, none⟩ (.slice (some ⟨g, 0, none⟩) mm cap)).setCell ⟨b, 6, none⟩ (.int .i64 0)).cell? ⟨w.heap.size, 1, none⟩ = some (.slice kp0 kl0 kc0) ∧
      Calls Try.prog 66 #[.pointer (some ⟨b, 0, none⟩), .slice kp0 kl0 kc0] ((W5.setCell ⟨b, 5, none⟩ (.slice (some ⟨g, 0, none⟩) mm cap)).setCell ⟨b, 6, none⟩ (.int .i64 0)) fun e w' => e = .returned (.tuple #[]) ∧ ∃ L' σ', Lost { σ with ops := σ.ops + 1, arms := rest, cnt := 0 } kp σ' ∧ DevL w' b L' σ' ∧ (∀ k, Foot b L' σ' k → Foot b L σ k ∨ w.heap.size ≤ k) ∧ Gr (Foot b L σ) w w' ∧ L'.N ≤ L.N ∧ L'.KB = L.KB := fun W5 hg5 hc5 => by
    have q1 : W5.heap[b]? = _ := (hg5.block (k := b) (by show b < (((w.setCell ⟨b, 4, none⟩ (.int .i64 ((σ.ops : Int) + 1))).setCell ⟨b, 6, none⟩ (.int .i64 ((σ.cnt : Int) + 1))).alloc (.cells #[.int .i64 (af : Int), .slice kp0 kl0 kc0] 89)).heap.size; exact lt_of_heap hbX) (fun e => hgb e.symm)).trans hbX
    have q2 := heap_set1 W5 b 5 _ _ (.slice (some ⟨g, 0, none⟩) mm cap) q1
    have q3 := heap_set1 _ b 6 _ _ (.int .i64 0) q2
    have hwg : w.heap.size ≠ g := fun e => by have := lt_of_heap hgc; omega
    have hwb : w.heap.size ≠ b := fun e => by have := h.lt; omega
    have q4 : ((W5.setCell ⟨b, 5, none⟩ (.slice (some ⟨g, 0, none⟩) mm cap)).setCell ⟨b, 6, none⟩ (.int .i64 0)).heap[w.heap.size]? = some (.cells #[.int .i64 (af : Int), .slice kp0 kl0 kc0] 89 (0, 0)) := (heap_set_ne _ b 6 _ _ hwb).trans ((heap_set_ne _ b 5 _ _ hwb).trans ((hg5.block (k := w.heap.size) (lt_of_heap hfX) hwg).trans hfX))
    have q5 : ∀ k, k ≠ b → k ≠ g → k < w.heap.size → ((W5.setCell ⟨b, 5, none⟩ (.slice (some ⟨g, 0, none⟩) mm cap)).setCell ⟨b, 6, none⟩ (.int .i64 0)).heap[k]? = w.heap[k]? := fun k k1 k2 k3 =>
      (heap_set_ne _ b 6 k _ k1).trans ((heap_set_ne _ b 5 k _ k1).trans ((hg5.block (k := k) (by show k < (((w.setCell ⟨b, 4, none⟩ (.int .i64 ((σ.ops : Int) + 1))).setCell ⟨b, 6, none⟩ (.int .i64 ((σ.cnt : Int) + 1))).alloc (.cells #[.int .i64 (af : Int), .slice kp0 kl0 kc0] 89)).heap.size; have := hAX.size; omega) k2).trans ((hAX.block k (by rw [hsz]; exact k3)).trans ((heap_set_ne _ b 6 k _ k1).trans (heap_set_ne w b 4 k _ k1)))))
    obtain ⟨cur', hq, hq2⟩ := hc5
    have q6 : ((W5.setCell ⟨b, 5, none⟩ (.slice (some ⟨g, 0, none⟩) mm cap)).setCell ⟨b, 6, none⟩ (.int .i64 0)).heap[g]? = some (.cells cur' 89 (0, 0)) := (heap_set_ne _ b 6 g _ hgb).trans ((heap_set_ne _ b 5 g _ hgb).trans hq)
    have hd6 := h.disarm (w' := (W5.setCell ⟨b, 5, none⟩ (.slice (some ⟨g, 0, none⟩) mm cap)).setCell ⟨b, 6, none⟩ (.int .i64 0)) (o := σ.ops + 1) harm hmm hav (by rw [q3]; rfl) ⟨cur, hgc, hcs.1, hcs.2.1, by have := hcs.2.2.1; omega, cur', q6, hq2⟩ q5
    have gX : Gr (Foot b L σ) w (((w.setCell ⟨b, 4, none⟩ (.int .i64 ((σ.ops : Int) + 1))).setCell ⟨b, 6, none⟩ (.int .i64 ((σ.cnt : Int) + 1))).alloc (.cells #[.int .i64 (af : Int), .slice kp0 kl0 kc0] 89)) := ((Gr.set w b 4 _ (X := Foot b L σ) (.inl rfl)).trans (Gr.set _ b 6 _ (X := Foot b L σ) (.inl rfl)) (fun i h => .inl h)).trans (Gr.of_below hAX : Gr (Foot b L σ) _ (((w.setCell ⟨b, 4, none⟩ (.int .i64 ((σ.ops : Int) + 1))).setCell ⟨b, 6, none⟩ (.int .i64 ((σ.cnt : Int) + 1))).alloc (.cells #[.int .i64 (af : Int), .slice kp0 kl0 kc0] 89))) (fun i h => .inl h)
    have g5 : Gr (Foot b L σ) w W5 := (show Gr (Foot b L σ) w (((w.setCell ⟨b, 4, none⟩ (.int .i64 ((σ.ops : Int) + 1))).setCell ⟨b, 6, none⟩ (.int .i64 ((σ.cnt : Int) + 1))).alloc (.cells #[.int .i64 (af : Int), .slice kp0 kl0 kc0] 89)).drew from gX).trans hg5 (fun i hi => .inl (by rw [hi]; exact .inr (.inr (.inr (.inr (.inr (.inl (by rw [hav]; rfl))))))))
    have g6 : Gr (Foot b L σ) w ((W5.setCell ⟨b, 5, none⟩ (.slice (some ⟨g, 0, none⟩) mm cap)).setCell ⟨b, 6, none⟩ (.int .i64 0)) := (g5.trans (Gr.set _ b 5 _ (X := Foot b L σ) (.inl rfl)) (fun i h => .inl h)).trans (Gr.set _ b 6 _ (X := Foot b L σ) (.inl rfl)) (fun i h => .inl h)
    have hfo : ∀ k, Foot b { L with av := .slice (some ⟨g, 0, none⟩) mm cap } { σ with ops := σ.ops + 1, arms := rest, cnt := 0 } k → Foot b L σ k := fun k hk => by
      rcases hk with r | r | r | r | r | r | r
      · exact .inl r
      · exact .inr (.inl r)
      · exact .inr (.inr (.inl r))
      · exact .inr (.inr (.inr (.inl r)))
      · exact .inr (.inr (.inr (.inr (.inl r))))
      · exact .inr (.inr (.inr (.inr (.inr (.inl (by rw [hav]; exact r))))))
      · exact .inr (.inr (.inr (.inr (.inr (.inr r)))))
    obtain ⟨p', c', e', _⟩ := id hke
    cases e'
    have hsn : SlN ((W5.setCell ⟨b, 5, none⟩ (.slice (some ⟨g, 0, none⟩) mm cap)).setCell ⟨b, 6, none⟩ (.int .i64 0)) kp0 kp := slN_of hke h.kbt (fun k hk => by obtain ⟨c2, hc2⟩ := h.kbt k hk; exact q5 k (ne_ty hc2 h.dev (by decide)) (ne_ty hc2 hgc (by decide)) (lt_of_heap hc2)) hkb
    refine ⟨froz8 q1 5, ⟨_, cell8 q1 5⟩, froz8 q2 6, ⟨_, cell8 q2 6⟩, cell8 q4 1, (plose_kb kc0 hd6 hok5 hsn (by omega)).mono ?_⟩
    rintro e w' ⟨rfl, L', σ', l1, l2, l3, l4, l5⟩
    exact ⟨rfl, L', σ', l1, l2, fun k hk => (l3 k hk).imp (hfo k) (fun h5 => Nat.le_trans g6.size h5), g6.trans l4 (fun i hi => .inl (hi.elim (fun e => .inl e) (fun e => .inr (.inl e)))), l5⟩
  have KF := hide kf
  have KD := hide kd
  have opI : (σ.ops : Int) < 1400000000000 := by omega
  have cnI : ¬ (σ.cnt : Int) + 1 < (af : Int) := by omega
  have ncI : (σ.cnt : Int) < 1400000000000 := by omega
  have i5d : (((w.setCell ⟨b, 4, none⟩ (.int .i64 ((σ.ops : Int) + 1))).setCell ⟨b, 6, none⟩ (.int .i64 ((σ.cnt : Int) + 1))).alloc (.cells #[.int .i64 (af : Int), .slice kp0 kl0 kc0] 89)).drew.cell? ⟨b, 5, none⟩ = some (.slice (some ⟨g, 0, none⟩) nn cap) := by rw [cell8 (w := (((w.setCell ⟨b, 4, none⟩ (.int .i64 ((σ.ops : Int) + 1))).setCell ⟨b, 6, none⟩ (.int .i64 ((σ.cnt : Int) + 1))).alloc (.cells #[.int .i64 (af : Int), .slice kp0 kl0 kc0] 89)).drew) hbX, ← hav]; rfl
  clear h harm hke hgc hc0 hc1 hbX hgX hfX sx hAX hsz hb1 hb2 hg2 hops hc hcn hav hgb f5 hn1 hal hmm hnn hok hok5 hkb hkl kf kd hcs
  generalize hno : σ.ops = no at *
  generalize hnc : σ.cnt = nc at *
  clear hnc
  go_enter Try.func62, Try.ntmps62
  go_wp2_with (fail)
  refine wp_region_held_drew (S := fun Y => Y.cell? ⟨b, 6, none⟩ = some (.int .i64 ((nc : Int) + 1)) ∧ Y.cell? ⟨w.heap.size, 0, none⟩ = some (.int .i64 (af : Int))) (by kernel_rfl) SX.out (fun hS => ?_)
  refine wpAnyH_take (i := 0) (v := (.pointer (some ⟨b, 0, none⟩))) rfl (by kernel_rfl) (by kernel_rfl) (by kernel_rfl) (fun _ _ _ h => h) (Or.inl ⟨by kernel_rfl, fun w' hw => by (go_simp)⟩) hS ?_
  refine wpAnyH_take (i := 1) (v := (.pointer (some ⟨b, 0, none⟩))) rfl (by kernel_rfl) (by kernel_rfl) (by kernel_rfl) (fun _ _ _ h => h) (Or.inl ⟨by kernel_rfl, fun w' hw => by (go_simp)⟩) hS ?_
  refine wpAnyH_take (i := 2) (v := (.pointer (some ⟨b, 6, none⟩))) rfl (by kernel_rfl) (by kernel_rfl) (by kernel_rfl) (fun _ _ _ h => h) (Or.inl ⟨by kernel_rfl, fun w' hw => by (go_simp)⟩) hS ?_
  refine wpAnyH_take (i := 3) (v := (.int .i64 ((nc : Int) + 1))) rfl (by kernel_rfl) (by kernel_rfl) (by kernel_rfl) (fun _ _ _ h => h) (Or.inl ⟨by kernel_rfl, fun w' hw => by (obtain ⟨z0, z1⟩ := hw; go_simp)⟩) hS ?_
  refine wpAnyH_take (i := 4) (v := (.pointer (some ⟨w.heap.size, 0, none⟩))) rfl (by kernel_rfl) (by kernel_rfl) (by kernel_rfl) (fun _ _ _ h => h) (Or.inl ⟨by kernel_rfl, fun w' hw => by (go_simp)⟩) hS ?_
  refine wpAnyH_take (i := 5) (v := (.int .i64 (af : Int))) rfl (by kernel_rfl) (by kernel_rfl) (by kernel_rfl) (fun _ _ _ h => h) (Or.inl ⟨by kernel_rfl, fun w' hw => by (obtain ⟨z0, z1⟩ := hw; go_simp)⟩) hS ?_
  refine wpAnyH_take (i := 6) (v := (.bool false)) rfl (by kernel_rfl) (by kernel_rfl) (by kernel_rfl) (fun _ _ _ h => h) (Or.inl ⟨by kernel_rfl, fun w' hw => by (go_simp)⟩) hS ?_
  refine wpAnyH_done (by kernel_rfl) ?_ _
  simp only [Act.put, List.getElem_toArray, List.getElem_cons_zero, List.getElem_cons_succ, List.setIfInBounds_toArray, List.set_cons_zero, List.set_cons_succ]
  go_wp2_with (first
    | (go_at_call 78; refine (KD.out).mono ?_; rintro e W5 ⟨rfl, hg5, hc5⟩; obtain ⟨x1, ⟨u1, x2⟩, x3, ⟨u2, x4⟩, x5, kl⟩ := KF.out W5 hg5 hc5; have KL := hide kl; clear hg5 hc5 kl)
    | (go_at_call 66; refine (KL.out).mono ?_; rintro e W7 ⟨rfl, hr⟩; have HR := hide hr; clear hr))
  go_ret
  exact ⟨rfl, HR.out⟩
end
end Go.Proofs.Ytgfgihpkbbjkfaa
namespace Go.Proofs.Ytgfgihpkbbjkfaa
open Go.RowKit Go.Shelf
set_option linter.unusedVariables false

/-- What one operation more leaves, and what is answered. -/
def Opd (σ : St) (c : Int) (σ' : St) : Prop :=
  (σ.arms = [] ∧ c = 0 ∧ σ' = { σ with ops := σ.ops + 1 }) ∨
  (∃ af kp rest, σ.arms = (af, kp) :: rest ∧ ((σ.cnt + 1 < af ∧ c = 0 ∧ σ' = { σ with ops := σ.ops + 1, cnt := σ.cnt + 1 }) ∨ (af ≤ σ.cnt + 1 ∧ c = 5 ∧ Lost { σ with ops := σ.ops + 1, arms := rest, cnt := 0 } kp σ')))
/-- The losses of power that wait may be. -/
structure Few (σ : St) : Prop where
  one : ∀ a ∈ σ.arms, (∀ x ∈ a.2, x < 9223372036854775808) ∧ a.2.length ≤ 1400000000000
  cnt : σ.cnt < 1400000000000
theorem Opd.code {σ σ' : St} {c : Int} (h : Opd σ c σ') : c = 0 ∨ c = 5 := by
  rcases h with ⟨_, h, _⟩ | ⟨_, _, _, _, ⟨_, h, _⟩ | ⟨_, h, _⟩⟩
  · exact .inl h
  · exact .inl h
  · exact .inr h
/-- One operation more, behind which the power stays. -/
def tick (σ : St) : St := { σ with ops := σ.ops + 1, cnt := if σ.arms = [] then σ.cnt else σ.cnt + 1 }
/-- The next operation is the last one ahead of the loss. -/
def fires (σ : St) : Prop := ∃ af kp rest, σ.arms = (af, kp) :: rest ∧ af ≤ σ.cnt + 1
theorem Opd.no {σ σ' : St} {c : Int} (h : Opd σ c σ') (hf : ¬ fires σ) : c = 0 ∧ σ' = tick σ := by
  rcases h with ⟨h1, h2, h3⟩ | ⟨af, kp, rest, h1, ⟨h0, h2, h3⟩ | ⟨h0, h2, h3⟩⟩
  · exact ⟨h2, by rw [h3]; unfold tick; rw [if_pos h1]⟩
  · exact ⟨h2, by rw [h3]; unfold tick; rw [if_neg (by rw [h1]; simp)]⟩
  · exact absurd ⟨af, kp, rest, h1, h0⟩ hf
theorem Opd.yes {σ σ' : St} {c : Int} (h : Opd σ c σ') (hf : fires σ) : c = 5 := by
  obtain ⟨af', kp', rest', e1, e2⟩ := hf
  rcases h with ⟨h1, h2, h3⟩ | ⟨af, kp, rest, h1, ⟨h0, h2, h3⟩ | ⟨h0, h2, h3⟩⟩
  · rw [h1] at e1; cases e1
  · rw [h1] at e1; cases e1; omega
  · exact h2
theorem tick_ok {σ : St} (h : ({ σ with ops := σ.ops + 1 } : St).Ok) : (tick σ).Ok := ⟨h.pos, h.max, h.len, h.byte, h.out, h.clen, h.cbyte, h.few, h.flp, h.opsm⟩
theorem ok_more {σ : St} (h : σ.Ok) (hops : σ.ops < 1400000000000) : ({ σ with ops := σ.ops + 1 } : St).Ok := ⟨h.pos, h.max, h.len, h.byte, h.out, h.clen, h.cbyte, fun i => Nat.le_trans (h.few i) (Nat.le_succ _), h.flp, by show σ.ops + 1 ≤ _; omega⟩
section
variable {w : World} {b : Nat} {L : Lay} {σ : St}
theorem poper_gen (h : DevL w b L σ) (hok : ({ σ with ops := σ.ops + 1 } : St).Ok) (hf : Few σ) (hops : σ.ops < 1400000000000) :
    Calls Try.prog 62 #[.pointer (some ⟨b, 0, none⟩)] w fun e w' => ∃ c σ' L', e = .returned (.int .i64 c) ∧ Opd σ c σ' ∧ DevL w' b L' σ' ∧ (∀ k, Foot b L' σ' k → Foot b L σ k ∨ w.heap.size ≤ k) ∧ Gr (Foot b L σ) w w' ∧ L'.N ≤ L.N ∧ L'.KB = L.KB ∧ (c = 0 → L' = L) := by
  rcases hA : σ.arms with _ | ⟨⟨af, kp⟩, rest⟩
  · have ha := hA
    refine (poper_any h hops ha).mono ?_
    rintro e w' ⟨rfl, hw, hd⟩
    exact ⟨0, _, L, rfl, .inl ⟨ha, rfl, rfl⟩, hd, fun k hk => .inl hk, by rw [hw]; exact Gr.set w b 4 _ (.inl rfl), Nat.le_refl _, rfl, fun _ => rfl⟩
  · have ha := hA
    obtain ⟨hk, hl⟩ := hf.one (af, kp) (by rw [ha]; simp)
    by_cases hc : σ.cnt + 1 < af
    · refine (poper_wait h hops ha hc hf.cnt).mono ?_
      rintro e w' ⟨rfl, hd, hg⟩
      exact ⟨0, _, L, rfl, .inr ⟨af, kp, rest, ha, .inl ⟨hc, rfl, rfl⟩⟩, hd, fun k hk => .inl hk, hg.mono (fun k h => .inl h), Nat.le_refl _, rfl, fun _ => rfl⟩
    · refine (poper_fire h hok hops ha (by omega) hf.cnt hk hl).mono ?_
      rintro e w' ⟨rfl, L', σ', h1, h2, h3, h4, h5, h6⟩
      exact ⟨5, σ', L', rfl, .inr ⟨af, kp, rest, ha, .inr ⟨by omega, rfl, h1⟩⟩, h2, h3, h4, h5, h6, fun h => by cases h⟩
theorem poper_no (h : DevL w b L σ) (hok : ({ σ with ops := σ.ops + 1 } : St).Ok) (hf : Few σ) (hops : σ.ops < 1400000000000) (hn : ¬ fires σ) :
    Calls Try.prog 62 #[.pointer (some ⟨b, 0, none⟩)] w fun e w' => e = .returned (.int .i64 0) ∧ DevL w' b L (tick σ) ∧ Gr (Foot b L σ) w w' := by
  refine (poper_gen h hok hf hops).mono ?_
  rintro e w' ⟨c, σ', L', rfl, h1, h2, h3, h4, h5, h6, h7⟩
  obtain ⟨rfl, rfl⟩ := h1.no hn
  obtain rfl := h7 rfl
  exact ⟨rfl, h2, h4⟩
theorem poper_yes (h : DevL w b L σ) (hok : ({ σ with ops := σ.ops + 1 } : St).Ok) (hf : Few σ) (hops : σ.ops < 1400000000000) (hn : fires σ) :
    Calls Try.prog 62 #[.pointer (some ⟨b, 0, none⟩)] w fun e w' => e = .returned (.int .i64 5) ∧ ∃ σ' L', Opd σ 5 σ' ∧ DevL w' b L' σ' ∧ (∀ k, Foot b L' σ' k → Foot b L σ k ∨ w.heap.size ≤ k) ∧ Gr (Foot b L σ) w w' ∧ L'.N ≤ L.N ∧ L'.KB = L.KB := by
  refine (poper_gen h hok hf hops).mono ?_
  rintro e w' ⟨c, σ', L', rfl, h1, h2, h3, h4, h5, h6, h7⟩
  obtain rfl := h1.yes hn
  exact ⟨rfl, σ', L', h1, h2, h3, h4, h5, h6⟩
end
end Go.Proofs.Ytgfgihpkbbjkfaa
namespace Go.Proofs.Ytgfgihpkbbjkfaa
open Go.RowKit Go.Shelf
set_option linter.unusedVariables false
attribute [local go_sem] Oper.semAt_some

/-- A word is written; the operation is not yet counted. -/
def wordA (bs : List Nat) (at_ : Nat) (σ : St) (no : Nat) : St := { wordDo bs at_ σ no with ops := σ.ops }
def wordG (bs : List Nat) (at_ : Nat) (σ : St) (no : Nat) : St := tick (wordA bs at_ σ no)
def writeG (bs : List Nat) (at_ : Nat) (σ : St) (nos : List Nat) : St := nos.foldl (wordG bs at_) σ
theorem writeG_snoc (bs : List Nat) (at_ : Nat) (σ : St) (nos : List Nat) (no : Nat) : writeG bs at_ σ (nos ++ [no]) = wordG bs at_ (writeG bs at_ σ nos) no := by simp [writeG, List.foldl_append]
/-- What stays as it is while words are written. -/
structure LikeG (σ σ' : St) (k : Nat) : Prop where
  ok : σ'.Ok
  n : σ'.n = σ.n
  ops : σ'.ops = σ.ops + k
  arms : σ'.arms = σ.arms
  off : σ'.off = σ.off
  cnt : σ'.cnt = if σ.arms = [] then σ.cnt else σ.cnt + k
theorem writeG_like {bs : List Nat} {at_ : Nat} (hbs : ∀ x ∈ bs, x < 256) : ∀ (nos : List Nat) (σ : St), σ.Ok → (∀ no ∈ nos, no / 8 < σ.n) → σ.ops + nos.length ≤ 1400000000000 → LikeG σ (writeG bs at_ σ nos) nos.length
  | [], σ, hok, _, _ => ⟨hok, rfl, rfl, rfl, rfl, by show σ.cnt = if σ.arms = [] then σ.cnt else σ.cnt + 0; split <;> rfl⟩
  | no :: nos, σ, hok, hn, hb => by
    rw [List.length_cons] at hb
    have hi := hn no (by simp)
    obtain ⟨h1, h2⟩ := word_part (at_ := at_) hbs hok hi
    have hok' : (wordG bs at_ σ no).Ok := tick_ok (put_ok hok hi h1 h2 (by omega))
    have ih := writeG_like (at_ := at_) hbs nos (wordG bs at_ σ no) hok' (fun x hx => hn x (by simp [hx])) (by show σ.ops + 1 + nos.length ≤ _; omega)
    refine ⟨ih.ok, ih.n, by rw [List.length_cons]; have h := ih.ops; have h2 : (wordG bs at_ σ no).ops = σ.ops + 1 := rfl; show (writeG bs at_ (wordG bs at_ σ no) nos).ops = _; rw [h, h2]; omega, ih.arms, ih.off, ?_⟩
    have h := ih.cnt
    have h2 : (wordG bs at_ σ no).cnt = if σ.arms = [] then σ.cnt else σ.cnt + 1 := rfl
    have h3 : (wordG bs at_ σ no).arms = σ.arms := rfl
    rw [h3, h2] at h
    show (writeG bs at_ (wordG bs at_ σ no) nos).cnt = _
    rw [h, List.length_cons]
    by_cases e : σ.arms = []
    · simp only [if_pos e]
    · simp only [if_neg e]; omega
/-- What a write leaves, and what is answered. -/
def WrD (bs : List Nat) (at_ : Nat) (σ : St) (nos : List Nat) (c : Int) (σ' : St) : Prop :=
  (c = 0 ∧ σ' = writeG bs at_ σ nos ∧ ∀ af kp rest, σ.arms = (af, kp) :: rest → nos ≠ [] → σ.cnt + nos.length < af) ∨
  (c = 5 ∧ ∃ pre no, pre ++ [no] <+: nos ∧ Opd (wordA bs at_ (writeG bs at_ σ pre) no) 5 σ')

set_option maxRecDepth 100000 in
set_option maxHeartbeats 2000000 in
theorem pwriteG_in {w : World} {b at_ cap : Nat} {L : Lay} {σ : St} {a : Option Addr} {bs : List Nat} (h : DevL w b L σ) (hok : σ.Ok) (hN : L.N ≤ σ.ops + 100000000000) (hfw : Few σ) (hcn : σ.cnt + 600000 ≤ 1400000000000) (hsl : Sl w a bs) (hcap : bs.length ≤ cap) (hlen : at_ + bs.length ≤ 64 * σ.n) (hops : σ.ops + 600000 ≤ 1400000000000)
    (haf : ∀ ad, a = some ad → ad.block < w.heap.size ∧ ¬ Foot b L σ ad.block) :
    CallsIn Fence.wide 3 Try.prog 46 #[.pointer (some ⟨b, 0, none⟩), .int .i64 (at_ : Int), .slice a bs.length cap] w fun e w' => ∃ c σ' L', e = .returned (.int .i64 c) ∧ WrD bs at_ σ (wordsOf at_ bs.length) c σ' ∧ DevL w' b L' σ' ∧ (∀ k, Foot b L' σ' k → Foot b L σ k ∨ w.heap.size ≤ k) ∧ Gr (Foot b L σ) w w' ∧ L'.N ≤ L.N + (wordsOf at_ bs.length).length ∧ L'.KB = L.KB ∧ (c = 0 → SameL L L') := by
  have hbs := hsl.lt
  have hnm := hok.max
  have hlen2 : at_ + bs.length ≤ 4194304 := by omega
  have hwl := wordsOf_len hlen2
  have hO := h.old_
  refine callsIn_of_wp_marks Try.func46 rfl trivial ?_ rfl
  simp only [Try.ntmps46, List.size_toArray, List.length_cons, List.length_nil, Nat.reduceAdd, Nat.reduceSub, Array.replicate_succ, Array.replicate_zero, List.push_toArray, List.append_toArray, List.nil_append, List.cons_append]
  gi_wp2_with (refine ⟨trivial, ?_⟩; gi_at_call 47; refine (inW (words_in (at_ : Int) (bs.length : Int) _)).mono ?_; rintro e w' ⟨rfl, rfl⟩)
  have hB0 : Below w.heap.size w ((((((w.alloc (.cells #[.pointer (some ⟨b, 0, none⟩)] 28)).alloc (.cells #[.int .i64 (at_ : Int)] 3)).alloc (.cells #[.slice a bs.length cap] 33)).alloc (.cells #[.int .i64 0] 35)).alloc (.cells #[.int .i64 (at_ : Int)] 3)).alloc (.cells #[.int .i64 (bs.length : Int)] 3)) := ((((((Below.refl _ w).alloc (Nat.le_refl _) _).alloc (by simp) _).alloc (by simp; omega) _).alloc (by simp; omega) _).alloc (by simp; omega) _).alloc (by simp; omega) _
  have hsz : ((((((w.alloc (.cells #[.pointer (some ⟨b, 0, none⟩)] 28)).alloc (.cells #[.int .i64 (at_ : Int)] 3)).alloc (.cells #[.slice a bs.length cap] 33)).alloc (.cells #[.int .i64 0] 35)).alloc (.cells #[.int .i64 (at_ : Int)] 3)).alloc (.cells #[.int .i64 (bs.length : Int)] 3)).heap.size = w.heap.size + 6 := by simp
  have b3 : Boxed ((((((w.alloc (.cells #[.pointer (some ⟨b, 0, none⟩)] 28)).alloc (.cells #[.int .i64 (at_ : Int)] 3)).alloc (.cells #[.slice a bs.length cap] 33)).alloc (.cells #[.int .i64 0] 35)).alloc (.cells #[.int .i64 (at_ : Int)] 3)).alloc (.cells #[.int .i64 (bs.length : Int)] 3)) w.heap.size 28 (.pointer (some ⟨b, 0, none⟩)) := (((((Boxed.new w 28 (.pointer (some ⟨b, 0, none⟩))).alloc _).alloc _).alloc _).alloc _).alloc _
  have b4 := ((((Boxed.new (w.alloc (.cells #[.pointer (some ⟨b, 0, none⟩)] 28)) 3 (.int .i64 (at_ : Int))).alloc (.cells #[.slice a bs.length cap] 33)).alloc (.cells #[.int .i64 0] 35)).alloc (.cells #[.int .i64 (at_ : Int)] 3)).alloc (.cells #[.int .i64 (bs.length : Int)] 3)
  have b5 := (((Boxed.new ((w.alloc (.cells #[.pointer (some ⟨b, 0, none⟩)] 28)).alloc (.cells #[.int .i64 (at_ : Int)] 3)) 33 (.slice a bs.length cap)).alloc (.cells #[.int .i64 0] 35)).alloc (.cells #[.int .i64 (at_ : Int)] 3)).alloc (.cells #[.int .i64 (bs.length : Int)] 3)
  have b6 := ((Boxed.new (((w.alloc (.cells #[.pointer (some ⟨b, 0, none⟩)] 28)).alloc (.cells #[.int .i64 (at_ : Int)] 3)).alloc (.cells #[.slice a bs.length cap] 33)) 35 (.int .i64 0)).alloc (.cells #[.int .i64 (at_ : Int)] 3)).alloc (.cells #[.int .i64 (bs.length : Int)] 3)
  have b7 := (Boxed.new ((((w.alloc (.cells #[.pointer (some ⟨b, 0, none⟩)] 28)).alloc (.cells #[.int .i64 (at_ : Int)] 3)).alloc (.cells #[.slice a bs.length cap] 33)).alloc (.cells #[.int .i64 0] 35)) 3 (.int .i64 (at_ : Int))).alloc (.cells #[.int .i64 (bs.length : Int)] 3)
  have b8 := Boxed.new (((((w.alloc (.cells #[.pointer (some ⟨b, 0, none⟩)] 28)).alloc (.cells #[.int .i64 (at_ : Int)] 3)).alloc (.cells #[.slice a bs.length cap] 33)).alloc (.cells #[.int .i64 0] 35)).alloc (.cells #[.int .i64 (at_ : Int)] 3)) 3 (.int .i64 (bs.length : Int))
  simp only [World.size_alloc] at b4 b5 b6 b7 b8
  obtain ⟨W0, hW0⟩ : ∃ W0, ((((((w.alloc (.cells #[.pointer (some ⟨b, 0, none⟩)] 28)).alloc (.cells #[.int .i64 (at_ : Int)] 3)).alloc (.cells #[.slice a bs.length cap] 33)).alloc (.cells #[.int .i64 0] 35)).alloc (.cells #[.int .i64 (at_ : Int)] 3)).alloc (.cells #[.int .i64 (bs.length : Int)] 3)) = W0 := ⟨_, rfl⟩
  rw [hW0] at b3 b4 b5 b6 b7 b8 hB0 hsz ⊢
  clear hW0
  have hd0 := h.below hB0
  have hsl0 := hsl.below hB0
  apply rangeX (gf := 68) (lb := #[.pointer (some ⟨w.heap.size + 1 + 1 + 1 + 1, 0, none⟩), .pointer (some ⟨w.heap.size + 1 + 1 + 1 + 1 + 1, 0, none⟩)]) (encs := encI) rfl (enters_of Try.func68 (by kernel_rfl) rfl)
    (words_x HP (fun k => k = w.heap.size + 1 + 1 + 1 + 1 ∨ k = w.heap.size + 1 + 1 + 1 + 1 + 1) (w.heap.size + 1 + 1 + 1 + 1) (w.heap.size + 1 + 1 + 1 + 1 + 1) (at_ : Int) (bs.length : Int) W0 (fun k hk => by omega) (.inl rfl) (.inr rfl) (by unfold HP; decide) b7.cell b8.cell (by omega) (by omega)) (Below.refl _ _) (fun k hk => by omega) (fun _ => rfl)
    (fun pre W' => ((Boxed W' w.heap.size 28 (.pointer (some ⟨b, 0, none⟩)) ∧ Boxed W' (w.heap.size + 1) 3 (.int .i64 (at_ : Int))) ∧ (Boxed W' (w.heap.size + 1 + 1) 33 (.slice a bs.length cap) ∧ Boxed W' (w.heap.size + 1 + 1 + 1) 35 (.int .i64 0) ∧ (Boxed W' (w.heap.size + 1 + 1 + 1 + 1) 3 (.int .i64 (at_ : Int)) ∧ Boxed W' (w.heap.size + 1 + 1 + 1 + 1 + 1) 3 (.int .i64 (bs.length : Int))))) ∧ ((Sl W' a bs ∧ Gr (Foot b L σ) W0 W') ∧ ∃ L', DevL W' b L' (writeG bs at_ σ (pre.map Int.toNat)) ∧ (SameL L L' ∧ L'.N ≤ L.N + pre.length ∧ (∀ k, Foot b L' (writeG bs at_ σ (pre.map Int.toNat)) k → Foot b L σ k ∨ w.heap.size ≤ k) ∧ ∀ af kp rest, σ.arms = (af, kp) :: rest → pre ≠ [] → σ.cnt + pre.length < af)))
    (fun c pre W' => (c = .ret ∧ Boxed W' (w.heap.size + 1 + 1 + 1) 35 (.int .i64 5)) ∧ (Gr (Foot b L σ) w W' ∧ ∃ L' σ', DevL W' b L' σ' ∧ ((L'.KB = L.KB ∧ L'.N ≤ L.N + pre.length) ∧ (∃ pr no, pre.map Int.toNat = pr ++ [no] ∧ Opd (wordA bs at_ (writeG bs at_ σ pr) no) 5 σ') ∧ ∀ k, Foot b L' σ' k → Foot b L σ k ∨ w.heap.size ≤ k)))
    (Stab.and (Stab.and (Stab.and (Stab.box _ _ (by omega)) (Stab.box _ _ (by omega))) (Stab.and (Stab.box _ _ (by omega)) (Stab.and (Stab.box _ _ (by omega)) (Stab.and (Stab.box _ _ (by omega)) (Stab.box _ _ (by omega)))))) (Stab.and (Stab.and (stab_sl a bs (by omega) (fun ad he => (haf ad he).1)) (stab_gr (Nat.le_refl _))) (fun s W W' hJ hs => by obtain ⟨L', h1, h2, h3⟩ := hJ; exact ⟨L', stab_dev (σ := fun _ : Unit => writeG bs at_ σ (s.map Int.toNat)) (hO.same h2) (by omega) () W W' h1 hs, h2, h3⟩)))
    (fun c => Stab.and (Stab.and (Stab.pure _) (Stab.box _ _ (by omega))) (Stab.and (stab_gr (by omega)) (fun s W W' hJ hs => by obtain ⟨L', σ', h1, h2⟩ := hJ; exact ⟨L', σ', dev_sub h1 (fun k hk => by rw [h2.1.1] at hk; have := hO.kb k hk; omega) hs, h2⟩)))
    ⟨⟨⟨b3, b4⟩, b5, b6, b7, b8⟩, ⟨hsl0, Gr.refl _ _⟩, L, hd0, SameL.refl L, by simp, fun k hk => .inl hk, fun _ _ _ _ h => absurd rfl h⟩
  case hassign =>
    intro l' x W' K hK
    simp only [encI]
    gi_wp2
    exact hK
  case hbody =>
    rintro l' pre x W ⟨⟨⟨h3, h4⟩, h5, h6, h7, h8⟩, ⟨hslW, hgW⟩, L', hdW, hsame, hNL, hfoot, _⟩ hpx
    obtain ⟨no, rfl, hno, hno2, hn1, hmem, hpl⟩ := word_told hlen2 hpx
    have hsub : ∀ y ∈ pre.map Int.toNat, y / 8 < σ.n := fun y hy => wordsOf_lt hlen hnm y (by
      obtain ⟨z, hz, rfl⟩ := List.mem_map.1 hy
      exact List.mem_map.2 ⟨z, hpx.subset (List.mem_append_left _ hz), rfl⟩)
    have hlike := writeG_like (at_ := at_) hbs (pre.map Int.toNat) σ hok hsub (by rw [List.length_map]; omega)
    rw [List.length_map] at hlike
    have hsn : writeG bs at_ σ ((pre ++ [(no : Int)]).map Int.toNat) = wordG bs at_ (writeG bs at_ σ (pre.map Int.toNat)) no := by rw [List.map_append, List.map_cons, List.map_nil, writeG_snoc]; rfl
    generalize hgk : writeG bs at_ σ (pre.map Int.toNat) = σk at *
    have HGK := hide hgk
    clear hgk
    have hi : no / 8 < σk.n := by rw [hlike.n]; omega
    obtain ⟨ab, ao, ha, hab, hseg⟩ : ∃ ab ao, a = some ⟨ab, ao, none⟩ ∧ ab < w.heap.size ∧ Seg W ab ao bs := by
      rcases hslW with h1 | ⟨ab, ao, h1, h2, h3⟩
      · rw [h1] at hn1; simp at hn1
      · exact ⟨ab, ao, h1, (haf _ h1).1, h3⟩
    obtain ⟨fr, hfr⟩ : ∃ fr, fr = max at_ (no * 8) := ⟨_, rfl⟩
    have f1 : at_ ≤ fr := by omega
    have f2 : fr < at_ + bs.length := by omega
    have f3 : no * 8 ≤ fr ∧ fr < no * 8 + 8 := by omega
    obtain ⟨hpt1, hpt2⟩ := word_part (at_ := at_) (no := no) hbs hlike.ok hi
    rw [← hfr] at hpt1 hpt2
    obtain ⟨part, hpart⟩ : ∃ part, part = (bs.drop (fr - at_)).take (8 - fr % 8) := ⟨_, rfl⟩
    rw [← hpart] at hpt1 hpt2
    have hword : wordA bs at_ σk no = σk.put (no / 8) (splice (σk.line (no / 8)) (fr % 64) part) := by subst hpart; subst hfr; rfl
    have hpl2 : part.length = min (bs.length - (fr - at_)) (8 - fr % 8) := by rw [hpart, List.length_take, List.length_drop]; omega
    have hsrc : ∀ X : World, X.heap[ab]? = W.heap[ab]? → ∀ j v, (part.map B8)[j]? = some v → X.cell? ((⟨ab, ao + (fr - at_), none⟩ : Addr).add j) = some v := fun X hX j v hv => by
      rw [List.getElem?_map] at hv
      obtain ⟨x, hx, rfl⟩ := Option.map_eq_some_iff.1 hv
      have hj : j < part.length := (List.getElem?_eq_some_iff.1 hx).1
      rw [hpart, List.getElem?_take, if_pos (by omega), List.getElem?_drop] at hx
      rw [Addr.add_mid, Nat.add_assoc]
      exact (World.cell?_of_block (a := ⟨ab, ao + (fr - at_ + j), none⟩) hX).trans (hseg _ _ hx).1
    have off64 : no % 8 * 8 + fr % 8 = fr % 64 := by omega
    have e0 : ((no % 8 : Nat) : Int) = (no : Int) % 8 := by omega
    have e1 : ((fr % 8 : Nat) : Int) = (fr : Int) % 8 := by omega
    have e2 : ((fr - at_ : Nat) : Int) = (fr : Int) - (at_ : Int) := by omega
    have hll := line_len hlike.ok hi
    have hlr := line_range hdW hlike.ok hi
    have c3 := h3.cell
    have c4 := h4.cell
    have c5 := h5.cell
    have c1 := hdW.c1
    have l0 := fun X => index_line L'.sb (no / 8) σk.n L'.cp hi X
    have hl64 : ((σk.line (no / 8)).map B8).length = 64 := by rw [List.length_map, hll]
    have si : (Try.prog.info? 73).map (·.size) = some ((σk.line (no / 8)).map B8).toArray.size := by rw [List.size_toArray, hl64]; kernel_rfl
    have S1 := hide (all_oneCell_toArray (B8_cell (σk.line (no / 8))))
    have HL64 := hide hl64
    have SI := hide si
    clear hl64
    obtain ⟨Z, hzl, hz⟩ := zero_content
    have HZ := hide hz
    have HZL := hide hzl
    have TH : Hid (∀ X : World, (X.alloc (.cells Z.toArray 73)).there X.heap.size 0 ((σk.line (no / 8)).map B8).toArray.size) := fun X => there_row (heapNew X _) 0 _ (by rw [List.size_toArray, HL64.out, hzl]; omega)
    clear hz hzl
    have kp := fun X => part_any no at_ X (by omega) (by omega)
    rw [← hfr] at kp
    have KP := hide kp
    clear kp
    have HLR := hide hlr
    have HLL := hide hll
    have HD := hide hdW
    have HG := hide hgW
    have HSL := hide hslW
    have HF := hide hfoot
    have HS := hide hsame
    have HK := hide hlike
    have H3 := hide h3
    have H4 := hide h4
    have H5 := hide h5
    have H6 := hide h6
    have H7 := hide h7
    have H8 := hide h8
    have HSN := hide hsn
    have HSRC := hide hsrc
    have HPL2 := hide hpl2
    have HOFF := hide off64
    have HPT1 := hide hpt1
    have HPT2 := hide hpt2
    have HWORD := hide hword
    have HA := hide ha
    have HAB := hide hab
    have HHI := hide hi
    have F1 := hide f1
    have F2 := hide f2
    have F3 := hide f3
    have E0 := hide e0
    have E1 := hide e1
    have E2 := hide e2
    have HC1 := hide c1
    have frI : (fr : Int) ≤ 4194304 := by omega
    have atI : (at_ : Int) ≤ (fr : Int) := by omega
    clear hsrc hpl2 off64 hpt1 hpt2 hword hab hfr hpart f1 f2 f3 e0 e1 e2 hseg
    rw [ha] at c5
    clear ha
    have HNO := hide hno
    have HNO2 := hide hno2
    clear si hlr hll hdW hgW hslW hfoot hsame hlike hpx hsub h3 h4 h5 h6 h7 h8 hsn hmem hno hno2
    gi_wp2_with (first | (refine ⟨trivial, ?_⟩; gi_at_call 48; refine (inR (KP.out _)).mono ?_; rintro e W1 ⟨rfl, rfl⟩) | (refine wpListIn_load_mid rfl 73 (.tmp 30) rfl L'.sb (no / 8 * 64) (by kernel_rfl) ((σk.line (no / 8)).map B8) (.array 8 71) HLR.out (by kernel_rfl) rfl (by rw [List.length_map, HLL.out]; kernel_rfl) ?_) | (refine wpListIn_alloc_row rfl 73 rfl Z (HZ.out _) ?_) | (refine wpListIn_store_mid rfl 73 (.tmp 11) (.tmp 31) rfl W1.heap.size 0 ((σk.line (no / 8)).map B8).toArray (by kernel_rfl) (by kernel_rfl) (TH.out W1) SI.out S1.out ?_; have hnew := new_row (W := W1) (cur := Z) (vs := (σk.line (no / 8)).map B8) (t := 73) (HL64.out.trans HZL.out.symm); have HNEW := hide hnew; clear hnew))
    go_frame
    generalize hX : (W1.alloc (.cells Z.toArray 73)).setCells W1.heap.size 0 ((σk.line (no / 8)).map B8) = X at *
    obtain ⟨hx1, hx2, hx3⟩ := HNEW.out
    clear hX HNEW
    have TM : Hid ((fr : Int).tmod 8 = (fr : Int) % 8) := Int.tmod_eq_emod_of_nonneg (by omega)
    have WR : Hid (IntKind.i64.wrap ((fr : Int) - (at_ : Int)) = (fr : Int) - (at_ : Int)) := by show IntKind.i64.wrap _ = _; rw [IntKind.wrap_i64]; omega
    have SB1 : Hid (fr - at_ < bs.length) := by have := F1.out; have := F2.out; show _ < _; omega
    have x3 := below_boxedP hx2 H3.out
    have x4 := below_boxedP hx2 H4.out
    have x5 := below_boxedP hx2 H5.out
    rw [HA.out] at x5
    have hs1 : w.heap.size + 6 ≤ W1.heap.size := by have h2 := HG.out.size; omega
    have hxb : X.heap[ab]? = W1.heap[ab]? := hx2.block ab (by have := HAB.out; omega)
    have yg : Gr (fun k => k = W1.heap.size) X (X.drew.setRow W1.heap.size (splice ((σk.line (no / 8)).map B8) (no % 8 * 8 + fr % 8) (part.map B8)).toArray) := Gr.setRow X.drew W1.heap.size _ rfl
    have ne1 : w.heap.size + 1 ≠ W1.heap.size := by omega
    have ne2 : w.heap.size + 1 + 1 ≠ W1.heap.size := by omega
    have ne0 : w.heap.size ≠ W1.heap.size := by omega
    have y3 := yg.box x3 ne0
    have y4 := yg.box x4 ne1
    have y5 := yg.box x5 ne2
    have yn : (X.drew.setRow W1.heap.size (splice ((σk.line (no / 8)).map B8) (no % 8 * 8 + fr % 8) (part.map B8)).toArray).heap[W1.heap.size]? = some (.cells ((splice (σk.line (no / 8)) (fr % 64) part).map B8).toArray 73 (0, 0)) := by rw [heap_setRow X.drew W1.heap.size _ _ _ _ hx1, HOFF.out, splice_map]
    have s0 : X.drew.cell? ⟨w.heap.size + 1, 0, none⟩ = some (.int .i64 (at_ : Int)) ∧ X.drew.cell? ⟨w.heap.size + 1 + 1, 0, none⟩ = some (.slice (some ⟨ab, ao, none⟩) bs.length cap) := ⟨x4.cell, x5.cell⟩
    have s9 : (X.drew.setRow W1.heap.size (splice ((σk.line (no / 8)).map B8) (no % 8 * 8 + fr % 8) (part.map B8)).toArray).cell? ⟨w.heap.size + 1, 0, none⟩ = some (.int .i64 (at_ : Int)) ∧ (X.drew.setRow W1.heap.size (splice ((σk.line (no / 8)).map B8) (no % 8 * 8 + fr % 8) (part.map B8)).toArray).cell? ⟨w.heap.size + 1 + 1, 0, none⟩ = some (.slice (some ⟨ab, ao, none⟩) bs.length cap) := ⟨y4.cell, y5.cell⟩
    have hsr := HSRC.out X.drew hxb
    have hpl3 := HPL2.out
    have hfit : no % 8 * 8 + fr % 8 + (part.map B8).length ≤ ((σk.line (no / 8)).map B8).length := by rw [List.length_map, List.length_map, HLL.out]; omega
    have hcl : (part.map B8).length = Nat.min (bs.length - (fr - at_)) (8 - fr % 8) := by rw [List.length_map, hpl3]
    have HSR := hide hsr
    have HFIT := hide hfit
    have HCL := hide hcl
    have HX1 := hide hx1
    have S9 := hide s9
    have HYN := hide yn
    have HYG := hide yg
    have HX2 := hide hx2
    have Y3 := hide y3
    have HS1 := hide hs1
    clear hsr hfit hcl hx1 s9 yn yg hx2 x3 x4 x5 y3 y4 y5 hpl3 hxb hx3 ne0 ne1 ne2 hs1
    refine region_heldR (fun X => X.cell? ⟨w.heap.size + 1, 0, none⟩ = some (.int .i64 (at_ : Int)) ∧ X.cell? ⟨w.heap.size + 1 + 1, 0, none⟩ = some (.slice (some ⟨ab, ao, none⟩) bs.length cap)) (by kernel_rfl) (by kernel_rfl) (fun _ _ h => h) s0 (fun hS => ?_)
    refine wpAnyH_take (i := 0) (v := (.int .i64 ((no : Int) % 8))) rfl (by kernel_rfl) (by kernel_rfl) (by kernel_rfl) (fun _ _ _ h => h) (Or.inl ⟨by kernel_rfl, fun w' hw => by (go_simp)⟩) hS ?_
    refine wpAnyH_take (i := 1) (v := (.pointer (some ⟨W1.heap.size, no % 8 * 8, none⟩))) rfl (by kernel_rfl) (by kernel_rfl) (by kernel_rfl) (fun _ _ _ h => h) (Or.inl ⟨by kernel_rfl, fun w' hw => by (have e := index_word W1.heap.size 0 (no % 8) (by omega) w'; rw [E0.out, Nat.zero_add] at e; go_simp)⟩) hS ?_
    refine wpAnyH_take (i := 2) (v := (.int .i64 (fr : Int))) rfl (by kernel_rfl) (by kernel_rfl) (by kernel_rfl) (fun _ _ _ h => h) (Or.inl ⟨by kernel_rfl, fun w' hw => by (go_simp)⟩) hS ?_
    refine wpAnyH_take (i := 3) (v := (.int .i64 ((fr : Int) % 8))) rfl (by kernel_rfl) (by kernel_rfl) (by kernel_rfl) (fun _ _ _ h => h) (Or.inl ⟨by kernel_rfl, fun w' hw => by (have tm := TM.out; go_simp)⟩) hS ?_
    refine wpAnyH_take (i := 4) (v := (.slice (some ⟨W1.heap.size, no % 8 * 8 + fr % 8, none⟩) (8 - fr % 8) (8 - fr % 8))) rfl (by kernel_rfl) (by kernel_rfl) (by kernel_rfl) (fun _ _ _ h => h) (Or.inl ⟨by kernel_rfl, fun w' hw => by (have e := slice_word W1.heap.size (no % 8 * 8) (fr % 8) (by omega) w'; rw [E1.out] at e; go_simp)⟩) hS ?_
    refine wpAnyH_take (i := 5) (v := (.slice (some ⟨ab, ao, none⟩) bs.length cap)) rfl (by kernel_rfl) (by kernel_rfl) (by kernel_rfl) (fun _ _ _ h => h) (Or.inl ⟨by kernel_rfl, fun w' hw => by (obtain ⟨z0, z1⟩ := hw; go_simp)⟩) hS ?_
    refine wpAnyH_take (i := 6) (v := (.int .i64 (fr : Int))) rfl (by kernel_rfl) (by kernel_rfl) (by kernel_rfl) (fun _ _ _ h => h) (Or.inl ⟨by kernel_rfl, fun w' hw => by (go_simp)⟩) hS ?_
    refine wpAnyH_take (i := 7) (v := (.int .i64 (at_ : Int))) rfl (by kernel_rfl) (by kernel_rfl) (by kernel_rfl) (fun _ _ _ h => h) (Or.inl ⟨by kernel_rfl, fun w' hw => by (obtain ⟨z0, z1⟩ := hw; go_simp)⟩) hS ?_
    refine wpAnyH_take (i := 8) (v := (.int .i64 ((fr : Int) - (at_ : Int)))) rfl (by kernel_rfl) (by kernel_rfl) (by kernel_rfl) (fun _ _ _ h => h) (Or.inl ⟨by kernel_rfl, fun w' hw => by (have wr := WR.out; go_simp)⟩) hS ?_
    refine wpAnyH_take (i := 9) (v := (.slice (some ⟨ab, ao + (fr - at_), none⟩) (bs.length - (fr - at_)) (cap - (fr - at_)))) rfl (by kernel_rfl) (by kernel_rfl) (by kernel_rfl) (fun _ _ _ h => h) (Or.inl ⟨by kernel_rfl, fun w' hw => by (have e := slice_bytes ab ao (fr - at_) bs.length cap SB1.out hcap w'; rw [E2.out] at e; go_simp)⟩) hS ?_
    refine wpAnyH_op (i := 10) (by kernel_rfl) rfl (by kernel_rfl) (by kernel_rfl) (wp_copy (.tmp 36) (.tmp 41) 33 33 (by kernel_rfl) 5 Try.underlying33 (by kernel_rfl) W1.heap.size (no % 8 * 8 + fr % 8) (8 - fr % 8) (8 - fr % 8) ⟨ab, ao + (fr - at_), none⟩ (bs.length - (fr - at_)) (cap - (fr - at_)) (by kernel_rfl) (by kernel_rfl) ((σk.line (no / 8)).map B8) 73 HX1.out (part.map B8) HCL.out HSR.out HFIT.out (B8_cell part) ⟨S9.out, ?_⟩)
    simp only [Act.put, List.getElem_toArray, List.getElem_cons_zero, List.getElem_cons_succ, List.setIfInBounds_toArray, List.set_cons_zero, List.set_cons_succ]
    generalize hY : (X.drew.setRow W1.heap.size (splice ((σk.line (no / 8)).map B8) (no % 8 * 8 + fr % 8) (part.map B8)).toArray) = Y at *
    clear hY
    obtain ⟨nx, hnx⟩ : ∃ nx, nx = splice (σk.line (no / 8)) (fr % 64) part := ⟨_, rfl⟩
    rw [← hnx] at HYN HPT1 HPT2 HWORD
    have HNX := hide hnx
    clear hnx
    have hdX := HD.out.below HX2.out
    have hdY : DevL Y b L' σk := hdX.keep (fun k hk => HYG.out.block (hdX.foot_is hk) (fun e => by have := HD.out.foot_is hk; omega))
    have hOL := hO.same HS.out
    have hnl := HK.out
    have kc := pchg_any hdY hnl.ok HHI.out HPT1.out (by omega)
    have e3 : ((no / 8 : Nat) : Int) = (no : Int) / 8 := by omega
    rw [e3] at kc
    have hrn := range_all HYN.out
    have cy3 := Y3.out.cell
    have hfk : Few (σk.put (no / 8) nx) := ⟨by rw [show (σk.put (no / 8) nx).arms = σ.arms from hnl.arms]; exact hfw.one, by show σk.cnt < _; rw [hnl.cnt]; split <;> omega⟩
    have hpk := put_ok hnl.ok HHI.out HPT1.out HPT2.out (by rw [hnl.ops]; omega)
    have hok2 : σk.ops < 1400000000000 := by rw [hnl.ops]; omega
    have HFK := hide hfk
    have HPK := hide hpk
    have HOP2 := hide hok2
    clear hfk hpk hok2
    have KC := hide kc
    have HRN := hide hrn
    have HDY := hide hdY
    have HOL := hide hOL
    have nf : ∀ (g : Nat) (t : TypeId) (v : Value), Boxed Y g t v → w.heap.size ≤ g → ¬ HP t → ¬ Foot b L' σk g := fun g t v hb hg ht => box_foot hdY hOL hb hg ht
    have NF := hide nf
    clear kc hrn hdY hdX hOL hnl e3 nf
    have N6 := hide (box_foot HD.out HOL.out H6.out (by omega) (by unfold HP; decide))
    have HFI := Classical.em (fires (σk.put (no / 8) nx))
    rcases HFI with hF | hF
    · have HF0 := hide hF
      clear hF
      gi_wp2_with (first | (refine wpListIn_load_mid rfl 73 (.tmp 11) rfl W1.heap.size 0 (by kernel_rfl) (nx.map B8) (.array 8 71) HRN.out (by kernel_rfl) rfl (by rw [List.length_map, HPT1.out]; kernel_rfl) ?_) | (refine ⟨trivial, ?_⟩; gi_at_call 67; refine (inR (KC.out)).mono ?_; rintro e Y2 ⟨rfl, L2, hd2, hf2, hg2, hN2, hs2⟩; have y32 := hg2.box Y3.out (NF.out _ _ _ Y3.out (Nat.le_refl _) (by unfold HP; decide)); have cy32 := y32.cell; have KO := hide (poper_yes hd2 HPK.out HFK.out HOP2.out HF0.out); have HD2 := hide hd2; have HF2 := hide hf2; have HG2 := hide hg2; have HN2 := hide hN2; have HS2 := hide hs2; clear hd2 hf2 hg2 hN2 hs2 cy3) | (refine ⟨trivial, ?_⟩; gi_at_call 62; refine (inR (KO.out)).mono ?_; rintro e Y4 ⟨rfl, σ4, L4, ho4, hd4, hf4, hg4, hn4, hk4⟩; have g1 : Gr (Foot b L' σk) W1 Y4 := ((((Gr.of_below HX2.out : Gr (Foot b L' σk) W1 X).trans HYG.out (fun i e => .inr (by omega))).trans HG2.out (fun i h => .inl h)).trans hg4 (fun i h => (HF2.out i h).imp id (fun h5 => by have h6 := HYG.out.size; have h7 := HX2.out.size; omega))); have y6 := g1.box H6.out N6.out; have cy6 := y6.cell; have zy6 := y6.frozen; have Y6 := hide y6; have G1 := hide g1; have HO4 := hide ho4; have HD4 := hide hd4; have HF4 := hide hf4; have HN4 := hide hn4; have HK4 := hide hk4; have HG4 := hide hg4; clear ho4 hd4 hf4 hg4 hn4 hk4 g1 y6))
      have hdW := HD.out
      have hOL := HOL.out
      have n3 := box_foot hdW hOL H3.out (by omega) (by unfold HP; decide)
      have n4 := box_foot hdW hOL H4.out (by omega) (by unfold HP; decide)
      have n5 := box_foot hdW hOL H5.out (by omega) (by unfold HP; decide)
      have n6 := box_foot hdW hOL H6.out (by omega) (by unfold HP; decide)
      have n7 := box_foot hdW hOL H7.out (by omega) (by unfold HP; decide)
      have n8 := box_foot hdW hOL H8.out (by omega) (by unfold HP; decide)
      have hnew : ∀ i, Foot b L' σk i → i < w.heap.size ∨ w.heap.size + 6 ≤ i := fun i hi => by
        have q3 : i ≠ w.heap.size := fun e => n3 (e ▸ hi)
        have q4 : i ≠ w.heap.size + 1 := fun e => n4 (e ▸ hi)
        have q5 : i ≠ w.heap.size + 1 + 1 := fun e => n5 (e ▸ hi)
        have q6 : i ≠ w.heap.size + 1 + 1 + 1 := fun e => n6 (e ▸ hi)
        have q7 : i ≠ w.heap.size + 1 + 1 + 1 + 1 := fun e => n7 (e ▸ hi)
        have q8 : i ≠ w.heap.size + 1 + 1 + 1 + 1 + 1 := fun e => n8 (e ▸ hi)
        omega
      have g1 := G1.out
      have hz1 := HYG.out.size
      have hz2 := HX2.out.size
      have hz3 := HS1.out
      have hz4 := HG2.out.size
      have hft : ∀ k, Foot b L4 σ4 k → Foot b L' σk k ∨ w.heap.size + 6 ≤ k := fun k hk => by
        rcases HF4.out k hk with h3 | h3
        · rcases HF2.out k h3 with h4 | h4
          · exact .inl h4
          · exact .inr (by omega)
        · exact .inr (by omega)
      have hd5 : DevL (Y4.setCell ⟨w.heap.size + 1 + 1 + 1, 0, none⟩ (.int .i64 5)) b L4 σ4 := HD4.out.keep (fun k hk => heap_set_ne Y4 _ 0 k _ (fun e => by
        rcases hft k hk with h3 | h3
        · exact n6 (e ▸ h3)
        · omega))
      have g0 : Gr (Foot b L σ) w W1 := (Gr.of_below hB0).trans HG.out (fun i h => .inl h)
      have hfo : ∀ i, Foot b L' σk i → Foot b L σ i ∨ w.heap.size ≤ i := HF.out
      refine ⟨(g1.kp (fun k o hk hf => ⟨fun hn => by rcases hn with e | e; exact n7 (e ▸ hf); exact n8 (e ▸ hf), ?_⟩)).trans (Kp.set _ (fun h => by omega) (by omega)), ⟨rfl, Y6.out.set _⟩, (g0.trans g1 hfo).trans (Gr.set Y4 _ 0 _ (X := fun k => k = w.heap.size + 1 + 1 + 1) rfl) (fun i h => .inr (by omega)), L4, σ4, hd5, ⟨HK4.out.trans (HS2.out.2.2.2.2.trans HS.out.2.2.2.2), ?_⟩, ⟨pre.map Int.toNat, no, by simp, ?_⟩, fun k hk => ?_⟩
      · rcases foot_cases hdW hOL hf with h1 | ⟨o', h1, h2⟩
        · exact .inl (by omega)
        · rw [hk] at h1; cases h1; exact .inr h2
      · have h2 := HN2.out; have h3 := HN4.out; rw [List.length_append, List.length_singleton]; omega
      · rw [HGK.out, HWORD.out]; exact HO4.out
      · rcases hft k hk with h3 | h3
        · exact HF.out k h3
        · exact .inr (by omega)
    · have HF0 := hide hF
      clear hF
      gi_wp2_with (first | (refine wpListIn_load_mid rfl 73 (.tmp 11) rfl W1.heap.size 0 (by kernel_rfl) (nx.map B8) (.array 8 71) HRN.out (by kernel_rfl) rfl (by rw [List.length_map, HPT1.out]; kernel_rfl) ?_) | (refine ⟨trivial, ?_⟩; gi_at_call 67; refine (inR (KC.out)).mono ?_; rintro e Y2 ⟨rfl, L2, hd2, hf2, hg2, hN2, hs2⟩; have y32 := hg2.box Y3.out (NF.out _ _ _ Y3.out (Nat.le_refl _) (by unfold HP; decide)); have cy32 := y32.cell; have KO := hide (poper_no hd2 HPK.out HFK.out HOP2.out HF0.out); have HD2 := hide hd2; have HF2 := hide hf2; have HG2 := hide hg2; have HN2 := hide hN2; have HS2 := hide hs2; clear hd2 hf2 hg2 hN2 hs2 cy3) | (refine ⟨trivial, ?_⟩; gi_at_call 62; refine (inR (KO.out)).mono ?_; rintro e Y4 ⟨rfl, hd4, hg4⟩; have HG4 := hide hg4; have HD4 := hide hd4; clear hg4 hd4))
      have hdW := HD.out
      have hOL := HOL.out
      have n3 := box_foot hdW hOL H3.out (by omega) (by unfold HP; decide)
      have n4 := box_foot hdW hOL H4.out (by omega) (by unfold HP; decide)
      have n5 := box_foot hdW hOL H5.out (by omega) (by unfold HP; decide)
      have n6 := box_foot hdW hOL H6.out (by omega) (by unfold HP; decide)
      have n7 := box_foot hdW hOL H7.out (by omega) (by unfold HP; decide)
      have n8 := box_foot hdW hOL H8.out (by omega) (by unfold HP; decide)
      have hnew : ∀ i, Foot b L' σk i → i < w.heap.size ∨ w.heap.size + 6 ≤ i := fun i hi => by
        have q3 : i ≠ w.heap.size := fun e => n3 (e ▸ hi)
        have q4 : i ≠ w.heap.size + 1 := fun e => n4 (e ▸ hi)
        have q5 : i ≠ w.heap.size + 1 + 1 := fun e => n5 (e ▸ hi)
        have q6 : i ≠ w.heap.size + 1 + 1 + 1 := fun e => n6 (e ▸ hi)
        have q7 : i ≠ w.heap.size + 1 + 1 + 1 + 1 := fun e => n7 (e ▸ hi)
        have q8 : i ≠ w.heap.size + 1 + 1 + 1 + 1 + 1 := fun e => n8 (e ▸ hi)
        omega
      have hg4 := HG4.out
      have g1 : Gr (Foot b L' σk) W1 Y4 := (((Gr.of_below HX2.out : Gr (Foot b L' σk) W1 X).trans HYG.out (fun i e => .inr (by omega))).trans HG2.out (fun i h => .inl h)).trans hg4 (fun i h => (HF2.out i h).imp id (fun h5 => by have h6 := HYG.out.size; have h7 := HX2.out.size; omega))
      refine ⟨g1.kp (fun k o hk hf => ⟨fun hn => by rcases hn with e | e; exact n7 (e ▸ hf); exact n8 (e ▸ hf), ?_⟩), ⟨⟨g1.box H3.out n3, g1.box H4.out n4⟩, g1.box H5.out n5, g1.box H6.out n6, g1.box H7.out n7, g1.box H8.out n8⟩, ⟨g1.sl HSL.out (fun ad he hf => ?_), HG.out.trans g1 (fun i hi => ?_)⟩, L2, ?_, HS.out.trans HS2.out, ?_, fun k hk => ?_, fun af kp rest e _ => ?_⟩
      · rcases foot_cases hdW hOL hf with h1 | ⟨o', h1, h2⟩
        · exact .inl (by omega)
        · rw [hk] at h1; cases h1; exact .inr h2
      · obtain ⟨h1, h2⟩ := haf ad he
        rcases HF.out _ hf with h3 | h3
        · exact h2 h3
        · omega
      · rcases HF.out i hi with h3 | h3
        · exact .inl h3
        · rcases hnew i hi with h4 | h4
          · omega
          · exact .inr (by omega)
      · rw [HSN.out]; show DevL Y4 b L2 (tick (wordA bs at_ σk no)); rw [HWORD.out]; exact HD4.out
      · have h2 := HN2.out; rw [List.length_append, List.length_singleton]; omega
      · rw [HSN.out] at hk
        have hk : Foot b L2 (tick (wordA bs at_ σk no)) k := hk
        rw [HWORD.out] at hk
        rcases HF2.out k hk with h3 | h3
        · exact HF.out k h3
        · have h4 := HYG.out.size; have h5 := HX2.out.size; have h6 := HS1.out; exact .inr (by omega)
      · refine Classical.byContradiction fun hc => HF0.out ⟨af, kp, rest, HK.out.arms.trans e, ?_⟩
        show af ≤ σk.cnt + 1
        rw [HK.out.cnt, if_neg (by rw [e]; simp)]
        rw [List.length_append, List.length_singleton] at hc
        omega
  case hdone =>
    rintro D W hD ⟨⟨⟨h3, h4⟩, h5, h6, h7, h8⟩, ⟨hslW, hgW⟩, L', hdW, hsame, hNL, hfoot, hpu⟩ hK
    have hOL := hO.same hsame
    have n6 := box_foot hdW hOL h6 (by omega) (by unfold HP; decide)
    have c6 := h6.cell
    have z6 := h6.frozen
    have hw : (unitsV 8 (at_ : Int) (bs.length : Int)).map Int.toNat = wordsOf at_ bs.length := rfl
    rw [hw] at hdW hfoot
    have hl : (unitsV 8 (at_ : Int) (bs.length : Int)).length = (wordsOf at_ bs.length).length := by unfold wordsOf; rw [List.length_map]
    rw [hl] at hNL
    have HD := hide hdW
    have HG := hide hgW
    have HF := hide hfoot
    have HS := hide hsame
    rw [hl] at hpu
    have HPU := hide hpu
    have HK := hide hK
    have H6 := hide h6
    clear hpu h3 h4 h5 h6 h7 h8 hslW hgW hdW hsame hfoot hK hw hl
    gi_wp2
    have hne : D ≠ w.heap.size + 1 + 1 + 1 := by omega
    have hK' : (W.setCell ⟨w.heap.size + 1 + 1 + 1, 0, none⟩ (.int .i64 0)).heap[D]? = some (.deferred (some [])) := (heap_set_ne W _ 0 D _ hne).trans HK.out
    refine ⟨by simp, .inl ⟨_, _, rfl, run_takeDeferred hK', ?_⟩⟩
    have hd1 : DevL (W.setCell ⟨w.heap.size + 1 + 1 + 1, 0, none⟩ (.int .i64 0)) b L' (writeG bs at_ σ (wordsOf at_ bs.length)) := HD.out.keep (fun k hk => heap_set_ne W _ 0 k _ (fun e => n6 (e ▸ hk)))
    have hgr : Gr (Foot b L σ) w ((W.setCell ⟨w.heap.size + 1 + 1 + 1, 0, none⟩ (.int .i64 0)).putObj D (.deferred none)) := by
      have g1 : Gr (Foot b L σ) w W := (Gr.of_below hB0).trans HG.out (fun i h => .inl h)
      have g2 : Gr (fun k => k = w.heap.size + 1 + 1 + 1) W (W.setCell ⟨w.heap.size + 1 + 1 + 1, 0, none⟩ (.int .i64 0)) := Gr.set W _ 0 _ rfl
      have g3 : Gr (fun k => k = D) (W.setCell ⟨w.heap.size + 1 + 1 + 1, 0, none⟩ (.int .i64 0)) ((W.setCell ⟨w.heap.size + 1 + 1 + 1, 0, none⟩ (.int .i64 0)).putObj D (.deferred none)) := Gr.of_grown (grownBy_putObj' _ D _) (fun k hk => .inl (by cases hk; rfl))
      exact (g1.trans g2 (fun i h => .inr (by omega))).trans g3 (fun i h => .inr (by omega))
    refine ⟨_, results_boxP rfl _ _ (w.heap.size + 1 + 1 + 1) _ _ rfl ((World.putObj_heap_other (Ne.symm hne)).trans (H6.out.set _)) (fun _ h => loadE h), 0, _, L', rfl, .inl ⟨rfl, rfl, fun af kp rest e h => HPU.out af kp rest e (fun e2 => h (by unfold wordsOf; rw [e2]; rfl))⟩, hd1.put_ hK' _, HF.out, hgr, hNL, HS.out.2.2.2.2, fun _ => HS.out⟩
  case hstop =>
    rintro D c pre W2 hD hpre ⟨⟨rfl, h6⟩, hgW, L', σ', hdW, ⟨hkb, hNL⟩, ⟨pr, no, hpn, hop⟩, hfoot⟩ hK
    have HD := hide hdW
    have HG := hide hgW
    have HF := hide hfoot
    have HOP := hide hop
    have HPN := hide hpn
    have HPR := hide hpre
    have HNL := hide hNL
    have HKB := hide hkb
    have H6 := hide h6
    clear h6 hgW hdW hfoot hop hpn hpre hNL hkb
    gi_wp2
    have hne : D ≠ w.heap.size + 1 + 1 + 1 := by omega
    refine ⟨by simp, .inl ⟨_, _, rfl, run_takeDeferred hK, ?_⟩⟩
    have hgr : Gr (Foot b L σ) w (W2.putObj D (.deferred none)) := HG.out.trans (Gr.of_grown (X := fun k => k = D) (grownBy_putObj' _ D _) (fun k hk => .inl (by cases hk; rfl))) (fun i h => .inr (by omega))
    have hpl := HPR.out.length_le
    have hl : (unitsV 8 (at_ : Int) (bs.length : Int)).length = (wordsOf at_ bs.length).length := by unfold wordsOf; rw [List.length_map]
    have h9 := HNL.out
    refine ⟨_, results_boxP rfl _ _ (w.heap.size + 1 + 1 + 1) _ _ rfl ((World.putObj_heap_other (Ne.symm hne)).trans H6.out) (fun _ h => loadE h), 5, σ', L', rfl, .inr ⟨rfl, pr, no, ?_, HOP.out⟩, HD.out.put_ hK _, HF.out, hgr, by omega, HKB.out, fun h => by cases h⟩
    have := HPR.out.map Int.toNat
    rw [HPN.out] at this
    exact this
end Go.Proofs.Ytgfgihpkbbjkfaa
namespace Go.Proofs.Ytgfgihpkbbjkfaa
open Go.RowKit Go.Shelf
set_option linter.unusedVariables false

section
variable {w : World} {b at_ : Nat} {L : Lay} {σ : St}
theorem pst8_gen (v : Nat) (h : DevL w b L σ) (hok : σ.Ok) (ho : σ.off = false) (hN : L.N ≤ σ.ops + 100000000000) (hfw : Few σ) (hcn : σ.cnt + 600000 ≤ 1400000000000) (hops : σ.ops + 600000 ≤ 1400000000000) (hat : at_ % 8 = 0) (hlen : at_ + 8 ≤ 64 * σ.n) (hv : v < 18446744073709551616) :
    Calls Try.prog 88 #[.pointer (some ⟨b, 0, none⟩), .int .i64 (at_ : Int), .int .u64 (v : Int)] w fun e w' => ∃ c σ' L', e = .returned (.int .i64 c) ∧ WrD (leB 8 v) at_ σ (wordsOf at_ 8) c σ' ∧ DevL w' b L' σ' ∧ (∀ k, Foot b L' σ' k → Foot b L σ k ∨ w.heap.size ≤ k) ∧ Gr (Foot b L σ) w w' ∧ L'.N ≤ L.N + (wordsOf at_ 8).length ∧ L'.KB = L.KB ∧ (c = 0 → SameL L L') := by
  have hmx := hok.max
  have ks := pstate_any h
  rw [ho] at ks
  simp only [Bool.false_eq_true, if_false] at ks
  have kh := pholds_any h hok.max (at_ : Int) 8 (by omega) (by omega)
  have hb : hasB σ (at_ : Int) 8 = true := by unfold hasB; simp; omega
  rw [hb] at kh
  have kp : Calls Try.prog 86 #[.slice none 0 0, .int .u64 (v : Int)] w fun e w' => e = .returned (.slice (some ⟨w.heap.size, 0, none⟩) 8 8) ∧ Below w.heap.size w w' ∧ OwnB w' w.heap.size (leB 8 v) := by
    have h5 := put64 none 0 v [] w (.inl rfl) (by simp) hv
    simpa using h5
  have hll : (leB 8 v).length = 8 := by simp [leB]
  have hlt : ∀ x ∈ leB 8 v, x < 256 := fun x hx => by
    simp [leB] at hx
    omega
  have kw : ∀ W1, Below w.heap.size w W1 → OwnB W1 w.heap.size (leB 8 v) → Calls Try.prog 46 #[.pointer (some ⟨b, 0, none⟩), .int .i64 (at_ : Int), .slice (some ⟨w.heap.size, 0, none⟩) 8 8] W1 fun e w' => ∃ c σ' L', e = .returned (.int .i64 c) ∧ WrD (leB 8 v) at_ σ (wordsOf at_ 8) c σ' ∧ DevL w' b L' σ' ∧ (∀ k, Foot b L' σ' k → Foot b L σ k ∨ w.heap.size ≤ k) ∧ Gr (Foot b L σ) w w' ∧ L'.N ≤ L.N + (wordsOf at_ 8).length ∧ L'.KB = L.KB ∧ (c = 0 → SameL L L') := fun W1 hB hown => by
    have h6 := callsIn_wide.1 (pwriteG_in (cap := 8) (h.below hB) hok hN hfw hcn (hown.sl hlt) (by rw [hll]; exact Nat.le_refl _) (by rw [hll]; exact hlen) hops (fun ad he => by
      cases he
      exact ⟨hown.lt, fun hf => by have := h.foot_is hf; simp at this⟩))
    rw [hll] at h6
    refine h6.mono ?_
    rintro e w' ⟨c, σ', L', rfl, h0, h1, h2, h3, h4⟩
    refine ⟨c, σ', L', rfl, h0, h1, fun k hk => ?_, (Gr.of_below hB).trans h3 (fun i h => .inl h), h4⟩
    rcases h2 k hk with h7 | h7
    · exact .inl h7
    · exact .inr (Nat.le_trans hB.size h7)
  have KS := hide ks
  have KH := hide kh
  have KP := hide kp
  have KW := hide kw
  have htm : (at_ : Int).tmod 8 = 0 := by rw [Int.tmod_eq_emod_of_nonneg (by omega)]; omega
  clear h hok ks kh kp kw hlt hll hb hat hfw hcn hN ho hv
  go_enter Try.func88, Try.ntmps88
  go_wp2_with (first | (go_at_call 37; refine (KS.out).mono ?_; rintro e w' ⟨rfl, hw⟩; obtain rfl := hw.symm) | (go_at_call 45; refine (KH.out).mono ?_; rintro e w' ⟨rfl, hw⟩; obtain rfl := hw.symm) | (go_at_call 86; refine (KP.out).mono ?_; rintro e W1 ⟨rfl, hB, hown⟩; have K2 := hide (KW.out W1 hB hown); clear hB hown) | (go_at_call 46; refine (K2.out).mono ?_; rintro e w' ⟨c, σ', L', rfl, hw⟩; have HW := hide hw; clear hw))
  go_ret
  exact ⟨c, σ', L', rfl, HW.out⟩
end
end Go.Proofs.Ytgfgihpkbbjkfaa
namespace Go.Proofs.Ytgfgihpkbbjkfaa
open Go.RowKit Go.Shelf
set_option linter.unusedVariables false

/-- A line is flushed; the operation is not yet counted. -/
def flA (σ : St) (i : Nat) : St := { flushDo σ i with ops := σ.ops }
theorem flA_ok {σ : St} (h : σ.Ok) (i : Nat) (hops : σ.ops < 1400000000000) : (flA σ i).Ok :=
  ⟨h.pos, h.max, h.len, h.byte, h.out, h.clen, h.cbyte, h.few, (flush_ok h i hops).flp, h.opsm⟩
section
variable {w : World} {b : Nat} {L : Lay} {σ : St}
set_option maxRecDepth 100000 in
set_option maxHeartbeats 300000 in
theorem pflush_gen (h : DevL w b L σ) (hok : σ.Ok) (ho : σ.off = false) (hfw : Few σ) (at_ : Nat) (hat : at_ < 64 * σ.n) (hops : σ.ops < 1400000000000) (hN : L.N ≤ σ.ops + 100000000000) : Calls Try.prog 40 #[.pointer (some ⟨b, 0, none⟩), .int .i64 (at_ : Int)] w fun e w' =>
    ∃ c σ' L', e = .returned (.int .i64 c) ∧ Opd (flA σ (at_ / 64)) c σ' ∧ DevL w' b L' σ' ∧ (∀ k, Foot b L' σ' k → Foot b L σ k ∨ w.heap.size ≤ k) ∧ Gr (Foot b L σ) w w' ∧ L'.N ≤ L.N + 1 ∧ L'.KB = L.KB ∧ (c = 0 → SameL L L') := by
  have hmx := hok.max
  have ks := pstate_any h
  rw [ho] at ks
  simp only [Bool.false_eq_true, if_false] at ks
  have kh := pholds_any h hok.max (at_ : Int) 1 (by omega) (by omega)
  have hb : hasB σ (at_ : Int) 1 = true := by unfold hasB; simp; omega
  rw [hb] at kh
  obtain ⟨i, hi⟩ : ∃ i, i = at_ / 64 := ⟨_, rfl⟩
  have hin : i < σ.n := by omega
  have hiI : (at_ : Int) / 64 = (i : Int) := by omega
  have htd : (at_ : Int).tdiv 64 = (i : Int) := by rw [Int.tdiv_eq_ediv_of_nonneg (by omega)]; omega
  have hwf := wfI (i := i) (by omega)
  have c2 := h.c2
  have c3 := h.c3
  rw [← hi]
  have KS := hide ks
  have KH := hide kh
  have HOLD := hide h.old
  have HFL := hide h.flm
  have HD := hide h
  have HOK := hide hok
  have HT := hide htd
  have atI : (at_ : Int) ≤ 4194304 := by omega
  by_cases hp : σ.past i = []
  · have hof : oldF L σ (i : Int) = none := by unfold oldF; rw [if_neg (fun h => h.2 (by simpa using hp))]
    have HOF := hide hof
    have hfd : flushDo σ i = { σ with ops := σ.ops + 1 } := by
      unfold flushDo
      congr 1
      funext j
      rw [if_neg (fun e => e.2 hp)]
    have hfa : flA σ i = σ := by unfold flA; rw [hfd]
    have ko := poper_gen h (ok_more hok hops) hfw hops
    have KO := hide ko
    rw [hfa]
    clear h hok ks kh hp hof hi hb htd ko hfd hfa hfw
    go_enter Try.func40, Try.ntmps40
    go_wp2_with (first | (go_at_call 37; refine (KS.out).mono ?_; rintro e w' ⟨rfl, hw⟩; obtain rfl := hw.symm) | (go_at_call 45; refine (KH.out).mono ?_; rintro e w' ⟨rfl, hw⟩; obtain rfl := hw.symm) | (at_lookup; refine wpList_look_none rfl (.tmp 24) (.tmp 25) rfl L.ob L.N (oldF L σ) (by kernel_rfl) HOLD.out i (by simp [Act.eval]) hwf HOF.out ?_) | (go_at_call 62; refine (KO.out).mono ?_; rintro e w' ⟨c, σ', L', rfl, hr⟩; have HR := hide hr; clear hr))
    go_ret
    obtain ⟨r1, r2, r3, r4, r5, r6⟩ := HR.out
    exact ⟨c, σ', L', rfl, r1, r2, r3, r4, by omega, r6.1, fun h0 => by rw [r6.2 h0]; exact SameL.refl L⟩
  · have hof : oldF L σ (i : Int) = some (L.pb i) := by unfold oldF; rw [if_pos ⟨by omega, by simpa using hp⟩]; simp
    obtain ⟨n, hn⟩ : ∃ n, n = (σ.past i).length := ⟨_, rfl⟩
    have hp1 := (h.pasts i hp).1
    rw [← hn] at hp1
    have hfew := hok.few i
    have hnf := wfI (i := n) (by omega)
    obtain ⟨e2, q2, hfb⟩ := h.flm.block
    have hfd : flushDo σ i = { ({ σ with fl := fun j => if j = i then some n else σ.fl j } : St) with ops := σ.ops + 1 } := by
      unfold flushDo
      congr 1
      funext j
      show _ = (if j = i then some n else σ.fl j)
      by_cases e : j = i
      · rw [if_pos ⟨e, hp⟩, if_pos e, hn]
      · rw [if_neg (fun h => e h.1), if_neg e]
    have hf : ∀ x, (fun y : Int => if y = (i : Int) then some n else flF σ y) x = flF { σ with fl := fun j => if j = i then some n else σ.fl j } x := fun x => by
      unfold flF
      simp only
      by_cases e : x = (i : Int)
      · subst e; simp
      · rw [if_neg e]
        by_cases h0 : 0 ≤ x
        · rw [if_pos h0, if_pos h0, if_neg (by omega)]
        · rw [if_neg h0, if_neg h0]
    have hfa : flA σ i = { σ with fl := fun j => if j = i then some n else σ.fl j } := by unfold flA; rw [hfd]
    have ko : ∀ W9 : World, w.drew.grownBy W9 (some L.fb) → MapG (plainElem Try.prog 3) numD W9 L.fb (L.N + 1) (fun y => if y = (i : Int) then some n else flF σ y) → Calls Try.prog 62 #[.pointer (some ⟨b, 0, none⟩)] W9 fun e w' => ∃ c σ' L', e = .returned (.int .i64 c) ∧ Opd (flA σ i) c σ' ∧ DevL w' b L' σ' ∧ (∀ k, Foot b L' σ' k → Foot b L σ k ∨ W9.heap.size ≤ k) ∧ Gr (Foot b L σ) W9 w' ∧ L'.N ≤ L.N + 1 ∧ L'.KB = L.KB ∧ (c = 0 → L' = { L with N := L.N + 1 }) := fun W9 hg hm => by
      have hg' : w.grownBy W9 (some L.fb) := ⟨hg.os, hg.tape, hg.output, hg.size, hg.block⟩
      have hd9 := dev_fl h hg' (hm.congr hf)
      rw [← hfa] at hd9
      exact poper_gen hd9 (flush_ok hok i hops) ⟨hfw.one, hfw.cnt⟩ hops
    have s0 : w.drew.cell? ⟨b, 3, none⟩ = some (.map (some L.fb)) ∧ w.drew.cell? ⟨L.pb i, 1, none⟩ = some (.int .i64 (n : Int)) := ⟨h.c3, cell8 hp1 1⟩
    have s9 : ∀ W9 : World, w.drew.grownBy W9 (some L.fb) → W9.cell? ⟨b, 3, none⟩ = some (.map (some L.fb)) ∧ W9.cell? ⟨L.pb i, 1, none⟩ = some (.int .i64 (n : Int)) := fun W9 hg =>
      ⟨cell8 ((hg.block b (lt_of_heap h.dev) (fun e => ne_map h.dev hfb (Option.some.inj e))).trans h.dev) 3, cell8 ((hg.block _ (lt_of_heap hp1) (fun e => ne_map hp1 hfb (Option.some.inj e))).trans hp1) 1⟩
    have hfl2 : MapG (plainElem Try.prog 3) numD w.drew L.fb L.N (flF σ) := h.flm.of_block rfl
    have HFL2 := hide hfl2
    clear hfl2
    have KO := hide ko
    have S9 := hide s9
    have HOF := hide hof
    have hNm : L.N < maxLen := by unfold maxLen; omega
    have HNM := hide hNm
    have HNF := hide hnf
    clear h hok ks kh hp hof hi hb htd ko hfd hfa hfw s9 hp1 hn hfb hf hnf hNm hfew
    go_enter Try.func40, Try.ntmps40
    go_wp2_with (first | (go_at_call 37; refine (KS.out).mono ?_; rintro e w' ⟨rfl, hw⟩; obtain rfl := hw.symm) | (go_at_call 45; refine (KH.out).mono ?_; rintro e w' ⟨rfl, hw⟩; obtain rfl := hw.symm) | (at_lookup; refine wpList_look_some rfl (.tmp 24) (.tmp 25) rfl L.ob L.N (oldF L σ) (by kernel_rfl) HOLD.out i (by simp [Act.eval]) hwf (L.pb i) HOF.out ?_))
    refine wp_region_held_drew (S := fun X => X.cell? ⟨b, 3, none⟩ = some (.map (some L.fb)) ∧ X.cell? ⟨L.pb i, 1, none⟩ = some (.int .i64 (n : Int))) (by kernel_rfl) s0 (fun hS => ?_)
    refine wpAnyH_take (i := 0) (v := (.pointer (some ⟨b, 0, none⟩))) rfl (by kernel_rfl) (by kernel_rfl) (by kernel_rfl) (fun _ _ _ h => h) (Or.inl ⟨by kernel_rfl, fun w' hw => by (go_simp)⟩) hS ?_
    refine wpAnyH_take (i := 1) (v := (.pointer (some ⟨b, 0, none⟩))) rfl (by kernel_rfl) (by kernel_rfl) (by kernel_rfl) (fun _ _ _ h => h) (Or.inl ⟨by kernel_rfl, fun w' hw => by (go_simp)⟩) hS ?_
    refine wpAnyH_take (i := 2) (v := (.pointer (some ⟨b, 3, none⟩))) rfl (by kernel_rfl) (by kernel_rfl) (by kernel_rfl) (fun _ _ _ h => h) (Or.inl ⟨by kernel_rfl, fun w' hw => by (go_simp)⟩) hS ?_
    refine wpAnyH_take (i := 3) (v := (.map (some L.fb))) rfl (by kernel_rfl) (by kernel_rfl) (by kernel_rfl) (fun _ _ _ h => h) (Or.inl ⟨by kernel_rfl, fun w' hw => by (obtain ⟨z0, z1⟩ := hw; go_simp)⟩) hS ?_
    refine wpAnyH_take (i := 4) (v := (.int .i64 (i : Int))) rfl (by kernel_rfl) (by kernel_rfl) (by kernel_rfl) (fun _ _ _ h => h) (Or.inl ⟨by kernel_rfl, fun w' hw => by (go_simp)⟩) hS ?_
    refine wpAnyH_take (i := 5) (v := (.pointer (some ⟨L.pb i, 0, none⟩))) rfl (by kernel_rfl) (by kernel_rfl) (by kernel_rfl) (fun _ _ _ h => h) (Or.inl ⟨by kernel_rfl, fun w' hw => by (go_simp)⟩) hS ?_
    refine wpAnyH_take (i := 6) (v := (.pointer (some ⟨L.pb i, 0, none⟩))) rfl (by kernel_rfl) (by kernel_rfl) (by kernel_rfl) (fun _ _ _ h => h) (Or.inl ⟨by kernel_rfl, fun w' hw => by (go_simp)⟩) hS ?_
    refine wpAnyH_take (i := 7) (v := (.pointer (some ⟨L.pb i, 1, none⟩))) rfl (by kernel_rfl) (by kernel_rfl) (by kernel_rfl) (fun _ _ _ h => h) (Or.inl ⟨by kernel_rfl, fun w' hw => by (go_simp)⟩) hS ?_
    refine wpAnyH_take (i := 8) (v := (.int .i64 (n : Int))) rfl (by kernel_rfl) (by kernel_rfl) (by kernel_rfl) (fun _ _ _ h => h) (Or.inl ⟨by kernel_rfl, fun w' hw => by (obtain ⟨z0, z1⟩ := hw; go_simp)⟩) hS ?_
    refine wpAnyH_put_num (z := 9) (.tmp 33) (.tmp 34) (.tmp 38) L.fb L.N (flF σ) i n (by kernel_rfl) rfl (by kernel_rfl) (by kernel_rfl) (by kernel_rfl) (by kernel_rfl) (by kernel_rfl) (by kernel_rfl) HFL2.out HNM.out hwf HNF.out (fun W9 hm9 hg9 => ⟨S9.out W9 hg9, ?_⟩)
    have K9 := hide (KO.out W9 hg9 hm9)
    have HG9 := hide hg9
    clear hg9 hm9
    simp only [Act.put, List.getElem_toArray, List.getElem_cons_zero, List.getElem_cons_succ, List.setIfInBounds_toArray, List.set_cons_zero, List.set_cons_succ]
    go_wp2_with (go_at_call 62; refine (K9.out).mono ?_; rintro e w' ⟨c, σ', L', rfl, hr⟩; have HR := hide hr; clear hr)
    go_ret
    obtain ⟨r1, r2, r3, r4, r5⟩ := HR.out
    have hg : w.grownBy W9 (some L.fb) := ⟨HG9.out.os, HG9.out.tape, HG9.out.output, HG9.out.size, HG9.out.block⟩
    exact ⟨c, σ', L', rfl, r1, r2, fun k hk => (r3 k hk).imp id (fun h => Nat.le_trans hg.size h), (Gr.of_grown (w := w) (X := Foot b L σ) hg (fun k hk => .inl (by cases hk; exact .inr (.inr (.inr (.inl rfl)))))).trans r4 (fun k h => .inl h), r5.1, r5.2.1, fun h0 => by rw [r5.2.2 h0]; exact ⟨rfl, rfl, rfl, rfl, rfl⟩⟩
end
end Go.Proofs.Ytgfgihpkbbjkfaa
namespace Go.Proofs.Ytgfgihpkbbjkfaa
open Go.RowKit Go.Shelf
set_option linter.unusedVariables false
attribute [local go_sem] Oper.semAt_some

def linesG (σ : St) (ls : List Nat) : St := ls.foldl (fun s i => tick (flA s i)) σ
theorem linesG_snoc (σ : St) (ls : List Nat) (i : Nat) : linesG σ (ls ++ [i]) = tick (flA (linesG σ ls) i) := by simp [linesG]
theorem linesG_like : ∀ (ls : List Nat) (σ : St), σ.Ok → σ.ops + ls.length ≤ 1400000000000 → (linesG σ ls).Ok ∧ (linesG σ ls).n = σ.n ∧ (linesG σ ls).ops = σ.ops + ls.length ∧ (linesG σ ls).arms = σ.arms ∧ (linesG σ ls).off = σ.off ∧ (linesG σ ls).cnt = if σ.arms = [] then σ.cnt else σ.cnt + ls.length
  | [], σ, hok, _ => ⟨hok, rfl, rfl, rfl, rfl, by show σ.cnt = if σ.arms = [] then σ.cnt else σ.cnt + 0; split <;> rfl⟩
  | i :: ls, σ, hok, h => by
    rw [List.length_cons] at h
    obtain ⟨h1, h2, h3, h4, h5, h6⟩ := linesG_like ls (tick (flA σ i)) (tick_ok (flush_ok hok i (by omega))) (by show σ.ops + 1 + _ ≤ _; omega)
    refine ⟨h1, h2, h3.trans (by show σ.ops + 1 + _ = _; rw [List.length_cons]; omega), h4, h5, h6.trans ?_⟩
    show (if σ.arms = [] then (if σ.arms = [] then σ.cnt else σ.cnt + 1) else (if σ.arms = [] then σ.cnt else σ.cnt + 1) + ls.length) = _
    rw [List.length_cons]
    by_cases e : σ.arms = []
    · simp only [if_pos e]
    · simp only [if_neg e]; omega
/-- What the flushes leave, and what is answered. -/
def FlD (σ : St) (ls : List Nat) (c : Int) (σ' : St) : Prop :=
  (c = 0 ∧ σ' = linesG σ ls ∧ ∀ af kp rest, σ.arms = (af, kp) :: rest → ls ≠ [] → σ.cnt + ls.length < af) ∨
  (c = 5 ∧ ∃ pre no, pre ++ [no] <+: ls ∧ Opd (flA (linesG σ pre) no) 5 σ')
set_option maxRecDepth 100000 in
set_option maxHeartbeats 1000000 in
theorem qflushG_in {w : World} {b at_ n : Nat} {L : Lay} {σ : St} (h : DevL w b L σ) (hok : σ.Ok) (ho : σ.off = false) (hN : L.N ≤ σ.ops + 100000000000) (hfw : Few σ) (hcn : σ.cnt + 600000 ≤ 1400000000000) (hlen : at_ + n ≤ 64 * σ.n) (hops : σ.ops + 600000 ≤ 1400000000000) :
    CallsIn Fence.wide 3 Try.prog 58 #[.agg #[.pointer (some ⟨b, 0, none⟩), .int .i64 (at_ : Int), .int .i64 (n : Int)]] w fun e w' => ∃ c σ' L', e = .returned (.int .i64 c) ∧ FlD σ (linesOf at_ n) c σ' ∧ DevL w' b L' σ' ∧ (∀ k, Foot b L' σ' k → Foot b L σ k ∨ w.heap.size ≤ k) ∧ Gr (Foot b L σ) w w' ∧ L'.N ≤ L.N + (linesOf at_ n).length ∧ L'.KB = L.KB ∧ (c = 0 → SameL L L') := by
  have hnm := hok.max
  have hO := h.old_
  refine callsIn_of_wp_marks Try.func58 rfl trivial ?_ rfl
  simp only [Try.ntmps58, List.size_toArray, List.length_cons, List.length_nil, Nat.reduceAdd, Nat.reduceSub, Array.replicate_succ, Array.replicate_zero, List.push_toArray, List.append_toArray, List.nil_append, List.cons_append]
  gi_wp2_with (refine ⟨trivial, ?_⟩; gi_at_call 65; refine (lines_in _ _ trivial rfl (at_ : Int) (n : Int) _).mono ?_; rintro e w' ⟨rfl, rfl⟩)
  have hB0 : Below w.heap.size w ((((w.alloc (.cells #[.pointer (some ⟨b, 0, none⟩), .int .i64 (at_ : Int), .int .i64 (n : Int)] 112)).alloc (.cells #[.int .i64 0] 35)).alloc (.cells #[.int .i64 (at_ : Int)] 3)).alloc (.cells #[.int .i64 (n : Int)] 3)) := ((((Below.refl _ w).alloc (Nat.le_refl _) _).alloc (by simp) _).alloc (by simp; omega) _).alloc (by simp; omega) _
  have hsz : ((((w.alloc (.cells #[.pointer (some ⟨b, 0, none⟩), .int .i64 (at_ : Int), .int .i64 (n : Int)] 112)).alloc (.cells #[.int .i64 0] 35)).alloc (.cells #[.int .i64 (at_ : Int)] 3)).alloc (.cells #[.int .i64 (n : Int)] 3)).heap.size = w.heap.size + 4 := by simp
  have b3 : ((((w.alloc (.cells #[.pointer (some ⟨b, 0, none⟩), .int .i64 (at_ : Int), .int .i64 (n : Int)] 112)).alloc (.cells #[.int .i64 0] 35)).alloc (.cells #[.int .i64 (at_ : Int)] 3)).alloc (.cells #[.int .i64 (n : Int)] 3)).heap[w.heap.size]? = some (.cells #[.pointer (some ⟨b, 0, none⟩), .int .i64 (at_ : Int), .int .i64 (n : Int)] 112 (0, 0)) := by
    rw [Below.heap_alloc _ _ _ (by simp; omega), Below.heap_alloc _ _ _ (by simp; omega), Below.heap_alloc _ _ _ (by simp)]
    exact heap_alloc_new w _
  have b6 := ((Boxed.new (w.alloc (.cells #[.pointer (some ⟨b, 0, none⟩), .int .i64 (at_ : Int), .int .i64 (n : Int)] 112)) 35 (.int .i64 0)).alloc (.cells #[.int .i64 (at_ : Int)] 3)).alloc (.cells #[.int .i64 (n : Int)] 3)
  have b7 := (Boxed.new ((w.alloc (.cells #[.pointer (some ⟨b, 0, none⟩), .int .i64 (at_ : Int), .int .i64 (n : Int)] 112)).alloc (.cells #[.int .i64 0] 35)) 3 (.int .i64 (at_ : Int))).alloc (.cells #[.int .i64 (n : Int)] 3)
  have b8 := Boxed.new (((w.alloc (.cells #[.pointer (some ⟨b, 0, none⟩), .int .i64 (at_ : Int), .int .i64 (n : Int)] 112)).alloc (.cells #[.int .i64 0] 35)).alloc (.cells #[.int .i64 (at_ : Int)] 3)) 3 (.int .i64 (n : Int))
  simp only [World.size_alloc] at b6 b7 b8
  obtain ⟨W0, hW0⟩ : ∃ W0, ((((w.alloc (.cells #[.pointer (some ⟨b, 0, none⟩), .int .i64 (at_ : Int), .int .i64 (n : Int)] 112)).alloc (.cells #[.int .i64 0] 35)).alloc (.cells #[.int .i64 (at_ : Int)] 3)).alloc (.cells #[.int .i64 (n : Int)] 3)) = W0 := ⟨_, rfl⟩
  rw [hW0] at b3 b6 b7 b8 hB0 hsz ⊢
  clear hW0
  have hd0 := h.below hB0
  apply rangeX (gf := 81) (lb := #[.pointer (some ⟨w.heap.size + 1 + 1, 0, none⟩), .pointer (some ⟨w.heap.size + 1 + 1 + 1, 0, none⟩)]) (encs := encI) rfl (enters_of Try.func81 (by kernel_rfl) rfl)
    (lines_x HP (fun k => k = w.heap.size + 1 + 1 ∨ k = w.heap.size + 1 + 1 + 1) (w.heap.size + 1 + 1) (w.heap.size + 1 + 1 + 1) (at_ : Int) (n : Int) W0 (by omega) (by omega) b7.cell b8.cell (by omega) (by omega)) (Below.refl _ _) (fun k hk => by omega) (fun _ => rfl)
    (fun pre W' => (W'.heap[w.heap.size]? = some (.cells #[.pointer (some ⟨b, 0, none⟩), .int .i64 (at_ : Int), .int .i64 (n : Int)] 112 (0, 0)) ∧ (Boxed W' (w.heap.size + 1) 35 (.int .i64 0) ∧ (Boxed W' (w.heap.size + 1 + 1) 3 (.int .i64 (at_ : Int)) ∧ Boxed W' (w.heap.size + 1 + 1 + 1) 3 (.int .i64 (n : Int))))) ∧ (Gr (Foot b L σ) W0 W' ∧ ∃ L', DevL W' b L' (linesG σ (pre.map Int.toNat)) ∧ (SameL L L' ∧ L'.N ≤ L.N + pre.length ∧ (∀ k, Foot b L' (linesG σ (pre.map Int.toNat)) k → Foot b L σ k ∨ w.heap.size ≤ k) ∧ ∀ af kp rest, σ.arms = (af, kp) :: rest → pre ≠ [] → σ.cnt + pre.length < af)))
    (fun c pre W' => (c = .ret ∧ Boxed W' (w.heap.size + 1) 35 (.int .i64 5)) ∧ (Gr (Foot b L σ) w W' ∧ ∃ L' σ', DevL W' b L' σ' ∧ ((L'.KB = L.KB ∧ L'.N ≤ L.N + pre.length) ∧ (∃ pr no, pre.map Int.toNat = pr ++ [no] ∧ Opd (flA (linesG σ pr) no) 5 σ') ∧ ∀ k, Foot b L' σ' k → Foot b L σ k ∨ w.heap.size ≤ k)))
    (Stab.and (Stab.and (Stab.blk _ (by omega)) (Stab.and (Stab.box _ _ (by omega)) (Stab.and (Stab.box _ _ (by omega)) (Stab.box _ _ (by omega))))) (Stab.and (stab_gr (Nat.le_refl _)) (fun s W W' hJ hs => by obtain ⟨L', h1, h2, h3⟩ := hJ; exact ⟨L', stab_dev (σ := fun _ : Unit => linesG σ (s.map Int.toNat)) (hO.same h2) (by omega) () W W' h1 hs, h2, h3⟩)))
    (fun c => Stab.and (Stab.and (Stab.pure _) (Stab.box _ _ (by omega))) (Stab.and (stab_gr (by omega)) (fun s W W' hJ hs => by obtain ⟨L', σ', h1, h2⟩ := hJ; exact ⟨L', σ', dev_sub h1 (fun k hk => by rw [h2.1.1] at hk; have := hO.kb k hk; omega) hs, h2⟩)))
    ⟨⟨b3, b6, b7, b8⟩, Gr.refl _ _, L, hd0, SameL.refl L, by simp, fun k hk => .inl hk, fun _ _ _ _ h => absurd rfl h⟩
  case hassign =>
    intro l' x W' K hK
    simp only [encI]
    gi_wp2
    exact hK
  case hbody =>
    rintro l' pre x W ⟨⟨h3, h6, h7, h8⟩, hgW, L', hdW, hsame, hNL, hfoot, _⟩ hpx
    obtain ⟨no, rfl, hno, hpl⟩ := unit_told hlen hnm hpx
    obtain ⟨k1, k2, k3, k4, k5, k6⟩ := linesG_like (pre.map Int.toNat) σ hok (by rw [List.length_map]; omega)
    rw [List.length_map] at k3
    have hsn : linesG σ ((pre ++ [(no : Int)]).map Int.toNat) = tick (flA (linesG σ (pre.map Int.toNat)) no) := by rw [List.map_append, List.map_cons, List.map_nil, linesG_snoc]; rfl
    generalize hgk : linesG σ (pre.map Int.toNat) = σk at *
    have HGK := hide hgk
    clear hgk
    rw [List.length_map] at k6
    have HCT := hide k6
    have HAR := hide k4
    have hfk : Few σk := ⟨by rw [k4]; exact hfw.one, by rw [k6]; split <;> omega⟩
    have kf := pflush_gen hdW k1 (k5.trans ho) hfk (no * 64) (by omega) (by omega) (by omega)
    rw [show no * 64 / 64 = no by omega] at kf
    have e3 : ((no * 64 : Nat) : Int) = (no : Int) * 64 := by omega
    rw [e3] at kf
    have c3 := cell8 h3 0
    have noI : (no : Int) ≤ 65536 := by omega
    have hOL := hO.same hsame
    have n3 := blk_foot hdW hOL h3 (by omega) (by unfold HP; decide)
    have n6 := box_foot hdW hOL h6 (by omega) (by unfold HP; decide)
    have n7 := box_foot hdW hOL h7 (by omega) (by unfold HP; decide)
    have n8 := box_foot hdW hOL h8 (by omega) (by unfold HP; decide)
    have KF := hide kf
    have HD := hide hdW
    have HG := hide hgW
    have HF := hide hfoot
    have HS := hide hsame
    have H3 := hide h3
    have H6 := hide h6
    have H7 := hide h7
    have H8 := hide h8
    have HSN := hide hsn
    have HOL := hide hOL
    have HNL := hide hNL
    clear kf hdW hgW hfoot hsame h3 h6 h7 h8 hsn hpx k1 k2 k3 k4 k5 k6 hNL hOL hfk
    have N6 := hide n6
    rcases Classical.em (fires (flA σk no)) with hF | hF
    · have HF0 := hide hF
      clear hF
      gi_wp2_with (refine ⟨trivial, ?_⟩; gi_at_call 40; refine (inR (KF.out)).mono ?_; rintro e W1 ⟨c, σ2, L2, rfl, ho2, hd2, hf2, hg2, hN2, hk2, hs2⟩; obtain rfl := ho2.yes HF0.out; have y6 := hg2.box H6.out N6.out; have cy6 := y6.cell; have zy6 := y6.frozen; have Y6 := hide y6; have HO2 := hide ho2; have HD2 := hide hd2; have HF2 := hide hf2; have HG2 := hide hg2; have HN2 := hide hN2; have HK2 := hide hk2; clear ho2 hd2 hf2 hg2 hN2 hk2 hs2 y6)
      have hdW := HD.out
      have hOL := HOL.out
      have g1 := HG2.out
      have h2 := HN2.out
      have h3 := HNL.out
      have h4 := HG.out.size
      have hd5 : DevL (W1.setCell ⟨w.heap.size + 1, 0, none⟩ (.int .i64 5)) b L2 σ2 := HD2.out.keep (fun k hk => heap_set_ne W1 _ 0 k _ (fun e => by
        rcases HF2.out k hk with h5 | h5
        · exact N6.out (e ▸ h5)
        · omega))
      have g0 : Gr (Foot b L σ) w W := (Gr.of_below hB0).trans HG.out (fun i h => .inl h)
      refine ⟨(g1.kp (fun k o hk hf => ⟨fun hn => by rcases hn with e | e; exact n7 (e ▸ hf); exact n8 (e ▸ hf), ?_⟩)).trans (Kp.set _ (fun h => by omega) (by omega)), ⟨rfl, Y6.out.set _⟩, (g0.trans g1 HF.out).trans (Gr.set W1 _ 0 _ (X := fun k => k = w.heap.size + 1) rfl) (fun i h => .inr (by omega)), L2, σ2, hd5, ⟨HK2.out.trans HS.out.2.2.2.2, ?_⟩, ⟨pre.map Int.toNat, no, by simp, ?_⟩, fun k hk => ?_⟩
      · rcases foot_cases hdW hOL hf with h1 | ⟨o', h1, h2⟩
        · exact .inl (by omega)
        · rw [hk] at h1; cases h1; exact .inr h2
      · rw [List.length_append, List.length_singleton]; omega
      · rw [HGK.out]; exact HO2.out
      · rcases HF2.out k hk with h5 | h5
        · exact HF.out k h5
        · exact .inr (by omega)
    · have HF0 := hide hF
      clear hF
      gi_wp2_with (refine ⟨trivial, ?_⟩; gi_at_call 40; refine (inR (KF.out)).mono ?_; rintro e W1 ⟨c, σ2, L2, rfl, ho2, hd2, hf2, hg2, hN2, hk2, hs2⟩; obtain ⟨rfl, rfl⟩ := ho2.no HF0.out; have HS2 := hide (hs2 rfl); have HD2 := hide hd2; have HF2 := hide hf2; have HG2 := hide hg2; have HN2 := hide hN2; have HK2 := hide hk2; clear ho2 hd2 hf2 hg2 hN2 hk2 hs2)
      have hdW := HD.out
      have hOL := HOL.out
      have g1 := HG2.out
      have h2 := HN2.out
      have h3 := HNL.out
      have h4 := HG.out.size
      refine ⟨g1.kp (fun k o hk hf => ⟨fun hn => by rcases hn with e | e; exact n7 (e ▸ hf); exact n8 (e ▸ hf), ?_⟩), ⟨(g1.block (lt_of_heap H3.out) n3).trans H3.out, g1.box H6.out n6, g1.box H7.out n7, g1.box H8.out n8⟩, HG.out.trans g1 (fun i hi => ?_), L2, ?_, HS.out.trans HS2.out, ?_, fun k hk => ?_, fun af kp rest e _ => ?_⟩
      · rcases foot_cases hdW hOL hf with h1 | ⟨o', h1, h2⟩
        · exact .inl (by omega)
        · rw [hk] at h1; cases h1; exact .inr h2
      · rcases HF.out i hi with h5 | h5
        · exact .inl h5
        · have q3 : i ≠ w.heap.size := fun e => n3 (e ▸ hi)
          have q6 : i ≠ w.heap.size + 1 := fun e => n6 (e ▸ hi)
          have q7 : i ≠ w.heap.size + 1 + 1 := fun e => n7 (e ▸ hi)
          have q8 : i ≠ w.heap.size + 1 + 1 + 1 := fun e => n8 (e ▸ hi)
          exact .inr (by omega)
      · rw [HSN.out]; exact HD2.out
      · rw [List.length_append, List.length_singleton]; omega
      · rw [HSN.out] at hk
        rcases HF2.out k hk with h5 | h5
        · exact HF.out k h5
        · exact .inr (by omega)
      · refine Classical.byContradiction fun hc => HF0.out ⟨af, kp, rest, HAR.out.trans e, ?_⟩
        show af ≤ σk.cnt + 1
        rw [HCT.out, if_neg (by rw [e]; simp)]
        rw [List.length_append, List.length_singleton] at hc
        omega
  case hdone =>
    rintro D W hD ⟨⟨h3, h6, h7, h8⟩, hgW, L', hdW, hsame, hNL, hfoot, hpu⟩ hK
    have hOL := hO.same hsame
    have n6 := box_foot hdW hOL h6 (by omega) (by unfold HP; decide)
    have c6 := h6.cell
    have z6 := h6.frozen
    have hl : (unitsV 64 (at_ : Int) (n : Int)).length = (linesOf at_ n).length := by unfold linesOf; rw [List.length_map]
    rw [hl] at hNL hpu
    have HPU := hide hpu
    clear hpu
    have hd' : DevL W b L' (linesG σ (linesOf at_ n)) := hdW
    have hf' : ∀ k, Foot b L' (linesG σ (linesOf at_ n)) k → Foot b L σ k ∨ w.heap.size ≤ k := hfoot
    have HD := hide hd'
    have HG := hide hgW
    have HF := hide hf'
    have HS := hide hsame
    have HK := hide hK
    have H6 := hide h6
    clear h3 h6 h7 h8 hgW hdW hsame hfoot hK hl hd' hf'
    gi_wp2
    have hne : D ≠ w.heap.size + 1 := by omega
    have hK' : (W.setCell ⟨w.heap.size + 1, 0, none⟩ (.int .i64 0)).heap[D]? = some (.deferred (some [])) := (heap_set_ne W _ 0 D _ hne).trans HK.out
    refine ⟨by simp, .inl ⟨_, _, rfl, run_takeDeferred hK', ?_⟩⟩
    have hd1 : DevL (W.setCell ⟨w.heap.size + 1, 0, none⟩ (.int .i64 0)) b L' (linesG σ (linesOf at_ n)) := HD.out.keep (fun k hk => heap_set_ne W _ 0 k _ (fun e => n6 (e ▸ hk)))
    have hgr : Gr (Foot b L σ) w ((W.setCell ⟨w.heap.size + 1, 0, none⟩ (.int .i64 0)).putObj D (.deferred none)) := by
      have g1 : Gr (Foot b L σ) w W := (Gr.of_below hB0).trans HG.out (fun i h => .inl h)
      have g2 : Gr (fun k => k = w.heap.size + 1) W (W.setCell ⟨w.heap.size + 1, 0, none⟩ (.int .i64 0)) := Gr.set W _ 0 _ rfl
      have g3 : Gr (fun k => k = D) (W.setCell ⟨w.heap.size + 1, 0, none⟩ (.int .i64 0)) ((W.setCell ⟨w.heap.size + 1, 0, none⟩ (.int .i64 0)).putObj D (.deferred none)) := Gr.of_grown (grownBy_putObj' _ D _) (fun k hk => .inl (by cases hk; rfl))
      exact (g1.trans g2 (fun i h => .inr (by omega))).trans g3 (fun i h => .inr (by omega))
    refine ⟨_, results_boxP rfl _ _ (w.heap.size + 1) _ _ rfl ((World.putObj_heap_other (Ne.symm hne)).trans (H6.out.set _)) (fun _ h => loadE h), 0, _, L', rfl, .inl ⟨rfl, rfl, fun af kp rest e h => HPU.out af kp rest e (fun e2 => h (by unfold linesOf; rw [e2]; rfl))⟩, hd1.put_ hK' _, HF.out, hgr, hNL, HS.out.2.2.2.2, fun _ => HS.out⟩
  case hstop =>
    rintro D c pre W2 hD hpre ⟨⟨rfl, h6⟩, hgW, L', σ', hdW, ⟨hkb, hNL⟩, ⟨pr, no, hpn, hop⟩, hfoot⟩ hK
    have HD := hide hdW
    have HG := hide hgW
    have HF := hide hfoot
    have HOP := hide hop
    have HPN := hide hpn
    have HPR := hide hpre
    have HNL := hide hNL
    have HKB := hide hkb
    have H6 := hide h6
    clear h6 hgW hdW hfoot hop hpn hpre hNL hkb
    gi_wp2
    have hne : D ≠ w.heap.size + 1 := by omega
    refine ⟨by simp, .inl ⟨_, _, rfl, run_takeDeferred hK, ?_⟩⟩
    have hgr : Gr (Foot b L σ) w (W2.putObj D (.deferred none)) := HG.out.trans (Gr.of_grown (X := fun k => k = D) (grownBy_putObj' _ D _) (fun k hk => .inl (by cases hk; rfl))) (fun i h => .inr (by omega))
    have hpl := HPR.out.length_le
    have hl : (unitsV 64 (at_ : Int) (n : Int)).length = (linesOf at_ n).length := by unfold linesOf; rw [List.length_map]
    have h9 := HNL.out
    refine ⟨_, results_boxP rfl _ _ (w.heap.size + 1) _ _ rfl ((World.putObj_heap_other (Ne.symm hne)).trans H6.out) (fun _ h => loadE h), 5, σ', L', rfl, .inr ⟨rfl, pr, no, ?_, HOP.out⟩, HD.out.put_ hK _, HF.out, hgr, by omega, HKB.out, fun h => by cases h⟩
    have := HPR.out.map Int.toNat
    rw [HPN.out] at this
    exact this
end Go.Proofs.Ytgfgihpkbbjkfaa
namespace Go.Proofs.Ytgfgihpkbbjkfaa
open Go.RowKit Go.Shelf
set_option linter.unusedVariables false

/-- A fence is made; the operation is not yet counted. -/
def fnA (σ : St) : St := { fenceDo σ with ops := σ.ops }
theorem fnA_ok {σ : St} (h : σ.Ok) : (fnA σ).Ok := by
  have hp : ∀ i, ∃ k, (fnA σ).past i = (σ.past i).drop k := fun i => by
    show ∃ k, fenP σ false i = _
    unfold fenP
    cases h1 : σ.fl i with
    | none => exact ⟨0, by simp⟩
    | some p => exact ⟨p, by simp⟩
  refine ⟨h.pos, h.max, h.len, h.byte, fun i hi => ?_, fun i c hc => ?_, fun i c hc => ?_, fun i => ?_, fun i k hk => (by cases hk), h.opsm⟩
  · obtain ⟨k, hk⟩ := hp i
    rw [hk, h.out i hi]; simp
  · obtain ⟨k, hk⟩ := hp i
    rw [hk] at hc
    exact h.clen i c (List.mem_of_mem_drop hc)
  · obtain ⟨k, hk⟩ := hp i
    rw [hk] at hc
    exact h.cbyte i c (List.mem_of_mem_drop hc)
  · obtain ⟨k, hk⟩ := hp i
    rw [hk, List.length_drop]
    have := h.few i
    show _ ≤ σ.ops
    omega
section
variable {w : World} {b : Nat} {L : Lay} {σ : St}
set_option maxRecDepth 100000 in
set_option maxHeartbeats 1000000 in
theorem pfence_gen (h : DevL w b L σ) (hok : σ.Ok) (ho : σ.off = false) (hfw : Few σ) (hops : σ.ops < 1400000000000) : Calls Try.prog 41 #[.pointer (some ⟨b, 0, none⟩)] w fun e w' =>
    ∃ c σ' L', e = .returned (.int .i64 c) ∧ Opd (fnA σ) c σ' ∧ DevL w' b L' σ' ∧ (∀ k, Foot b L' σ' k → Foot b L σ k ∨ w.heap.size ≤ k) ∧ Gr (Foot b L σ) w w' ∧ L'.N ≤ L.N ∧ L'.KB = L.KB := by
  have ks := pstate_any h
  rw [ho] at ks
  simp only [Bool.false_eq_true, if_false] at ks
  have c3 := h.c3
  have KS := hide ks
  have HD := hide h
  have HOK := hide hok
  have HFW := hide hfw
  have HOPS := hide hops
  clear h hok ks hfw ho hops
  go_enter Try.func41, Try.ntmps41
  go_wp2_with (first | (go_at_call 37; refine (KS.out).mono ?_; rintro e w' ⟨rfl, hw⟩; obtain rfl := hw.symm) | (at_range; refine wpList_range_num rfl (.tmp 15) rfl L.fb L.N (flF σ) (by kernel_rfl) HD.out.flm ?_; intro W0 hrg0 hg0 hs0; have HRG0 := hide hrg0; have HG0 := hide hg0; have HS0 := hide hs0; clear hrg0 hg0 hs0))
  go_frame
  go_loopw [] (fun wr => ∃ left L', FenR w b L σ w.heap.size wr left L') (fun wr => wr.rangeLeft L.fb w.heap.size)
  case atStart =>
    refine ⟨fun x => (flF σ x).isSome, L, ⟨HRG0.out, ?_, SameL.refl L, rfl, fun k hk => .inl (by rw [fenL_start] at hk; exact hk), Gr.of_grown HG0.out (fun k hk => by cases hk)⟩⟩
    rw [fenL_start]
    exact HD.out.keep fun k hk => HG0.out.block k (by rcases foot_obj2 HD.out hk with ⟨c, t, f, e1⟩ | ⟨c, t, e1⟩ <;> exact lt_of_heap e1) (by simp)
  case round =>
    obtain ⟨left, L', hF⟩ := hrel
    have HF := hide hF
    clear hF
    go_wp2_with (at_next; refine wpList_next_g numL rfl (.tmp 16) rfl L.fb w.heap.size L.N (flF σ) left (by kernel_rfl) HF.out.ran ?_ ?_)
    · intro hl0
      have hne := HF.out.dev
      have hha := (((Below.refl _ wr).alloc (Nat.le_refl _) (.map #[] 0)).block b (lt_of_heap hne.dev)).trans hne.dev
      have c3r : (wr.alloc (.map #[] 0)).cell? ⟨b, 3, none⟩ = some (.map (some L'.fb)) := cell8 hha 3
      have hfz := froz8 hha 3
      have hfa : ({ fenL σ left with fl := fun _ => none } : St) = fnA σ := congrArg (fun s : St => { s with ops := σ.ops }) (fenL_none σ left hl0)
      have hd9 := dev_newfl HF.out.dev
      have hft9 : ∀ k, Foot b { L' with fb := wr.heap.size } (fnA σ) k → Foot b L' (fenL σ left) k ∨ wr.heap.size ≤ k := fun k hk => by
        rw [← hfa] at hk
        rcases hk with h | h | h | h | h | h | h
        · exact .inl (.inl h)
        · exact .inl (.inr (.inl h))
        · exact .inl (.inr (.inr (.inl h)))
        · exact .inr (by rw [h]; exact Nat.le_refl _)
        · exact .inl (.inr (.inr (.inr (.inr (.inl h)))))
        · exact .inl (.inr (.inr (.inr (.inr (.inr (.inl h))))))
        · exact .inl (.inr (.inr (.inr (.inr (.inr (.inr h))))))
      rw [hfa] at hd9
      have ko := poper_gen hd9 (fence_ok (σ := σ) HOK.out HOPS.out) ⟨HFW.out.one, HFW.out.cnt⟩ HOPS.out
      have HFT := hide hft9
      have hmk : (Instr.makeMap 67 none).run Try.prog wr = .ok (.map (some wr.heap.size)) (wr.alloc (.map #[] 0)) := rfl
      have KO := hide ko
      have HL0 := hide hl0
      clear ko hl0 hne c3 hha hfa hd9 hft9
      go_wp2_with (go_at_call 62; refine (KO.out).mono ?_; rintro e w' ⟨c, σ', L9, rfl, hr⟩; have HR := hide hr; clear hr)
      go_ret
      obtain ⟨r1, r2, r3, r4, r5⟩ := HR.out
      have g1 : Gr (Foot b L σ) w ((wr.alloc (.map #[] 0)).setCell ⟨b, 3, none⟩ (.map (some wr.heap.size))) := (HF.out.gr.trans (Gr.of_below ((Below.refl _ wr).alloc (Nat.le_refl _) _) : Gr (Foot b L σ) wr (wr.alloc (.map #[] 0))) (fun i h => .inl h)).trans (Gr.set _ b 3 _ (X := fun k => k = b) rfl) (fun i h => .inl (.inl h))
      have hfo : ∀ k, Foot b { L' with fb := wr.heap.size } (fnA σ) k → Foot b L σ k ∨ w.heap.size ≤ k := fun k hk => (HFT.out k hk).elim (HF.out.foot k) (fun h => .inr (Nat.le_trans HF.out.gr.size h))
      exact ⟨c, σ', L9, rfl, r1, r2, fun k hk => (r3 k hk).elim (hfo k) (fun h => .inr (Nat.le_trans g1.size h)), g1.trans r4 hfo, Nat.le_trans r5.1 (Nat.le_of_eq HF.out.num), r5.2.1.trans HF.out.same.2.2.2.2⟩
    · intro x p w1 hwx hfx hlx hrg1 hlt hg1 hs1 hen
      obtain ⟨hD1, hG1⟩ := HF.out.next hg1 (Nat.le_refl _)
      obtain ⟨i, rfl, hfi⟩ : ∃ i : Nat, x = (i : Int) ∧ σ.fl i = some p := by
        unfold flF at hfx
        split at hfx
        · exact ⟨x.toNat, by omega, hfx⟩
        · cases hfx
      obtain ⟨hpl, hpi⟩ := HOK.out.flp i p hfi
      obtain ⟨hst, hpa⟩ := fenL_step σ left i p hfi hlx
      have hpi' : (fenL σ left).past i ≠ [] := by rw [hpa]; exact hpi
      have hof : oldF L' (fenL σ left) (i : Int) = some (L'.pb i) := by unfold oldF; rw [if_pos ⟨by omega, by simpa using hpi'⟩]; simp
      have hP := hD1.pasts i hpi'
      rw [hpa] at hP
      have hfew := HOK.out.few i
      have hopm := HOK.out.opsm
      have kd := pdrop_any (L'.pb i) p (L'.rv i) (σ.past i) w1 hP hpl hpi (by omega)
      have c2 := hD1.c2
      have hbp : b ≠ L'.pb i := ne_ty hD1.dev hP.1 (by decide)
      obtain ⟨eo, qo, hob⟩ := hD1.old.block
      have hop : L'.ob ≠ L'.pb i := fun e => ne_map hP.1 hob e.symm
      have KD := hide kd
      have HD1 := hide hD1
      have HG1 := hide hG1
      have HRG1 := hide hrg1
      have HFI := hide hfi
      have HLX := hide hlx
      have HPI := hide hpi
      have HPI2 := hide hpi'
      have HOF := hide hof
      have HBP := hide hbp
      have HOP := hide hop
      have HOB := hide hob
      have HLT := hide hlt
      have HFX := hide hfx
      have hpI : (p : Int) ≤ 1400000000000 := by omega
      clear kd hD1 hG1 hrg1 hfi hlx hpi hpi' hof hbp hop hob hlt hg1 hs1 hst hpa hP hfew hopm hpl hfx c3
      by_cases hz : (σ.past i).drop p = []
      · have HZ := hide hz
        clear hz
        go_wp2_with (first | (at_lookup; refine wpList_look_ptr' rfl (.tmp 25) (.tmp 26) rfl L'.ob L'.N (oldF L' (fenL σ left)) (by kernel_rfl) HD1.out.old (i : Int) (by simp [Act.eval]) hwx (L'.pb i) HOF.out ?_) | (go_at_call 63; refine (KD.out).mono ?_; rintro e W2 ⟨rfl, v', hp2, hv2, hg2⟩; have cz : W2.cell? ⟨L'.pb i, 1, none⟩ = some (.int .i64 0) := (by have h5 := cell8 hp2.1 1; rw [HZ.out] at h5; exact h5); have cb : W2.cell? ⟨b, 2, none⟩ = some (.map (some L'.ob)) := cell8 ((hg2.block (lt_of_heap HD1.out.dev) HBP.out).trans HD1.out.dev) 2; have hm2 := HD1.out.old.of_block (hg2.block (lt_of_heap HOB.out) HOP.out); have HP2 := hide hp2; have HV2 := hide hv2; have HG2 := hide hg2; have HM2 := hide hm2; clear hp2 hv2 hg2 hm2) | (at_delete; refine wpList_del_ptr rfl (.tmp 39) (.tmp 40) rfl L'.ob L'.N (oldF L' (fenL σ left)) (by kernel_rfl) HM2.out (i : Int) (by simp [Act.eval]) hwx ?_; intro W3 hm3 hg3; go_frame; have HM3 := hide hm3; have HG3 := hide hg3; clear hm3 hg3))
        go_roundw
        case rel =>
          have hB := HG3.out
          exact ⟨_, _, (FenR.step (v' := v') HD1.out HF.out.same HF.out.num HF.out.foot HG1.out HFI.out HLX.out HPI.out HRG1.out (HG2.out.mono (fun k h => .inl h) |>.trans (Gr.of_grown (X := fun k => k = L'.pb i ∨ k = L'.ob) hB (fun k hk => by cases hk; exact .inl (.inr rfl))) (fun i h => .inl h)) (by rw [HZ.out]; exact HM3.out.congr (fun x => old_less x)) (fun h => absurd HZ.out h) HV2.out).1⟩
        case measure =>
          have hB := HG3.out
          have h9 := (FenR.step (v' := v') HD1.out HF.out.same HF.out.num HF.out.foot HG1.out HFI.out HLX.out HPI.out HRG1.out (HG2.out.mono (fun k h => .inl h) |>.trans (Gr.of_grown (X := fun k => k = L'.pb i ∨ k = L'.ob) hB (fun k hk => by cases hk; exact .inl (.inr rfl))) (fun i h => .inl h)) (by rw [HZ.out]; exact HM3.out.congr (fun x => old_less x)) (fun h => absurd HZ.out h) HV2.out).2
          rw [h9]
          exact HLT.out
      · obtain ⟨q, hq⟩ : ∃ q, q = ((σ.past i).drop p).length := ⟨_, rfl⟩
        have hz2 : (0 : Int) < (q : Int) := by
          have := List.length_pos_iff.2 hz
          omega
        have HZ := hide hz
        have HQ := hide hq
        clear hz hq
        go_wp2_with (first | (at_lookup; refine wpList_look_ptr' rfl (.tmp 25) (.tmp 26) rfl L'.ob L'.N (oldF L' (fenL σ left)) (by kernel_rfl) HD1.out.old (i : Int) (by simp [Act.eval]) hwx (L'.pb i) HOF.out ?_) | (go_at_call 63; refine (KD.out).mono ?_; rintro e W2 ⟨rfl, v', hp2, hv2, hg2⟩; have cz : W2.cell? ⟨L'.pb i, 1, none⟩ = some (.int .i64 (q : Int)) := (by have h5 := cell8 hp2.1 1; rw [← HQ.out] at h5; exact h5); have hm2 := HD1.out.old.of_block (hg2.block (lt_of_heap HOB.out) HOP.out); have HP2 := hide hp2; have HV2 := hide hv2; have HG2 := hide hg2; have HM2 := hide hm2; clear hp2 hv2 hg2 hm2))
        go_roundw
        case rel => exact ⟨_, _, (FenR.step (v' := v') HD1.out HF.out.same HF.out.num HF.out.foot HG1.out HFI.out HLX.out HPI.out HRG1.out (HG2.out.mono (fun k h => .inl h)) (HM2.out.congr (fun x => old_same HPI2.out HZ.out x)) (fun _ => HP2.out) HV2.out).1⟩
        case measure =>
          have h9 := (FenR.step (v' := v') HD1.out HF.out.same HF.out.num HF.out.foot HG1.out HFI.out HLX.out HPI.out HRG1.out (HG2.out.mono (fun k h => .inl h)) (HM2.out.congr (fun x => old_same HPI2.out HZ.out x)) (fun _ => HP2.out) HV2.out).2
          rw [h9]
          exact HLT.out
end
end Go.Proofs.Ytgfgihpkbbjkfaa
namespace Go.Proofs.Ytgfgihpkbbjkfaa
open Go.RowKit Go.Shelf
set_option linter.unusedVariables false

/-- What Publish leaves, and what it answers. -/
def PubD (v at_ : Nat) (σ : St) (c : Int) (σ' : St) : Prop :=
  (c = 5 ∧ WrD (leB 8 v) at_ σ (wordsOf at_ 8) 5 σ') ∨ ∃ s1, WrD (leB 8 v) at_ σ (wordsOf at_ 8) 0 s1 ∧ ((c = 5 ∧ FlD s1 (linesOf at_ 8) 5 σ') ∨ ∃ s2, FlD s1 (linesOf at_ 8) 0 s2 ∧ Opd (fnA s2) c σ')
def pubS (v at_ : Nat) (σ : St) (j : Nat) (s : St) : Prop :=
  if j = 0 then s = σ else if j = 1 then WrD (leB 8 v) at_ σ (wordsOf at_ 8) 0 s else if j = 2 then ∃ s1, WrD (leB 8 v) at_ σ (wordsOf at_ 8) 0 s1 ∧ FlD s1 (linesOf at_ 8) 0 s else PubD v at_ σ 0 s
theorem WrD.zero {bs : List Nat} {at_ : Nat} {σ σ' : St} {nos : List Nat} (h : WrD bs at_ σ nos 0 σ') : σ' = writeG bs at_ σ nos ∧ ∀ af kp rest, σ.arms = (af, kp) :: rest → nos ≠ [] → σ.cnt + nos.length < af := by
  rcases h with ⟨_, h1, h2⟩ | ⟨h, _⟩
  · exact ⟨h1, h2⟩
  · cases h
theorem FlD.zero {σ σ' : St} {ls : List Nat} (h : FlD σ ls 0 σ') : σ' = linesG σ ls ∧ ∀ af kp rest, σ.arms = (af, kp) :: rest → ls ≠ [] → σ.cnt + ls.length < af := by
  rcases h with ⟨_, h1, h2⟩ | ⟨h, _⟩
  · exact ⟨h1, h2⟩
  · cases h
theorem WrD.five {bs : List Nat} {at_ : Nat} {σ σ' : St} {nos : List Nat} {c : Int} (h : WrD bs at_ σ nos c σ') (hc : c ≠ 0) : c = 5 := by
  rcases h with ⟨h, _⟩ | ⟨h, _⟩
  · exact absurd h hc
  · exact h
theorem FlD.five {σ σ' : St} {ls : List Nat} {c : Int} (h : FlD σ ls c σ') (hc : c ≠ 0) : c = 5 := by
  rcases h with ⟨h, _⟩ | ⟨h, _⟩
  · exact absurd h hc
  · exact h
section
variable {w : World} {b : Nat} {L : Lay} {σ : St}
theorem Atd.more {W0 W : World} {σ' : St} {m m2 : Nat} (h : Atd W0 b L σ W σ' m) (hm : m ≤ m2) : Atd W0 b L σ W σ' m2 := by
  obtain ⟨h1, L', h2, h3, h4⟩ := h
  exact ⟨h1, L', h2, h3, by omega⟩
theorem qwstoreG (v at_ : Nat) (h : DevL w b L σ) (hok : σ.Ok) (ho : σ.off = false) (hN : L.N ≤ σ.ops + 100000000000) (hfw : Few σ) (hcn : σ.cnt + 600000 ≤ 1400000000000) (hops : σ.ops + 600000 ≤ 1400000000000) (hat : at_ % 8 = 0) (hlen : at_ + 8 ≤ 64 * σ.n) (hv : v < 18446744073709551616) :
    Calls Try.prog 76 #[.agg #[.pointer (some ⟨b, 0, none⟩), .int .i64 (at_ : Int), .int .i64 8, .int .u64 (v : Int)]] w fun e w' => ∃ c σ' L', e = .returned (.int .i64 c) ∧ WrD (leB 8 v) at_ σ (wordsOf at_ 8) c σ' ∧ DevL w' b L' σ' ∧ (∀ k, Foot b L' σ' k → Foot b L σ k ∨ w.heap.size ≤ k) ∧ Gr (Foot b L σ) w w' ∧ L'.N ≤ L.N + (wordsOf at_ 8).length := by
  have hA : Below w.heap.size w (w.alloc (.cells #[.pointer (some ⟨b, 0, none⟩), .int .i64 (at_ : Int), .int .i64 8, .int .u64 (v : Int)] 138)) := (Below.refl _ w).alloc (Nat.le_refl _) _
  have ks := pst8_gen (at_ := at_) v (h.below hA) hok ho hN hfw hcn hops hat hlen hv
  have KS := hide ks
  have HA := hide hA
  clear h hok ho hN hfw hcn hops hlen ks hA hat hv
  go_enter Try.func76, Try.ntmps76
  go_wp2_with (go_at_call 88; refine (KS.out).mono ?_; rintro e W1 ⟨c, s5, L5, rfl, hr⟩; have HR := hide hr; clear hr)
  go_ret
  obtain ⟨h0, h1, h2, h3, h4, _⟩ := HR.out
  exact ⟨c, s5, L5, rfl, h0, h1, fun k hk => (h2 k hk).imp id (fun h => Nat.le_trans HA.out.size h), (Gr.of_below HA.out).trans h3 (fun i h => .inl h), h4⟩
set_option maxRecDepth 100000 in
set_option maxHeartbeats 400000 in
theorem qpubG_turn (v at_ rb : Nat) (W0 : World) (hB0 : Below w.heap.size w W0) (h : DevL w b L σ) (hok : σ.Ok) (ho : σ.off = false) (hN : L.N ≤ σ.ops + 100000000000) (hfw : Few σ) (hcn : σ.cnt + 2000000 ≤ 1400000000000) (hops : σ.ops + 2000000 ≤ 1400000000000) (hv : v < 18446744073709551616) (hat : at_ % 8 = 0) (hlen : at_ + 8 ≤ 64 * σ.n)
    (hrb : w.heap.size ≤ rb) (hrow : W0.heap[rb]? = some (.cells #[.func (.func (wbF 0)) (wbA b at_ v 0) #[], .func (.func (wbF 1)) (wbA b at_ v 1) #[], .func (.func (wbF 2)) (wbA b at_ v 2) #[]] 136 (0, 0))) :
    Calls Try.prog 57 #[.agg #[.pointer (some ⟨b, 0, none⟩), .int .i64 (at_ : Int), .int .i64 8], .slice (some ⟨rb, 0, none⟩) 3 3] W0 fun e w' => ∃ c s, e = .returned (.int .i64 c) ∧ PubD v at_ σ c s ∧ Atd W0 b L σ w' s ((wordsOf at_ 8).length + (linesOf at_ 8).length) := by
  have hm := hok.max
  have hlen2 : at_ + 8 ≤ 4194304 := by omega
  have hwl := wordsOf_len hlen2
  have hll := linesOf_len hlen2
  have hlk := writeG_like (at_ := at_) (leB_lt 8 v) (wordsOf at_ 8) σ hok (wordsOf_lt hlen hm) (by omega)
  obtain ⟨j1, j2, j3, j4, j5, j6⟩ := linesG_like (linesOf at_ 8) (writeG (leB 8 v) at_ σ (wordsOf at_ 8)) hlk.ok (by rw [hlk.ops]; omega)
  rw [hlk.ops] at j3
  have hc1 : (writeG (leB 8 v) at_ σ (wordsOf at_ 8)).cnt ≤ σ.cnt + 600000 := by rw [hlk.cnt]; split <;> omega
  have hf1 : Few (writeG (leB 8 v) at_ σ (wordsOf at_ 8)) := ⟨by rw [hlk.arms]; exact hfw.one, by omega⟩
  have hf2 : Few (linesG (writeG (leB 8 v) at_ σ (wordsOf at_ 8)) (linesOf at_ 8)) := ⟨by rw [j4, hlk.arms]; exact hfw.one, by rw [j6]; split <;> omega⟩
  have hd0 := h.below hB0
  have hnf : ¬ Foot b L σ rb := fun hf => by have := h.foot_is hf; omega
  have hrl := lt_of_heap hrow
  refine (qturn_gen hd0 hok ho at_ 8 (by omega) hlen rb 3 wbF (wbA b at_ v) (fun j W => ∃ s, pubS v at_ σ j s ∧ Atd W0 b L σ W s (wbM at_ 8 j)) (fun c W => ∃ s, PubD v at_ σ c s ∧ Atd W0 b L σ W s ((wordsOf at_ 8).length + (linesOf at_ 8).length)) (fun j hj => ?_) (by omega) (fun j W hP i hi => ?_) (fun j hj W hP => ?_) (fun W hB => ⟨σ, rfl, Atd.start hd0 hB⟩) (fun W hP => hP)).mono ?_
  · obtain rfl | rfl | rfl := three hj
    · exact enters_of Try.func76 (by kernel_rfl) rfl
    · exact enters_of Try.func58 (by kernel_rfl) rfl
    · exact enters_of Try.func41 (by kernel_rfl) rfl
  · obtain ⟨s, _, hP⟩ := hP
    have hr := (hP.1.block hrl hnf).trans hrow
    obtain rfl | rfl | rfl := three hi
    · exact cell8 hr 0
    · exact cell8 hr 1
    · exact cell8 hr 2
  · obtain ⟨s, hs, hg, L', hd, hf, hN'⟩ := hP
    obtain rfl | rfl | rfl := three hj
    · obtain rfl : s = σ := hs
      have hN0 : L'.N ≤ L.N + 0 := hN'
      refine (qwstoreG v at_ hd hok ho (by omega) hfw (by omega) (by omega) hat hlen hv).mono ?_
      rintro e W' ⟨c, s1, L2, rfl, h0, h1, h2, h3, h4⟩
      have h5 := Atd.go hg hf hN0 h1 h2 h3 h4
      exact ⟨c, rfl, fun e0 => ⟨s1, by subst e0; exact h0, h5.more (show 0 + _ ≤ (wordsOf at_ 8).length by omega)⟩, fun e0 => ⟨s1, .inl ⟨h0.five e0, by rw [← h0.five e0]; exact h0⟩, h5.more (by omega)⟩⟩
    · have hs1 : WrD (leB 8 v) at_ σ (wordsOf at_ 8) 0 s := hs
      obtain ⟨e1, _⟩ := hs1.zero
      have hN2 : L'.N ≤ L.N + (wordsOf at_ 8).length := hN'
      rw [e1] at hd hf
      refine (callsIn_wide.1 (qflushG_in (at_ := at_) (n := 8) hd hlk.ok (hlk.off.trans ho) (by rw [hlk.ops]; omega) hf1 (by omega) (by rw [hlk.n]; exact hlen) (by rw [hlk.ops]; omega))).mono ?_
      rintro e W' ⟨c, s2, L2, rfl, h0, h1, h2, h3, h4, _⟩
      rw [← e1] at h0
      have h5 := Atd.go hg hf hN2 h1 h2 h3 h4
      exact ⟨c, rfl, fun e0 => ⟨s2, ⟨s, hs1, by subst e0; exact h0⟩, h5⟩, fun e0 => ⟨s2, .inr ⟨s, hs1, .inl ⟨h0.five e0, by rw [← h0.five e0]; exact h0⟩⟩, h5⟩⟩
    · obtain ⟨s1, hs1, hs2⟩ : ∃ s1, WrD (leB 8 v) at_ σ (wordsOf at_ 8) 0 s1 ∧ FlD s1 (linesOf at_ 8) 0 s := hs
      obtain ⟨e1, _⟩ := hs1.zero
      obtain ⟨e2, _⟩ := hs2.zero
      have hN2 : L'.N ≤ L.N + ((wordsOf at_ 8).length + (linesOf at_ 8).length) := hN'
      rw [e2, e1] at hd hf
      refine (pfence_gen hd j1 (j5.trans (hlk.off.trans ho)) hf2 (by rw [j3]; omega)).mono ?_
      rintro e W' ⟨c, s3, L2, rfl, h0, h1, h2, h3, h4, _⟩
      rw [← e1, ← e2] at h0
      have h5 := Atd.go (m2 := 0) hg hf hN2 h1 h2 h3 (by omega)
      have hp : PubD v at_ σ c s3 := .inr ⟨s1, hs1, .inr ⟨s, hs2, h0⟩⟩
      exact ⟨c, rfl, fun e0 => ⟨s3, by subst e0; exact hp, h5⟩, fun e0 => ⟨s3, hp, h5⟩⟩
  · rintro e w' ⟨c, rfl, s, hA⟩
    exact ⟨c, s, rfl, hA⟩
set_option maxRecDepth 100000 in
set_option maxHeartbeats 400000 in
theorem qpubG_any (v at_ : Nat) (h : DevL w b L σ) (hok : σ.Ok) (ho : σ.off = false) (hN : L.N ≤ σ.ops + 100000000000) (hfw : Few σ) (hcn : σ.cnt + 2000000 ≤ 1400000000000) (hops : σ.ops + 2000000 ≤ 1400000000000) (hv : v < 18446744073709551616) (hat : at_ % 8 = 0) (hlen : at_ + 8 ≤ 64 * σ.n) :
    Calls Try.prog 59 #[.pointer (some ⟨b, 0, none⟩), .int .i64 (at_ : Int), .int .u64 (v : Int)] w fun e w' => ∃ c s, e = .returned (.int .i64 c) ∧ PubD v at_ σ c s ∧ Atd w b L σ w' s ((wordsOf at_ 8).length + (linesOf at_ 8).length) := by
  obtain ⟨W0, hW0⟩ : ∃ W0, (w.alloc (.cells #[.pointer (some ⟨b, 0, none⟩), .int .i64 (at_ : Int), .int .i64 8] 112)).alloc (.cells #[.func (.func 76) #[.agg #[.pointer (some ⟨b, 0, none⟩), .int .i64 (at_ : Int), .int .i64 8, .int .u64 (v : Int)]] #[], .func (.func 58) #[.agg #[.pointer (some ⟨b, 0, none⟩), .int .i64 (at_ : Int), .int .i64 8]] #[], .func (.func 41) #[.pointer (some ⟨b, 0, none⟩)] #[]] 136) = W0 := ⟨_, rfl⟩
  have hB0 : Below w.heap.size w W0 := by rw [← hW0]; exact ((Below.refl _ w).alloc (Nat.le_refl _) _).alloc (by simp) _
  have hrow : W0.heap[w.heap.size + 1]? = some (.cells #[.func (.func (wbF 0)) (wbA b at_ v 0) #[], .func (.func (wbF 1)) (wbA b at_ v 1) #[], .func (.func (wbF 2)) (wbA b at_ v 2) #[]] 136 (0, 0)) := by
    rw [← hW0]
    have := heap_alloc_new (w.alloc (.cells #[.pointer (some ⟨b, 0, none⟩), .int .i64 (at_ : Int), .int .i64 8] 112)) (.cells #[.func (.func 76) #[.agg #[.pointer (some ⟨b, 0, none⟩), .int .i64 (at_ : Int), .int .i64 8, .int .u64 (v : Int)]] #[], .func (.func 58) #[.agg #[.pointer (some ⟨b, 0, none⟩), .int .i64 (at_ : Int), .int .i64 8]] #[], .func (.func 41) #[.pointer (some ⟨b, 0, none⟩)] #[]] 136)
    rw [World.size_alloc] at this
    exact this
  have kt := qpubG_turn v at_ (w.heap.size + 1) W0 hB0 h hok ho hN hfw hcn hops hv hat hlen (by omega) hrow
  rw [← hW0] at kt
  have KT := hide kt
  have HB0 := hide hB0
  have HW0 := hide hW0
  clear h hok ho hN hfw hcn hops hlen kt hB0 hrow hW0 hat hv
  go_enter Try.func59, Try.ntmps59
  go_wp2_with (go_at_call 57; refine (KT.out).mono ?_; rintro e W1 ⟨c, s, rfl, hp, hA⟩; have HAT := hide hA; have HP := hide hp; clear hA hp)
  go_ret
  refine ⟨c, s, rfl, HP.out, ?_⟩
  have h5 := HAT.out
  rw [HW0.out] at h5
  exact h5.base HB0.out
end
end Go.Proofs.Ytgfgihpkbbjkfaa
