/- slices.Delete, of a list with one loss of power. -/
import Derived.Test.YtadmekikdaocoaaPLos
import Derived.ArgAppend
namespace Go.Proofs.Ytadmekikdaocoaa
open Go.RowKit Go.Shelf
set_option linter.unusedVariables false

theorem infoArm : ∃ i, Try.prog.info? 54 = some i ∧ i.zero = some (.agg #[.int .i64 0, .slice none 0 0]) ∧ i.size = 2 := by
  have h : (Try.prog.info? 54).map (fun i => (i.zero, i.size)) = some (some (.agg #[.int .i64 0, .slice none 0 0]), 2) := by kernel_rfl
  obtain ⟨i, h1, h2⟩ := Option.map_eq_some_iff.1 h
  simp only [Prod.mk.injEq] at h2
  exact ⟨i, h1, h2.1, h2.2⟩
theorem armSlice : Try.prog.underlying 24 = some (.slice 54) := by kernel_rfl
theorem cut_front (g cap : Nat) (w : World) : (Instr.sliceAt 24 (.slice (some ⟨g, 0, none⟩) 1 cap) none (some (.int .i64 0)) none).run Try.prog w = .ok (.slice (some ⟨g, 0, none⟩) 0 cap) w := by
  obtain ⟨i, h1, h2, h3⟩ := infoArm
  simp [Instr.sliceAt, Instr.slice, Sem.run_bind, run_underlying armSlice, Instr.sliceBounds, Instr.sliceBound, asIntOf, sizeOf, typeInfo, h1, Addr.add_mid]
theorem cut_back (g cap : Nat) (hc : 1 ≤ cap) : ∃ ad : Addr, ∀ w : World, (Instr.sliceAt 24 (.slice (some ⟨g, 0, none⟩) 1 cap) (some (.int .i64 1)) none none).run Try.prog w = .ok (.slice (some ad) 0 (cap - 1)) w := by
  obtain ⟨i, h1, h2, h3⟩ := infoArm
  by_cases h : cap = 1
  · subst h
    refine ⟨⟨g, 0, none⟩, fun w => ?_⟩
    simp [Instr.sliceAt, Instr.slice, Sem.run_bind, run_underlying armSlice, Instr.sliceBounds, Instr.sliceBound, asIntOf, sizeOf, typeInfo, h1, Addr.add_mid]
  · refine ⟨⟨g, 2, none⟩, fun w => ?_⟩
    simp [Instr.sliceAt, Instr.slice, Sem.run_bind, run_underlying armSlice, Instr.sliceBounds, Instr.sliceBound, asIntOf, sizeOf, typeInfo, h1, h3, Addr.add_mid, h]
theorem app_none (g cap : Nat) (ad : Addr) (ty : TypeId) (w : World) : (Builtin.append_ #[24, 24] ty #[.slice (some ⟨g, 0, none⟩) 0 cap, .slice (some ad) 0 (cap - 1)]).run Try.prog w = .ok (.slice (some ⟨g, 0, none⟩) 0 cap) w := by
  obtain ⟨i, h1, h2, h3⟩ := infoArm
  have h := run_append_room_cells (P := Try.prog) w 24 ty 54 i armSlice h1 g 0 0 cap ad 0 (cap - 1) [] (by simp) (by simp) (by simp) (by omega) (by simp) (by simp)
  exact h
theorem clear_one (g cap : Nat) (ty : TypeId) (w : World) (cur : Array Value) (hg : w.heap[g]? = some (.cells cur 54 (0, 0))) (hs : 2 ≤ cur.size) : (Builtin.clear_ #[24] ty #[.slice (some ⟨g, 0, none⟩) 1 cap]).run Try.prog w = .ok (.tuple #[]) (w.setCells g 0 [.int .i64 0, .slice none 0 0]) := by
  obtain ⟨i, h1, h2, h3⟩ := infoArm
  have hz : ∀ w : World, (zeroValue 54).run Try.prog w = .ok (.agg #[.int .i64 0, .slice none 0 0]) w := fun w => by simp [zeroValue, typeInfo, h1, h2]
  have hst := run_storeCells_cells (P := Try.prog) g 0 [.int .i64 0, .slice none 0 0] 0 w (fun j hj => by rw [Nat.zero_add, cell8 hg, Array.getElem?_eq_getElem (by simp at hj; omega)]; rfl) (fun j hj => froz8 hg _) (by simp [Value.oneCell'])
  have e : (Builtin.zeroCells (Value.agg #[Value.int .i64 0, Value.slice none 0 0]).cells 1).toList = [Value.int .i64 0, Value.slice none 0 0] := by kernel_rfl
  have hst' : (storeCells ⟨g, 0, none⟩ [Value.int .i64 0, Value.slice none 0 0]).run Try.prog w = .ok () (w.setCells g 0 [.int .i64 0, .slice none 0 0]) := by simpa using hst
  simp [Builtin.clear_, run_underlying armSlice, hz, e, hst']
set_option maxHeartbeats 400000 in
theorem pdel_one (w : World) (g cap : Nat) (cur : Array Value) (hg : w.heap[g]? = some (.cells cur 54 (0, 0))) (hc : 1 ≤ cap) (hs : 2 ≤ cur.size) :
    Calls Try.prog 79 #[.slice (some ⟨g, 0, none⟩) 1 cap, .int .i64 0, .int .i64 1] w fun e w' => e = .returned (.slice (some ⟨g, 0, none⟩) 0 cap) ∧ Gr (fun k => k = g) w w' ∧ ∃ cur' : Array Value, w'.heap[g]? = some (.cells cur' 54 (0, 0)) ∧ cur'.size = cur.size := by
  obtain ⟨ad, e2⟩ := cut_back g cap hc
  have e1 := fun W => cut_front g cap W
  have e3 := fun W => app_none g cap ad 24 W
  have e4 := clear_one g cap 0 w.drew cur hg hs
  have fin : Gr (fun k => k = g) w (w.drew.setCells g 0 [.int .i64 0, .slice none 0 0]) ∧ ∃ cur' : Array Value, (w.drew.setCells g 0 [.int .i64 0, .slice none 0 0]).heap[g]? = some (.cells cur' 54 (0, 0)) ∧ cur'.size = cur.size := by
    refine ⟨Gr.setCells w.drew g _ _ rfl, ?_⟩
    have h1 : w.drew.heap[g]? = some (.cells cur.toList.toArray 54 (0, 0)) := by show w.heap[g]? = _; simpa using hg
    have h5 := heap_setCells g 54 [.int .i64 0, .slice none 0 0] 0 w.drew cur.toList h1 (by simp; omega)
    refine ⟨_, h5, ?_⟩
    rw [List.size_toArray, length_splice _ _ _ (by simp; omega)]
    simp
  have FIN := hide fin
  clear fin hg hs
  go_enter Try.func79, Try.ntmps79
  go_wp2_with (fail)
  refine wp_region_held_drew (S := fun _ => True) (by kernel_rfl) trivial (fun hS => ?_)
  refine wpAnyH_take (i := 0) (v := (.slice (some ⟨g, 0, none⟩) 1 cap)) rfl (by kernel_rfl) (by kernel_rfl) (by kernel_rfl) (fun _ _ _ h => h) (Or.inl ⟨by kernel_rfl, fun w' hw => by (go_simp)⟩) hS ?_
  refine wpAnyH_take (i := 1) (v := (.int .i64 0)) rfl (by kernel_rfl) (by kernel_rfl) (by kernel_rfl) (fun _ _ _ h => h) (Or.inl ⟨by kernel_rfl, fun w' hw => by (go_simp)⟩) hS ?_
  refine wpAnyH_take (i := 2) (v := (.slice (some ⟨g, 0, none⟩) 0 cap)) rfl (by kernel_rfl) (by kernel_rfl) (by kernel_rfl) (fun _ _ _ h => h) (Or.inl ⟨by kernel_rfl, fun w' hw => by (have e := e1 w'; go_simp)⟩) hS ?_
  refine wpAnyH_take (i := 3) (v := (.slice (some ⟨g, 0, none⟩) 1 cap)) rfl (by kernel_rfl) (by kernel_rfl) (by kernel_rfl) (fun _ _ _ h => h) (Or.inl ⟨by kernel_rfl, fun w' hw => by (go_simp)⟩) hS ?_
  refine wpAnyH_take (i := 4) (v := (.int .i64 1)) rfl (by kernel_rfl) (by kernel_rfl) (by kernel_rfl) (fun _ _ _ h => h) (Or.inl ⟨by kernel_rfl, fun w' hw => by (go_simp)⟩) hS ?_
  refine wpAnyH_take (i := 5) (v := (.slice (some ad) 0 (cap - 1))) rfl (by kernel_rfl) (by kernel_rfl) (by kernel_rfl) (fun _ _ _ h => h) (Or.inl ⟨by kernel_rfl, fun w' hw => by (have e := e2 w'; go_simp)⟩) hS ?_
  refine wpAnyH_take (i := 6) (v := (.slice (some ⟨g, 0, none⟩) 0 cap)) rfl (by kernel_rfl) (by kernel_rfl) (by kernel_rfl) (fun _ _ _ h => h) (Or.inl ⟨by kernel_rfl, fun w' hw => by (have e := e3 w'; go_simp)⟩) hS ?_
  refine wpAnyH_take (i := 7) (v := (.slice (some ⟨g, 0, none⟩) 0 cap)) rfl (by kernel_rfl) (by kernel_rfl) (by kernel_rfl) (fun _ _ _ h => h) (Or.inl ⟨by kernel_rfl, fun w' hw => by (go_simp)⟩) hS ?_
  refine wpAnyH_done (by kernel_rfl) ?_ _
  simp only [Act.put, List.getElem_toArray, List.getElem_cons_zero, List.getElem_cons_succ, List.setIfInBounds_toArray, List.set_cons_zero, List.set_cons_succ]
  go_wp2_with (fail)
  go_ret
  exact ⟨rfl, FIN.out⟩
end Go.Proofs.Ytadmekikdaocoaa
