/- Is an error the fault with this code at this place? -/
import Derived.Test.YtnodeapjgicclaaDoorSAs
import Derived.Test.YtnodeapjgicclaaDoorSWrk
namespace Go.Proofs.YtnodeapjgicclaaDoor
open Go.RowKit Go.Extern.Stop Go.Stop Go.Extern
set_option linter.unusedVariables false

theorem cell_old {W W' : World} {p : Addr} {v : Value} (h : W.cell? p = some v) (hB : Below W.heap.size W W') : W'.cell? p = some v := (hB.cell (World.block_lt_of_cell? _ _ h)).trans h
theorem LaidE.below {W W' : World} (h : LaidE W) (hB : Below W.heap.size W W') : LaidE W' := cell_old h hB
set_option maxRecDepth 100000 in
set_option maxHeartbeats 4000000 in
/-- errors.As of a fault, at a variable for one. -/
theorem as_hit (e t : Addr) (old : Value) (w : World) (hg : LaidE w) (ht0 : w.cell? t = some old) (hf0 : w.frozen? t = false) :
    Calls Tryd.prog 23 #[.iface 37 (.pointer (some e)), .iface 59 (.pointer (some t))] w fun ev w' => ev = .returned (.bool true) ∧ ∃ W4, Below w.heap.size w W4 ∧ w' = W4.setCell t (.pointer (some e)) := by
  have x1 := @run_callFunc_extern Tryd.prog 33 _ (fun args => ReflectliteValue.unpack (args.getD 0 (.tuple #[]))) Tryd.func33 (by kernel_rfl) (by kernel_rfl) (by kernel_rfl) (by kernel_rfl)
  have x2 := @run_callFunc_extern Tryd.prog 34 _ (ReflectliteValue.methodAny (ReflectliteValue.valueError "reflectlite.Value.Type" 0) (fun t _ _ _ => ReflectliteType.toType t)) Tryd.func34 (by kernel_rfl) (by kernel_rfl) (by kernel_rfl) (by kernel_rfl)
  have x3 := @run_callFunc_extern Tryd.prog 35 _ (ReflectliteValue.method (ReflectliteValue.valueError "reflectlite.Value.IsNil" 0) ReflectliteValue.isNil) Tryd.func35 (by kernel_rfl) (by kernel_rfl) (by kernel_rfl) (by kernel_rfl)
  have x4 := @run_callFunc_extern Tryd.prog 92 _ (ReflectliteType.abiMethod fun t => do pure (.int .u8 (← Rtype.kind t))) Tryd.func92 (by kernel_rfl) (by kernel_rfl) (by kernel_rfl) (by kernel_rfl)
  have x5 := @run_callFunc_extern Tryd.prog 105 _ (ReflectliteType.method ReflectliteType.elem) Tryd.func105 (by kernel_rfl) (by kernel_rfl) (by kernel_rfl) (by kernel_rfl)
  have x6 := @run_callFunc_extern Tryd.prog 106 _ (ReflectliteType.relation "Implements" ReflectliteType.implements_) Tryd.func106 (by kernel_rfl) (by kernel_rfl) (by kernel_rfl) (by kernel_rfl)
  have x7 := @run_callFunc_extern Tryd.prog 46 _ ReflectliteType.typeOf Tryd.func46 (by kernel_rfl) (by kernel_rfl) (by kernel_rfl) (by kernel_rfl)
  have x8 := @run_callFunc_extern Tryd.prog 103 _ (ReflectliteType.relation "AssignableTo" ReflectliteType.assignableTo) Tryd.func103 (by kernel_rfl) (by kernel_rfl) (by kernel_rfl) (by kernel_rfl)
  have x9 := @run_callFunc_extern Tryd.prog 47 _ (ReflectliteValue.method (ReflectliteValue.valueError "reflectlite.Value.Elem" 0) ReflectliteValue.elem) Tryd.func47 (by kernel_rfl) (by kernel_rfl) (by kernel_rfl) (by kernel_rfl)
  have x10 := @run_callFunc_extern Tryd.prog 48 _ ReflectliteValue.set Tryd.func48 (by kernel_rfl) (by kernel_rfl) (by kernel_rfl) (by kernel_rfl)
  have y1 := As.valueOfPP
  have y2 := As.typePP
  have y3 := As.mKind
  have y4 := As.mElem
  have y5 := As.mImpl
  have y6 := As.mAsgn
  have y7 := As.kindPP
  have y8 := As.kindP
  have y9 := As.elemPP
  have y10 := As.implP
  have y11 := As.typeOfP
  have y12 := As.asgnP
  have y13 := As.valueOfP
  have b1 : Below w.heap.size w (w.alloc (.cells #[.pointer (some t)] 59)) := (Below.refl _ w).alloc (Nat.le_refl _) _
  have b2 := b1.alloc b1.size (.cells #[.pointer (some ⟨7, 59, none⟩), .pointer (some ⟨w.heap.size, 0, none⟩), .int .u64 150] 74)
  have b3 := b2.alloc b2.size (.cells #[.pointer (some ⟨7, 59, none⟩), .pointer (some ⟨w.heap.size, 0, none⟩), .int .u64 150] 74)
  have b4 := b3.alloc b3.size (.cells #[.pointer (some e)] 37)
  have n8 := As.isNilPP ⟨w.heap.size, 0, none⟩ t _ (show ((w.alloc (.cells #[.pointer (some t)] 59)).alloc (.cells #[.pointer (some ⟨7, 59, none⟩), .pointer (some ⟨w.heap.size, 0, none⟩), .int .u64 150] 74)).cell? _ = _ by simp)
  have hg2 := cell_old hg b2
  have el := As.elemVPP ⟨w.heap.size, 0, none⟩ t _ (show (((w.alloc (.cells #[.pointer (some t)] 59)).alloc (.cells #[.pointer (some ⟨7, 59, none⟩), .pointer (some ⟨w.heap.size, 0, none⟩), .int .u64 150] 74)).alloc (.cells #[.pointer (some ⟨7, 59, none⟩), .pointer (some ⟨w.heap.size, 0, none⟩), .int .u64 150] 74)).cell? _ = _ by
    rw [World.cell?_alloc_lt _ _ ⟨w.heap.size, 0, none⟩ (by simp; omega)]; simp)
  have htl : t.block < w.heap.size := World.block_lt_of_cell? _ _ ht0
  have st := As.setP t ⟨w.heap.size + 1 + 1 + 1, 0, none⟩ e old _ (show ((((w.alloc (.cells #[.pointer (some t)] 59)).alloc (.cells #[.pointer (some ⟨7, 59, none⟩), .pointer (some ⟨w.heap.size, 0, none⟩), .int .u64 150] 74)).alloc (.cells #[.pointer (some ⟨7, 59, none⟩), .pointer (some ⟨w.heap.size, 0, none⟩), .int .u64 150] 74)).alloc (.cells #[.pointer (some e)] 37)).cell? _ = _ by
      rw [World.cell?_alloc_at _ _ _ _ (by simp)]; rfl) (cell_old ht0 b4)
    (by rw [World.frozen?_alloc_old _ _ t (by simp; omega), World.frozen?_alloc_old _ _ t (by simp; omega), World.frozen?_alloc_old _ _ t (by simp; omega), World.frozen?_alloc_old _ _ t (Nat.ne_of_lt htl)]; exact hf0)
  have B4 := hide b4
  clear b1 b2 b3 b4 htl
  unfold LaidE at hg
  go_enter Tryd.func23, Tryd.ntmps23
  go_wp2
  refine wp_loop_rounds 1 ?_
  rw [rounds_succ]
  go_wp2
  go_ret
  exact ⟨rfl, _, B4.out, rfl⟩
/-- What isFault says of an error: none, or one with this code at this place. -/
def fltV (c a e at' : Int) : Bool := decide (c = e) && decide (a = at') && !decide (e = 0)
set_option maxRecDepth 100000 in
set_option maxHeartbeats 4000000 in
theorem isFault_nil (e at' : Int) (w : World) : Calls Tryd.prog 8 #[.nilIface, .int .i64 e, .int .i64 at'] w fun ev w' => ev = .returned (.bool (e == 0)) ∧ w' = w := by
  go_enter Tryd.func8, Tryd.ntmps8
  go_wp2
  go_ret
  exact ⟨rfl, rfl⟩
set_option maxRecDepth 100000 in
set_option maxHeartbeats 4000000 in
theorem isFault_some (k : Nat) (c a e at' : Int) (w : World) (hk : w.heap[k]? = some (.cells #[.int .i64 c, .int .i64 a] 39 (0, 0))) (hE : LaidE w) :
    Calls Tryd.prog 8 #[.iface 37 (.pointer (some ⟨k, 0, none⟩)), .int .i64 e, .int .i64 at'] w fun ev w' => ev = .returned (.bool (fltV c a e at')) ∧ Below w.heap.size w w' := by
  have b0 : Below w.heap.size w (w.alloc (.cells #[.pointer none] 37)) := (Below.refl _ w).alloc (Nat.le_refl _) _
  have h0 : (w.alloc (.cells #[.pointer none] 37)).heap[w.heap.size]? = some (.cells #[.pointer none] 37 (0, 0)) := heap_alloc_new w _
  have ka := as_hit ⟨k, 0, none⟩ ⟨w.heap.size, 0, none⟩ (.pointer none) (w.alloc (.cells #[.pointer none] 37)) (hE.below b0) (celS h0 0 _ rfl) (frzS h0 0)
  have KA := hide ka
  have HK := hide hk
  have B0 := hide b0
  have H0 := hide h0
  have key : ∀ W4, Below (w.alloc (.cells #[.pointer none] 37)).heap.size (w.alloc (.cells #[.pointer none] 37)) W4 → (W4.setCell ⟨w.heap.size, 0, none⟩ (.pointer (some ⟨k, 0, none⟩))).cell? ⟨w.heap.size, 0, none⟩ = some (.pointer (some ⟨k, 0, none⟩)) ∧ (W4.setCell ⟨w.heap.size, 0, none⟩ (.pointer (some ⟨k, 0, none⟩))).cell? ⟨k, 0, none⟩ = some (.int .i64 c) ∧ (W4.setCell ⟨w.heap.size, 0, none⟩ (.pointer (some ⟨k, 0, none⟩))).cell? ⟨k, 1, none⟩ = some (.int .i64 a) ∧ Below w.heap.size w (W4.setCell ⟨w.heap.size, 0, none⟩ (.pointer (some ⟨k, 0, none⟩))) := by
    intro W4 hB
    have hlt : k < w.heap.size := (Array.getElem?_eq_some_iff.1 hk).1
    have r1 : W4.heap[w.heap.size]? = _ := (hB.block _ (Array.getElem?_eq_some_iff.1 h0).1).trans h0
    have r2 := heap_setCell_same W4 w.heap.size 0 _ _ (.pointer (some ⟨k, 0, none⟩)) r1
    have hBw : Below w.heap.size w W4 := bseq b0 hB
    have r3 : W4.heap[k]? = _ := (hBw.block _ hlt).trans hk
    have r4 := (heap_setCell_other W4 ⟨w.heap.size, 0, none⟩ k (.pointer (some ⟨k, 0, none⟩)) (Nat.ne_of_lt hlt)).trans r3
    exact ⟨celS r2 0 _ rfl, celS r4 0 _ rfl, celS r4 1 _ rfl, hBw.setCell (p := ⟨w.heap.size, 0, none⟩) (Nat.le_refl _) _⟩
  have KEY := hide key
  clear ka hk b0 h0 key
  unfold fltV
  by_cases c1 : c = e
  · subst c1
    by_cases c2 : a = at'
    · subst c2
      by_cases c3 : c = 0
      · subst c3
        go_enter Tryd.func8, Tryd.ntmps8
        go_wp2_with (go_at_call 23; refine (KA.out).mono ?_; rintro ev x ⟨rfl, W4, hB4, rfl⟩; obtain ⟨k1, k2, k3, k4⟩ := KEY.out W4 hB4; have K4 := hide k4; clear k4 hB4)
        go_ret
        exact ⟨rfl, K4.out⟩
      · have d3 : (c == 0) = false := by simp [c3]
        have d4 : (c != 0) = true := by simp [c3]
        go_enter Tryd.func8, Tryd.ntmps8
        go_wp2_with (go_at_call 23; refine (KA.out).mono ?_; rintro ev x ⟨rfl, W4, hB4, rfl⟩; obtain ⟨k1, k2, k3, k4⟩ := KEY.out W4 hB4; have K4 := hide k4; clear k4 hB4)
        go_ret
        exact ⟨by simp [c3], K4.out⟩
    · have d2 : (a == at') = false := by simp [c2]
      go_enter Tryd.func8, Tryd.ntmps8
      go_wp2_with (go_at_call 23; refine (KA.out).mono ?_; rintro ev x ⟨rfl, W4, hB4, rfl⟩; obtain ⟨k1, k2, k3, k4⟩ := KEY.out W4 hB4; have K4 := hide k4; clear k4 hB4)
      go_ret
      exact ⟨by simp [c2], K4.out⟩
  · have d1 : (c == e) = false := by simp [c1]
    go_enter Tryd.func8, Tryd.ntmps8
    go_wp2_with (go_at_call 23; refine (KA.out).mono ?_; rintro ev x ⟨rfl, W4, hB4, rfl⟩; obtain ⟨k1, k2, k3, k4⟩ := KEY.out W4 hB4; have K4 := hide k4; clear k4 hB4)
    go_ret
    exact ⟨by simp [c1], K4.out⟩
end Go.Proofs.YtnodeapjgicclaaDoor
