/- ScanApart holds: a line and another one with a blank between have the tokens of the one and those of the other, or a fault. Conditions: what is read is of a bulk of at most 1048576; the six variables of the library are as the program lays them. -/
import Derived.Test.YtnodeapjgicclaaDoorSSpr
import Derived.Test.YtnodeapjgicclaaDoorProg
import Derived.WalkKit
import Derived.LaidEql
import Derived.Stop.Asserts
import Derived.RowKitTokens
import Derived.LaidLaws
import Derived.LaidHandle
import Derived.Below
import Derived.Test.YtnodeapjgicclaaDoorSWrk
import Derived.Test.YtnodeapjgicclaaDoorSApS
import Derived.Test.YtnodeapjgicclaaDoorUFirst
import Derived.ProofKit
import Derived.ChangeOld
import Derived.ChangeMaps5
import Derived.SizedLaws
import Derived.JoinedCond
import Derived.Test.YtnodeapjgicclaaDoorCards
import Derived.Test.YtnodeapjgicclaaDoorTie
import Derived.Test.YtnodeapjgicclaaDoorSFmt
import Derived.Test.YtnodeapjgicclaaDoorSNum
import Derived.OpenShut
import Derived.Deep.DeepHandedRow
import Derived.Deep.DeepWitnessRowRef
import Derived.Lib.LaidTab
import Derived.LaidMore
namespace Go.Proofs.YtnodeapjgicclaaDoor
open Go.RowKit Go.Shelf
set_option linter.unusedVariables false

set_option maxRecDepth 100000 in
set_option maxHeartbeats 4000000 in
theorem same_toks (a b : Option Addr) (c d : Nat) (xs : List TkI) (w : World) (ha : SlK w a xs) (hb : SlK w b xs) (hl : xs.length ≤ 1048576) :
    Calls Tryd.prog 9 #[.slice a xs.length c, .slice b xs.length d] w fun e w' => e = .returned (.bool true) ∧ ∃ n, w' = w.drewN n := by
  have HA := hide ha
  have HB := hide hb
  have g0 := Tryd.noGuardTk
  have hlI : (xs.length : Int) ≤ 1048576 := by omega
  clear ha hb
  go_enter Tryd.func9, Tryd.ntmps9
  go_wp2
  go_loopw [5] (fun i wr => ∃ k n : Nat, i = .int .i64 (k : Int) ∧ k ≤ xs.length ∧ wr = w.drewN n) (fun i _ => xs.length - (intOf i).toNat)
  case atStart => exact ⟨0, 0, rfl, Nat.zero_le _, rfl⟩
  case round =>
    obtain ⟨k, n, rfl, hk, hwr⟩ := hrel
    by_cases hlt : k < xs.length
    · have hltI : (k : Int) < (xs.length : Int) := by omega
      have hxk : xs[k]? = some xs[k] := List.getElem?_eq_getElem hlt
      have ha' : SlK wr a xs := by rw [hwr]; exact HA.out
      have hb' : SlK wr b xs := by rw [hwr]; exact HB.out
      obtain ⟨b0, off, rfl, v0, v1, v2, v3⟩ := tok_cells ha' hxk
      obtain ⟨b1, off1, rfl, u0, u1, u2, u3⟩ := tok_cells hb' hxk
      generalize xs[k] = x at *
      obtain ⟨k', a', t', n'⟩ := x
      simp only at v0 v1 v2 v3 u0 u1 u2 u3
      have g1 := fun W => eql_tk k' a' t' n' W
      have HWR := hide hwr
      clear ha' hb' hxk hwr
      go_wp2_with (fail)
      go_quiet (fail)
      go_wp2_with (fail)
      go_roundw
      case rel => exact ⟨k + 1, n + nq, by go_num, by omega, by rw [HWR.out, World.drewN_drewN]⟩
      case measure => simp [intOf]; omega
    · have hge : (xs.length : Int) ≤ (k : Int) := by omega
      go_wp2
      go_ret
      exact ⟨rfl, n, rfl⟩
end Go.Proofs.YtnodeapjgicclaaDoor
namespace Go.Proofs.YtnodeapjgicclaaDoor
open Go.RowKit Go.Extern.Stop Go.Stop Go.Extern
set_option linter.unusedVariables false

theorem As.valueOfPP (t : Addr) (w : World) : (ReflectliteValue.unpack (.iface 59 (.pointer (some t)))).run Tryd.prog w
    = .ok (.agg #[.pointer (some ⟨7, 59, none⟩), .pointer (some ⟨w.heap.size, 0, none⟩), .int .u64 150]) (w.alloc (.cells #[.pointer (some t)] 59)) := by kernel_rfl
theorem As.typePP (a : Addr) (w : World) : (ReflectliteValue.methodAny (ReflectliteValue.valueError "reflectlite.Value.Type" 0) (fun t _ _ _ => ReflectliteType.toType t) #[.agg #[.pointer (some ⟨7, 59, none⟩), .pointer (some a), .int .u64 150]]).run Tryd.prog w
    = .ok (.iface 90 (.agg #[.pointer (some ⟨7, 59, none⟩)])) w := by kernel_rfl
theorem As.mKind (h : Value) (w : World) : (Go.method 266 90 (.agg #[h]) "Kind").run Tryd.prog w = .ok (92, h) w := by kernel_rfl
theorem As.mElem (h : Value) (w : World) : (Go.method 266 90 (.agg #[h]) "Elem").run Tryd.prog w = .ok (105, .agg #[h]) w := by kernel_rfl
theorem As.mImpl (h : Value) (w : World) : (Go.method 266 90 (.agg #[h]) "Implements").run Tryd.prog w = .ok (106, .agg #[h]) w := by kernel_rfl
theorem As.mAsgn (h : Value) (w : World) : (Go.method 266 90 (.agg #[h]) "AssignableTo").run Tryd.prog w = .ok (103, .agg #[h]) w := by kernel_rfl
theorem As.kindPP (w : World) : ((ReflectliteType.abiMethod fun t => (fun a : Nat => Value.int IntKind.u8 (a : Int)) <$> Rtype.kind t) #[.pointer (some ⟨7, 59, none⟩)]).run Tryd.prog w = .ok (.int .u8 22) w := by kernel_rfl
theorem As.kindP (w : World) : ((ReflectliteType.abiMethod fun t => (fun a : Nat => Value.int IntKind.u8 (a : Int)) <$> Rtype.kind t) #[.pointer (some ⟨7, 37, none⟩)]).run Tryd.prog w = .ok (.int .u8 22) w := by kernel_rfl
theorem As.elemPP (w : World) : (ReflectliteType.method ReflectliteType.elem #[.agg #[.pointer (some ⟨7, 59, none⟩)]]).run Tryd.prog w = .ok (.iface 90 (.agg #[.pointer (some ⟨7, 37, none⟩)])) w := by kernel_rfl
theorem As.implP (w : World) : (ReflectliteType.relation "Implements" ReflectliteType.implements_ #[.agg #[.pointer (some ⟨7, 37, none⟩)], .iface 90 (.agg #[.pointer (some ⟨7, 24, none⟩)])]).run Tryd.prog w = .ok (.bool true) w := by kernel_rfl
theorem As.typeOfP (v : Value) (w : World) : (ReflectliteType.typeOf #[.iface 37 v]).run Tryd.prog w = .ok (.iface 90 (.agg #[.pointer (some ⟨7, 37, none⟩)])) w := by kernel_rfl
theorem As.asgnP (w : World) : (ReflectliteType.relation "AssignableTo" ReflectliteType.assignableTo #[.agg #[.pointer (some ⟨7, 37, none⟩)], .iface 90 (.agg #[.pointer (some ⟨7, 37, none⟩)])]).run Tryd.prog w = .ok (.bool true) w := by kernel_rfl
theorem As.valueOfP (e : Addr) (w : World) : (ReflectliteValue.unpack (.iface 37 (.pointer (some e)))).run Tryd.prog w
    = .ok (.agg #[.pointer (some ⟨7, 37, none⟩), .pointer (some ⟨w.heap.size, 0, none⟩), .int .u64 150]) (w.alloc (.cells #[.pointer (some e)] 37)) := by kernel_rfl
theorem As.partsPP (a : Addr) (w : World) : (ReflectliteValue.parts (.agg #[.pointer (some ⟨7, 59, none⟩), .pointer (some a), .int .u64 150])).run Tryd.prog w = .ok (some (59, a, 150)) w := by kernel_rfl
theorem As.partsPa (a : Addr) (w : World) : (ReflectliteValue.parts (.agg #[.pointer (some ⟨7, 37, none⟩), .pointer (some a), .int .u64 406])).run Tryd.prog w = .ok (some (37, a, 406)) w := by kernel_rfl
theorem As.partsP (a : Addr) (w : World) : (ReflectliteValue.parts (.agg #[.pointer (some ⟨7, 37, none⟩), .pointer (some a), .int .u64 150])).run Tryd.prog w = .ok (some (37, a, 150)) w := by kernel_rfl
theorem As.elemOfPP (w : World) : (Rtype.elem? 59).run Tryd.prog w = .ok (some 37) w := by kernel_rfl
theorem As.mkP (p : Addr) (w : World) : (ReflectliteValue.mk 37 p ReflectliteValue.flagAddr).run Tryd.prog w = .ok (.agg #[.pointer (some ⟨7, 37, none⟩), .pointer (some p), .int .u64 406]) w := by kernel_rfl
theorem As.directP (w : World) : (Rtype.directlyAssignable 37 37).run Tryd.prog w = .ok true w := by kernel_rfl
theorem As.via (z : Sem Value) (f : TypeId → Addr → Nat → Nat → Sem Value) (v : Value) : ReflectliteValue.method z f #[v] = (do match ← ReflectliteValue.parts v with | none => z | some (t, a, fl) => f t a fl (fl % 32)) := rfl
theorem As.isNilPP (a p : Addr) (W : World) (ha : W.cell? a = some (.pointer (some p))) :
    (ReflectliteValue.method (ReflectliteValue.valueError "reflectlite.Value.IsNil" 0) ReflectliteValue.isNil #[.agg #[.pointer (some ⟨7, 59, none⟩), .pointer (some a), .int .u64 150]]).run Tryd.prog W = .ok (.bool false) W := by
  rw [As.via]
  simp only [Sem.run_bind, As.partsPP, Result.andThen]
  simp [ReflectliteValue.isNil, loadVar, isAgg, underlying, Tryd.underlying59, ha, Result.andThen]
theorem As.elemVPP (a p : Addr) (W : World) (ha : W.cell? a = some (.pointer (some p))) :
    (ReflectliteValue.method (ReflectliteValue.valueError "reflectlite.Value.Elem" 0) ReflectliteValue.elem #[.agg #[.pointer (some ⟨7, 59, none⟩), .pointer (some a), .int .u64 150]]).run Tryd.prog W
      = .ok (.agg #[.pointer (some ⟨7, 37, none⟩), .pointer (some p), .int .u64 406]) W := by
  rw [As.via]
  simp only [Sem.run_bind, As.partsPP, Result.andThen]
  simp [ReflectliteValue.elem, loadVar, isAgg, underlying, Tryd.underlying59, ha, Result.andThen, As.elemOfPP, As.mkP]
theorem As.setP (ta b e : Addr) (old : Value) (W : World) (hb : W.cell? b = some (.pointer (some e))) (ht : W.cell? ta = some old) (hf : W.frozen? ta = false) :
    (ReflectliteValue.set #[.agg #[.pointer (some ⟨7, 37, none⟩), .pointer (some ta), .int .u64 406], .agg #[.pointer (some ⟨7, 37, none⟩), .pointer (some b), .int .u64 150]]).run Tryd.prog W
      = .ok (.tuple #[]) (W.setCell ta (.pointer (some e))) := by
  suffices h : ∃ k : Option (TypeId × Addr × Nat) → Option (TypeId × Addr × Nat) → Sem Value, (∀ v x, ReflectliteValue.set #[v, x] = (do let p ← ReflectliteValue.parts v; let q ← ReflectliteValue.parts x; k p q)) ∧ (k (some (37, ta, 406)) (some (37, b, 150))).run Tryd.prog W = .ok (.tuple #[]) (W.setCell ta (.pointer (some e))) by
    obtain ⟨k, h1, h2⟩ := h
    rw [h1]
    simp only [Sem.run_bind, As.partsPa, As.partsP, Result.andThen]
    exact h2
  refine ⟨_, fun v x => rfl, ?_⟩
  simp [ReflectliteValue.flagAddr, loadVar, isAgg, underlying, Tryd.underlying37, hb, Result.andThen, As.directP, storeVar, Value.cells, storeCells, Addr.add]
  rw [run_store Tryd.prog W ta _ _ (by rfl)]
  simp [ht, hf]
/-- What the handle of 'error' is in a world. -/
def LaidE (w : World) : Prop := w.cell? ⟨0, 0, none⟩ = some (.iface 90 (.agg #[.pointer (some ⟨7, 24, none⟩)]))
end Go.Proofs.YtnodeapjgicclaaDoor
namespace Go.Proofs.YtnodeapjgicclaaDoor
open Go.RowKit Go.Extern.Stop Go.Stop Go.Extern
set_option linter.unusedVariables false

theorem cell_old {W W' : World} {p : Addr} {v : Value} (h : W.cell? p = some v) (hB : Below W.heap.size W W') : W'.cell? p = some v := (hB.cell (World.block_lt_of_cell? _ _ h)).trans h
theorem LaidE.below {W W' : World} (h : LaidE W) (hB : Below W.heap.size W W') : LaidE W' := cell_old h hB
set_option maxRecDepth 100000 in
set_option maxHeartbeats 4000000 in
/-- errors.As of a fault, at a variable for one. -/
theorem as_hit (e t : Addr) (old : Value) (w : World) (hg : LaidE w) (ht0 : w.cell? t = some old) (hf0 : w.frozen? t = false) :
    Calls Tryd.prog 23 #[.iface 37 (.pointer (some e)), .iface 59 (.pointer (some t))] w fun ev w' => ev = .returned (.bool true) ∧ ∃ W4, Below w.heap.size w W4 ∧ w' = W4.setCell t (.pointer (some e)) := by
  have x1 := @run_callFunc_extern Tryd.prog 33 _ (fun args => ReflectliteValue.unpack (args.getD 0 (.tuple #[]))) Tryd.func33 (by kernel_rfl) (by kernel_rfl) (by kernel_rfl) (by kernel_rfl)
  have x2 := @run_callFunc_extern Tryd.prog 34 _ (ReflectliteValue.methodAny (ReflectliteValue.valueError "reflectlite.Value.Type" 0) (fun t _ _ _ => ReflectliteType.toType t)) Tryd.func34 (by kernel_rfl) (by kernel_rfl) (by kernel_rfl) (by kernel_rfl)
  have x3 := @run_callFunc_extern Tryd.prog 35 _ (ReflectliteValue.method (ReflectliteValue.valueError "reflectlite.Value.IsNil" 0) ReflectliteValue.isNil) Tryd.func35 (by kernel_rfl) (by kernel_rfl) (by kernel_rfl) (by kernel_rfl)
  have x4 := @run_callFunc_extern Tryd.prog 92 _ (ReflectliteType.abiMethod fun t => do pure (.int .u8 (← Rtype.kind t))) Tryd.func92 (by kernel_rfl) (by kernel_rfl) (by kernel_rfl) (by kernel_rfl)
  have x5 := @run_callFunc_extern Tryd.prog 105 _ (ReflectliteType.method ReflectliteType.elem) Tryd.func105 (by kernel_rfl) (by kernel_rfl) (by kernel_rfl) (by kernel_rfl)
  have x6 := @run_callFunc_extern Tryd.prog 106 _ (ReflectliteType.relation "Implements" ReflectliteType.implements_) Tryd.func106 (by kernel_rfl) (by kernel_rfl) (by kernel_rfl) (by kernel_rfl)
  have x7 := @run_callFunc_extern Tryd.prog 46 _ ReflectliteType.typeOf Tryd.func46 (by kernel_rfl) (by kernel_rfl) (by kernel_rfl) (by kernel_rfl)
  have x8 := @run_callFunc_extern Tryd.prog 103 _ (ReflectliteType.relation "AssignableTo" ReflectliteType.assignableTo) Tryd.func103 (by kernel_rfl) (by kernel_rfl) (by kernel_rfl) (by kernel_rfl)
  have x9 := @run_callFunc_extern Tryd.prog 47 _ (ReflectliteValue.method (ReflectliteValue.valueError "reflectlite.Value.Elem" 0) ReflectliteValue.elem) Tryd.func47 (by kernel_rfl) (by kernel_rfl) (by kernel_rfl) (by kernel_rfl)
  have x10 := @run_callFunc_extern Tryd.prog 48 _ ReflectliteValue.set Tryd.func48 (by kernel_rfl) (by kernel_rfl) (by kernel_rfl) (by kernel_rfl)
  have y1 := As.valueOfPP
  have y2 := As.typePP
  have y3 := As.mKind
  have y4 := As.mElem
  have y5 := As.mImpl
  have y6 := As.mAsgn
  have y7 := As.kindPP
  have y8 := As.kindP
  have y9 := As.elemPP
  have y10 := As.implP
  have y11 := As.typeOfP
  have y12 := As.asgnP
  have y13 := As.valueOfP
  have b1 : Below w.heap.size w (w.alloc (.cells #[.pointer (some t)] 59)) := (Below.refl _ w).alloc (Nat.le_refl _) _
  have b2 := b1.alloc b1.size (.cells #[.pointer (some ⟨7, 59, none⟩), .pointer (some ⟨w.heap.size, 0, none⟩), .int .u64 150] 74)
  have b3 := b2.alloc b2.size (.cells #[.pointer (some ⟨7, 59, none⟩), .pointer (some ⟨w.heap.size, 0, none⟩), .int .u64 150] 74)
  have b4 := b3.alloc b3.size (.cells #[.pointer (some e)] 37)
  have n8 := As.isNilPP ⟨w.heap.size, 0, none⟩ t _ (show ((w.alloc (.cells #[.pointer (some t)] 59)).alloc (.cells #[.pointer (some ⟨7, 59, none⟩), .pointer (some ⟨w.heap.size, 0, none⟩), .int .u64 150] 74)).cell? _ = _ by simp)
  have hg2 := cell_old hg b2
  have el := As.elemVPP ⟨w.heap.size, 0, none⟩ t _ (show (((w.alloc (.cells #[.pointer (some t)] 59)).alloc (.cells #[.pointer (some ⟨7, 59, none⟩), .pointer (some ⟨w.heap.size, 0, none⟩), .int .u64 150] 74)).alloc (.cells #[.pointer (some ⟨7, 59, none⟩), .pointer (some ⟨w.heap.size, 0, none⟩), .int .u64 150] 74)).cell? _ = _ by
    rw [World.cell?_alloc_lt _ _ ⟨w.heap.size, 0, none⟩ (by simp; omega)]; simp)
  have htl : t.block < w.heap.size := World.block_lt_of_cell? _ _ ht0
  have st := As.setP t ⟨w.heap.size + 1 + 1 + 1, 0, none⟩ e old _ (show ((((w.alloc (.cells #[.pointer (some t)] 59)).alloc (.cells #[.pointer (some ⟨7, 59, none⟩), .pointer (some ⟨w.heap.size, 0, none⟩), .int .u64 150] 74)).alloc (.cells #[.pointer (some ⟨7, 59, none⟩), .pointer (some ⟨w.heap.size, 0, none⟩), .int .u64 150] 74)).alloc (.cells #[.pointer (some e)] 37)).cell? _ = _ by
      rw [World.cell?_alloc_at _ _ _ _ (by simp)]; rfl) (cell_old ht0 b4)
    (by rw [World.frozen?_alloc_old _ _ t (by simp; omega), World.frozen?_alloc_old _ _ t (by simp; omega), World.frozen?_alloc_old _ _ t (by simp; omega), World.frozen?_alloc_old _ _ t (Nat.ne_of_lt htl)]; exact hf0)
  have B4 := hide b4
  clear b1 b2 b3 b4 htl
  unfold LaidE at hg
  go_enter Tryd.func23, Tryd.ntmps23
  go_wp2
  refine wp_loop_rounds 1 ?_
  rw [rounds_succ]
  go_wp2
  go_ret
  exact ⟨rfl, _, B4.out, rfl⟩
/-- What isFault says of an error: none, or one with this code at this place. -/
def fltV (c a e at' : Int) : Bool := decide (c = e) && decide (a = at') && !decide (e = 0)
set_option maxRecDepth 100000 in
set_option maxHeartbeats 4000000 in
theorem isFault_nil (e at' : Int) (w : World) : Calls Tryd.prog 8 #[.nilIface, .int .i64 e, .int .i64 at'] w fun ev w' => ev = .returned (.bool (e == 0)) ∧ w' = w := by
  go_enter Tryd.func8, Tryd.ntmps8
  go_wp2
  go_ret
  exact ⟨rfl, rfl⟩
set_option maxRecDepth 100000 in
set_option maxHeartbeats 4000000 in
theorem isFault_some (k : Nat) (c a e at' : Int) (w : World) (hk : w.heap[k]? = some (.cells #[.int .i64 c, .int .i64 a] 39 (0, 0))) (hE : LaidE w) :
    Calls Tryd.prog 8 #[.iface 37 (.pointer (some ⟨k, 0, none⟩)), .int .i64 e, .int .i64 at'] w fun ev w' => ev = .returned (.bool (fltV c a e at')) ∧ Below w.heap.size w w' := by
  have b0 : Below w.heap.size w (w.alloc (.cells #[.pointer none] 37)) := (Below.refl _ w).alloc (Nat.le_refl _) _
  have h0 : (w.alloc (.cells #[.pointer none] 37)).heap[w.heap.size]? = some (.cells #[.pointer none] 37 (0, 0)) := heap_alloc_new w _
  have ka := as_hit ⟨k, 0, none⟩ ⟨w.heap.size, 0, none⟩ (.pointer none) (w.alloc (.cells #[.pointer none] 37)) (hE.below b0) (celS h0 0 _ rfl) (frzS h0 0)
  have KA := hide ka
  have HK := hide hk
  have B0 := hide b0
  have H0 := hide h0
  have key : ∀ W4, Below (w.alloc (.cells #[.pointer none] 37)).heap.size (w.alloc (.cells #[.pointer none] 37)) W4 → (W4.setCell ⟨w.heap.size, 0, none⟩ (.pointer (some ⟨k, 0, none⟩))).cell? ⟨w.heap.size, 0, none⟩ = some (.pointer (some ⟨k, 0, none⟩)) ∧ (W4.setCell ⟨w.heap.size, 0, none⟩ (.pointer (some ⟨k, 0, none⟩))).cell? ⟨k, 0, none⟩ = some (.int .i64 c) ∧ (W4.setCell ⟨w.heap.size, 0, none⟩ (.pointer (some ⟨k, 0, none⟩))).cell? ⟨k, 1, none⟩ = some (.int .i64 a) ∧ Below w.heap.size w (W4.setCell ⟨w.heap.size, 0, none⟩ (.pointer (some ⟨k, 0, none⟩))) := by
    intro W4 hB
    have hlt : k < w.heap.size := (Array.getElem?_eq_some_iff.1 hk).1
    have r1 : W4.heap[w.heap.size]? = _ := (hB.block _ (Array.getElem?_eq_some_iff.1 h0).1).trans h0
    have r2 := heap_setCell_same W4 w.heap.size 0 _ _ (.pointer (some ⟨k, 0, none⟩)) r1
    have hBw : Below w.heap.size w W4 := bseq b0 hB
    have r3 : W4.heap[k]? = _ := (hBw.block _ hlt).trans hk
    have r4 := (heap_setCell_other W4 ⟨w.heap.size, 0, none⟩ k (.pointer (some ⟨k, 0, none⟩)) (Nat.ne_of_lt hlt)).trans r3
    exact ⟨celS r2 0 _ rfl, celS r4 0 _ rfl, celS r4 1 _ rfl, hBw.setCell (p := ⟨w.heap.size, 0, none⟩) (Nat.le_refl _) _⟩
  have KEY := hide key
  clear ka hk b0 h0 key
  unfold fltV
  by_cases c1 : c = e
  · subst c1
    by_cases c2 : a = at'
    · subst c2
      by_cases c3 : c = 0
      · subst c3
        go_enter Tryd.func8, Tryd.ntmps8
        go_wp2_with (go_at_call 23; refine (KA.out).mono ?_; rintro ev x ⟨rfl, W4, hB4, rfl⟩; obtain ⟨k1, k2, k3, k4⟩ := KEY.out W4 hB4; have K4 := hide k4; clear k4 hB4)
        go_ret
        exact ⟨rfl, K4.out⟩
      · have d3 : (c == 0) = false := by simp [c3]
        have d4 : (c != 0) = true := by simp [c3]
        go_enter Tryd.func8, Tryd.ntmps8
        go_wp2_with (go_at_call 23; refine (KA.out).mono ?_; rintro ev x ⟨rfl, W4, hB4, rfl⟩; obtain ⟨k1, k2, k3, k4⟩ := KEY.out W4 hB4; have K4 := hide k4; clear k4 hB4)
        go_ret
        exact ⟨by simp [c3], K4.out⟩
    · have d2 : (a == at') = false := by simp [c2]
      go_enter Tryd.func8, Tryd.ntmps8
      go_wp2_with (go_at_call 23; refine (KA.out).mono ?_; rintro ev x ⟨rfl, W4, hB4, rfl⟩; obtain ⟨k1, k2, k3, k4⟩ := KEY.out W4 hB4; have K4 := hide k4; clear k4 hB4)
      go_ret
      exact ⟨by simp [c2], K4.out⟩
  · have d1 : (c == e) = false := by simp [c1]
    go_enter Tryd.func8, Tryd.ntmps8
    go_wp2_with (go_at_call 23; refine (KA.out).mono ?_; rintro ev x ⟨rfl, W4, hB4, rfl⟩; obtain ⟨k1, k2, k3, k4⟩ := KEY.out W4 hB4; have K4 := hide k4; clear k4 hB4)
    go_ret
    exact ⟨by simp [c1], K4.out⟩
end Go.Proofs.YtnodeapjgicclaaDoor
namespace Go.Proofs.YtnodeapjgicclaaDoor
open Go.RowKit Go.Shelf
set_option linter.unusedVariables false

theorem ScPost.any {R : List Tk ⊕ (Int × Nat)} {w w' : World} {e : Ending} (h : ScPost R w e w') : ∃ v x, e = .returned (.tuple #[v, x]) ∧ Below w.heap.size w w' := by
  cases R with
  | inl ts => obtain ⟨v, h1, _, h3⟩ := h; exact ⟨v, _, h1, h3⟩
  | inr f => obtain ⟨k, h1, _, _, h4⟩ := h; exact ⟨_, _, h1, h4⟩
set_option maxRecDepth 100000 in
set_option maxHeartbeats 4000000 in
theorem scan_over' (s : ByteArray) (w : World) (hs : 16384 < s.size) :
    Calls Tryd.prog 5 #[.string s] w fun e w' => ScPost (.inr (4, 0)) w e w' := by
  go_enter Tryd.func5, Tryd.ntmps5
  go_wp2_with (fail)
  refine wp_scope_mixR 0 (fun _ _ => False) (fun _ _ => 0) rfl (fun _ _ h => h.elim) (fun _ => ?_)
  go_wp2_with (fail)
  rw [jumpA_ret]
  go_ret2
  exact ⟨w.heap.size, rfl, Nat.le_refl _, heap_alloc_new w _, (Below.refl _ w).alloc (Nat.le_refl _) _⟩
/-- What Scan answers, of every line. -/
def RS (s : ByteArray) : List Tk ⊕ (Int × Nat) := if 16384 < s.size then .inr (4, 0) else Sc (bl s) 0 []
theorem scan_full (s : ByteArray) (w : World) (hL : LaidW w) : Calls Tryd.prog 5 #[.string s] w fun e w' => ScPost (RS s) w e w' := by
  unfold RS
  by_cases h : 16384 < s.size
  · rw [if_pos h]; exact scan_over' s w h
  · rw [if_neg h]; exact scan_any s w (by omega) hL
theorem rs_small {s : ByteArray} (h : s.size ≤ 16384) : RS s = Sc (bl s) 0 [] := by unfold RS; rw [if_neg (by omega)]
theorem rs_long {s : ByteArray} (h : 16384 < s.size) : RS s = .inr (4, 0) := by unfold RS; rw [if_pos h]
/-- The two with a blank between. -/
def mid (a b : ByteArray) : ByteArray := a ++ ⟨#[32]⟩ ++ b
theorem mid_size (a b : ByteArray) : (mid a b).size = a.size + 1 + b.size := by
  unfold mid
  rw [ByteArray.size_append, ByteArray.size_append]
  rfl
theorem mid_bl (a b : ByteArray) : bl (mid a b) = bl a ++ 32 :: bl b := by
  unfold mid
  rw [bl_append, bl_append, List.append_assoc]
  rfl
set_option maxRecDepth 100000 in
set_option maxHeartbeats 4000000 in
theorem apart_long (a b : ByteArray) (w : World) (ha : a.size ≤ 1048576) (hb : b.size ≤ 1048576) (hl : 16384 < a.size + 1 + b.size) (hL : LaidW w) (hZ : LaidZ w) (hE : LaidE w) :
    Calls Tryd.prog 4 #[.string a, .string b] w fun e w' => e = .returned (.bool true) ∧ Below w.heap.size w w' := by
  have ka := fun W h => scan_full a W h
  have kb := fun W h => scan_full b W h
  have kc := fun W h => scan_full (mid a b) W h
  rw [rs_long (by rw [mid_size]; omega)] at kc
  have KA := hide ka
  have KB := hide kb
  have KC := hide kc
  have HL := hide hL
  have HZ := hide hZ
  have HE := hide hE
  have haI : (a.size : Int) ≤ 1048576 := by omega
  have hbI : (b.size : Int) ≤ 1048576 := by omega
  have hlI : (16384 : Int) < (a.size : Int) + 1 + (b.size : Int) := by omega
  clear ka kb kc hL hZ hE
  go_enter Tryd.func4, Tryd.ntmps4
  go_wp2_with (fail)
  refine (KA.out _ HL.out).mono ?_
  intro e x1 h1
  obtain ⟨v1, y1, rfl, hb1⟩ := ScPost.any h1
  have HB1 := hide hb1
  clear h1 hb1
  go_wp2_with (fail)
  refine (KB.out _ (HL.out.below HB1.out)).mono ?_
  intro e x2 h2
  obtain ⟨v2, y2, rfl, hb2⟩ := ScPost.any h2
  have HB2 := hide (bseq HB1.out hb2)
  clear h2 hb2
  go_wp2_with (fail)
  refine (KC.out _ (HL.out.below HB2.out)).mono ?_
  rintro e x3 ⟨k, rfl, hk1, hk2, hb3⟩
  have HB3 := hide (bseq HB2.out hb3)
  have HK := hide hk2
  clear hk1 hk2 hb3
  go_wp2_with (first | (go_at_call 8; refine (isFault_some k 4 0 4 0 _ HK.out (HE.out.below HB3.out)).mono ?_; rintro e x4 ⟨rfl, hb4⟩; have HB4 := hide (bseq HB3.out hb4); clear hb4; rw [show fltV 4 0 4 0 = true from rfl]) | (go_at_call 6; refine (works_any _ (HL.out.below HB4.out) (HZ.out.below HB4.out)).mono ?_; rintro e q ⟨rfl, hq⟩))
  go_ret
  exact ⟨rfl, bseq HB4.out hq⟩
set_option maxRecDepth 100000 in
set_option maxHeartbeats 4000000 in
/-- The first one has a fault. -/
theorem apart_first (a b : ByteArray) (c : Int) (p : Nat) (w : World) (hl : a.size + 1 + b.size ≤ 16384) (hA : RS a = .inr (c, p)) (hC : (c, p) ≠ (71, a.size) → ∃ g, RS (mid a b) = .inr g) (hL : LaidW w) (hZ : LaidZ w) (hE : LaidE w) :
    Calls Tryd.prog 4 #[.string a, .string b] w fun e w' => e = .returned (.bool true) ∧ Below w.heap.size w w' := by
  have ka := fun W h => scan_full a W h
  have kb := fun W h => scan_full b W h
  have kc := fun W h => scan_full (mid a b) W h
  rw [hA] at ka
  have KA := hide ka
  have KB := hide kb
  have HL := hide hL
  have HZ := hide hZ
  have HE := hide hE
  have hlI : (a.size : Int) + 1 + (b.size : Int) ≤ 16384 := by omega
  by_cases hf : (c, p) = (71, a.size)
  · cases hf
    have KC := hide kc
    have hv : fltV 71 (a.size : Int) 71 (a.size : Int) = true := by simp [fltV]
    clear ka kb kc hL hZ hE hA hC
    go_enter Tryd.func4, Tryd.ntmps4
    go_wp2_with (fail)
    refine (KA.out _ HL.out).mono ?_
    rintro e x1 ⟨k, rfl, hk1, hk2, hb1⟩
    have HB1 := hide hb1
    have HK1 := hide hk2
    clear hk1 hb1
    go_wp2_with (fail)
    refine (KB.out _ (HL.out.below HB1.out)).mono ?_
    intro e x2 h2
    obtain ⟨v2, y2, rfl, hb2⟩ := ScPost.any h2
    have HB2 := hide (bseq HB1.out hb2)
    have HK2 := hide ((hb2.block _ (Array.getElem?_eq_some_iff.1 HK1.out).1).trans HK1.out)
    clear h2 hb2 hk2
    go_wp2_with (fail)
    refine (KC.out _ (HL.out.below HB2.out)).mono ?_
    intro e x3 h3
    obtain ⟨v3, y3, rfl, hb3⟩ := ScPost.any h3
    have HB3 := hide (bseq HB2.out hb3)
    have HK3 := hide ((hb3.block _ (Array.getElem?_eq_some_iff.1 HK2.out).1).trans HK2.out)
    clear h3 hb3
    go_wp2_with (first | (go_at_call 8; refine (isFault_some k 71 (a.size : Int) 71 (a.size : Int) _ HK3.out (HE.out.below HB3.out)).mono ?_; rintro e x4 ⟨rfl, hb4⟩; have HB4 := hide (bseq HB3.out hb4); clear hb4; rw [hv]) | (go_at_call 6; refine (works_any _ (HL.out.below HB4.out) (HZ.out.below HB4.out)).mono ?_; rintro e q ⟨rfl, hq⟩))
    go_ret
    exact ⟨rfl, bseq HB4.out hq⟩
  · obtain ⟨⟨gc, gp⟩, hg⟩ := hC hf
    rw [hg] at kc
    have KC := hide kc
    have hv : fltV c (p : Int) 71 (a.size : Int) = false := by
      unfold fltV
      by_cases h1 : c = 71
      · have h2 : ¬ (p : Int) = (a.size : Int) := fun h => hf (by rw [h1, show p = a.size by omega])
        simp [h2]
      · simp [h1]
    clear ka kb kc hL hZ hE hA hC
    go_enter Tryd.func4, Tryd.ntmps4
    go_wp2_with (fail)
    refine (KA.out _ HL.out).mono ?_
    rintro e x1 ⟨k, rfl, hk1, hk2, hb1⟩
    have HB1 := hide hb1
    have HK1 := hide hk2
    clear hk1 hb1
    go_wp2_with (fail)
    refine (KB.out _ (HL.out.below HB1.out)).mono ?_
    intro e x2 h2
    obtain ⟨v2, y2, rfl, hb2⟩ := ScPost.any h2
    have HB2 := hide (bseq HB1.out hb2)
    have HK2 := hide ((hb2.block _ (Array.getElem?_eq_some_iff.1 HK1.out).1).trans HK1.out)
    clear h2 hb2 hk2
    go_wp2_with (fail)
    refine (KC.out _ (HL.out.below HB2.out)).mono ?_
    rintro e x3 ⟨k3, rfl, hk31, hk32, hb3⟩
    have HB3 := hide (bseq HB2.out hb3)
    have HK3 := hide ((hb3.block _ (Array.getElem?_eq_some_iff.1 HK2.out).1).trans HK2.out)
    clear hk31 hk32 hb3
    go_wp2_with (first | (go_at_call 8; refine (isFault_some k c (p : Int) 71 (a.size : Int) _ HK3.out (HE.out.below HB3.out)).mono ?_; rintro e x4 ⟨rfl, hb4⟩; have HB4 := hide (bseq HB3.out hb4); clear hb4; rw [hv]) | (go_at_call 6; refine (works_any _ (HL.out.below HB4.out) (HZ.out.below HB4.out)).mono ?_; rintro e q ⟨rfl, hq⟩))
    go_ret
    exact ⟨rfl, bseq HB4.out hq⟩
set_option maxRecDepth 100000 in
set_option maxHeartbeats 4000000 in
/-- The second one alone has a fault. -/
theorem apart_second (a b : ByteArray) (ts : List Tk) (f g : Int × Nat) (w : World) (hl : a.size + 1 + b.size ≤ 16384) (hA : RS a = .inl ts) (hB : RS b = .inr f) (hC : RS (mid a b) = .inr g) (hL : LaidW w) (hZ : LaidZ w) (hE : LaidE w) :
    Calls Tryd.prog 4 #[.string a, .string b] w fun e w' => e = .returned (.bool true) ∧ Below w.heap.size w w' := by
  obtain ⟨gc, gp⟩ := g
  obtain ⟨fc, fp⟩ := f
  have ka := fun W h => scan_full a W h
  have kb := fun W h => scan_full b W h
  have kc := fun W h => scan_full (mid a b) W h
  rw [hA] at ka
  rw [hB] at kb
  rw [hC] at kc
  have KA := hide ka
  have KB := hide kb
  have KC := hide kc
  have HL := hide hL
  have HZ := hide hZ
  have HE := hide hE
  have hlI : (a.size : Int) + 1 + (b.size : Int) ≤ 16384 := by omega
  clear ka kb kc hL hZ hE hA hB hC
  go_enter Tryd.func4, Tryd.ntmps4
  go_wp2_with (fail)
  refine (KA.out _ HL.out).mono ?_
  rintro e x1 ⟨v1, rfl, hrow1, hb1⟩
  have HB1 := hide hb1
  clear hrow1 hb1
  go_wp2_with (fail)
  refine (KB.out _ (HL.out.below HB1.out)).mono ?_
  rintro e x2 ⟨k2, rfl, hk21, hk22, hb2⟩
  have HB2 := hide (bseq HB1.out hb2)
  clear hk21 hk22 hb2
  go_wp2_with (fail)
  refine (KC.out _ (HL.out.below HB2.out)).mono ?_
  rintro e x3 ⟨k3, rfl, hk31, hk32, hb3⟩
  have HB3 := hide (bseq HB2.out hb3)
  clear hk31 hk32 hb3
  go_wp2_with (first | (go_at_call 8; refine (isFault_nil 71 (a.size : Int) _).mono ?_; rintro e x4 ⟨rfl, hx4⟩; subst hx4; rw [show ((71 : Int) == 0) = false from rfl]) | (go_at_call 6; refine (works_any _ (HL.out.below HB3.out) (HZ.out.below HB3.out)).mono ?_; rintro e q ⟨rfl, hq⟩))
  go_ret
  exact ⟨rfl, bseq HB3.out hq⟩
end Go.Proofs.YtnodeapjgicclaaDoor
namespace Go.Proofs.YtnodeapjgicclaaDoor
open Go.RowKit Go.Shelf
set_option linter.unusedVariables false

theorem RowT.cases {W : World} {base : Nat} {v : Value} {ts : List Tk} (h : RowT W base v ts) : (v = .slice none 0 0 ∧ ts = []) ∨ ∃ g cap, v = .slice (some ⟨g, 0, none⟩) ts.length cap ∧ SlK W (some ⟨g, 0, none⟩) (ts.map toI) := by
  rcases h.2 with ⟨h1, h2⟩ | ⟨g, cap, cur, hv, hg, hh, hnc, hcap, hs, hc⟩
  · exact .inl ⟨h1, List.eq_nil_of_length_eq_zero h2⟩
  · obtain ⟨a, c, hv2, hsl⟩ := h.slk
    rw [hv] at hv2
    cases hv2
    exact .inr ⟨g, cap, hv, hsl⟩
theorem RowI.slk' {W : World} {base : Nat} {v : Value} {ts : List TkI} (h : RowI W base v ts) : ∃ a cap, v = .slice a ts.length cap ∧ SlK W a ts := by
  by_cases h0 : 0 < ts.length
  · obtain ⟨g, cap, hv, _, hs⟩ := h.slk h0
    exact ⟨_, cap, hv, hs⟩
  · have hn : ts = [] := List.eq_nil_of_length_eq_zero (by omega)
    subst hn
    rcases h.2 with ⟨h1, h2⟩ | ⟨g, cap, cur, hv, hg, hh, hnc, hcap, hs, hc⟩
    · exact ⟨none, 0, h1, .inl rfl⟩
    · exact ⟨_, cap, hv, .inl rfl⟩
theorem RowI.below {W W' : World} {base : Nat} {v : Value} {ts : List TkI} (h : RowI W base v ts) (hb : Below W.heap.size W W') : RowI W' base v ts := by
  refine ⟨h.1, ?_⟩
  rcases h.2 with h2 | ⟨g, cap, cur, hv, hg, hh, r⟩
  · exact .inl h2
  · exact .inr ⟨g, cap, cur, hv, hg, (hb.block g (Array.getElem?_eq_some_iff.1 hh).1).trans hh, r⟩
/-- A token moved by so many places. -/
def shI (n : Nat) (t : TkI) : TkI := (t.1, t.2.1 + (n : Int), t.2.2.1, t.2.2.2)
theorem shI_toI (n : Nat) (us : List Tk) : (us.map (shT n)).map toI = (us.map toI).map (shI n) := by
  simp only [List.map_map]
  refine List.map_congr_left fun t _ => ?_
  simp [toI, shT, shI]
set_option maxRecDepth 100000 in
set_option maxHeartbeats 8000000 in
theorem apart_both (a b : ByteArray) (ts us : List Tk) (w : World) (hl : a.size + 1 + b.size ≤ 16384) (hA : RS a = .inl ts) (hB : RS b = .inl us) (hC : RS (mid a b) = .inl (ts ++ us.map (shT (a.size + 1))))
    (hts : ts.length ≤ 16384) (hus : us.length ≤ 16384) (hat : ∀ t ∈ us, t.2.1 ≤ 16384) (hL : LaidW w) (hZ : LaidZ w) :
    Calls Tryd.prog 4 #[.string a, .string b] w fun e w' => e = .returned (.bool true) ∧ Below w.heap.size w w' := by
  obtain ⟨i0, hi, hz0, hz1, hz2⟩ := info_parts Tryd.infoTk
  have ka := fun W h => scan_full a W h
  have kb := fun W h => scan_full b W h
  have kc := fun W h => scan_full (mid a b) W h
  rw [hA] at ka
  rw [hB] at kb
  rw [hC] at kc
  have KA := hide ka
  have KB := hide kb
  have KC := hide kc
  have HL := hide hL
  have HZ := hide hZ
  have HAT := hide hat
  have hlI : (a.size : Int) + 1 + (b.size : Int) ≤ 16384 := by omega
  have htsI : (ts.length : Int) ≤ 16384 := by omega
  have husI : (us.length : Int) ≤ 16384 := by omega
  clear ka kb kc hL hZ hA hB hC hat
  go_enter Tryd.func4, Tryd.ntmps4
  go_wp2_with (fail)
  refine (KA.out _ HL.out).mono ?_
  rintro e x1 ⟨v1, rfl, hrow1, hb1⟩
  have HB1 := hide hb1
  have HROW1 := hide hrow1
  clear hrow1 hb1
  go_wp2_with (fail)
  refine (KB.out _ (HL.out.below HB1.out)).mono ?_
  rintro e x2 ⟨v2, rfl, hrow2, hb2⟩
  have HROW1' := hide (HROW1.out.below hb2)
  have HROW2 := hide hrow2
  have HB2 := hide (bseq HB1.out hb2)
  clear hrow2 hb2 HROW1
  go_wp2_with (fail)
  refine (KC.out _ (HL.out.below HB2.out)).mono ?_
  rintro e x3 ⟨v3, rfl, hrow3, hb3⟩
  have HR1 := hide (HROW1'.out.below hb3)
  obtain ⟨a2, cap2, rfl, hs2⟩ := (HROW2.out.below hb3).slk
  obtain ⟨a3, cap3, rfl, hs3⟩ := hrow3.slk
  have HS2 := hide hs2
  have HS3 := hide hs3
  have HB3 := hide (bseq HB2.out hb3)
  clear hrow3 hb3 HROW1' HROW2 hs2 hs3 KA KB KC
  go_upto_region 13 with (first | (go_at_call 8; refine (isFault_nil 71 (a.size : Int) _).mono ?_; rintro e x4 ⟨rfl, hx4⟩; subst hx4; rw [show ((71 : Int) == 0) = false from rfl]))
  go_cut [11] (fun v wx => RowI wx x4.heap.size v (ts.map toI) ∧ Below x4.heap.size x4 wx)
  case first =>
    rcases HR1.out.cases with ⟨rfl, rfl⟩ | ⟨g1, cap1, rfl, hs1⟩
    · go_wp2_with (fail)
      go_meet
      exact ⟨World.ownsRow_nil _ _ _ _, Below.refl _ _⟩
    · go_wp2_with (at_builtin; refine wpList_append_own_at _ rfl _ _ 22 rfl x4.heap.size 32 i0 (.agg #[.int .i64 0, .int .i64 0, .string ⟨#[]⟩, .int .i64 0]) 4 40 Tryd.underlying22 hi hz0 hz1 hz2 rfl (by decide) (.slice none 0 0) 0 [] rfl (World.ownsRow_nil _ _ _ _) ⟨g1, 0, none⟩ ts.length cap1 ((ts.map toI).flatMap tcI) rfl (by rw [tcI_len, List.length_map]) (slk_news' hs1) (tcI_one _) (by unfold maxLen; omega) (by omega) (Nat.le_refl _) ?_; intro v1 w1 hown1 hgrow1 _ _)
      go_meet
      refine ⟨?_, (Below.refl _ x4).grown hgrow1 (Nat.le_refl _) (fun k e => absurd e (by simp [Value.ownBlock]))⟩
      unfold RowI
      rw [List.length_map]
      rw [Nat.zero_add, List.nil_append] at hown1
      exact hown1
  case rest =>
    obtain ⟨hrow, hbc⟩ := hcut
    have HROW0 := hide hrow
    have HBC := hide hbc
    clear hrow hbc HR1
    go_wp2_with (fail)
    go_loopw [11, 12] (fun v i wr => ∃ k : Nat, i = .int .i64 (k : Int) ∧ k ≤ us.length ∧ RowI wr x4.heap.size v (ts.map toI ++ ((us.map toI).take k).map (shI (a.size + 1))) ∧ Below x4.heap.size x4 wr) (fun _ i _ => us.length - (intOf i).toNat)
    case atStart => exact ⟨0, rfl, Nat.zero_le _, by simpa using HROW0.out, HBC.out⟩
    case round =>
      clear HROW0 HBC
      obtain ⟨k, rfl, hk, hrow, hB⟩ := hrel
      have HROW := hide hrow
      have HB := hide hB
      have hBw := hB.size
      clear hrow hB
      by_cases hlt : k < us.length
      · obtain ⟨t, ht⟩ : ∃ t, us[k]? = some t := ⟨_, List.getElem?_eq_getElem hlt⟩
        have hxs : (us.map toI)[k]? = some (toI t) := by rw [List.getElem?_map, ht]; rfl
        have htA := HAT.out t (List.mem_of_getElem? ht)
        have hnext : ((us.map toI).take (k + 1)).map (shI (a.size + 1)) = ((us.map toI).take k).map (shI (a.size + 1)) ++ [shI (a.size + 1) (toI t)] := by
          rw [List.take_add_one, hxs, List.map_append]; rfl
        have hcl : (ts.map toI ++ ((us.map toI).take k).map (shI (a.size + 1))).length = ts.length + k := by
          rw [List.length_append, List.length_map, List.length_map, List.length_take, List.length_map]; omega
        obtain ⟨b0, off, rfl, v0, v1, v2, v3⟩ := tok_cells (HS2.out.below HB.out) hxs
        obtain ⟨k1, A1, tl, n1⟩ := t
        simp only [toI, shI] at v0 v1 v2 v3 htA hnext
        generalize (⟨tl.toArray⟩ : ByteArray) = tx at *
        generalize hrw : ts.map toI ++ ((us.map toI).take k).map (shI (a.size + 1)) = RW at *
        have HNX := hide hnext
        have HRW := hide hrw
        have htAI : (A1 : Int) ≤ 16384 := by omega
        have hltI : (k : Int) < (us.length : Int) := by omega
        clear ht hxs hnext hrw htA HS2 HS3
        go_upto_region 19 with (fail)
        have hbx : Below wr.heap.size wr (wr.alloc (.cells #[.int .i64 k1, .int .i64 ((A1 : Int) + (a.size : Int) + 1), .string tx, .int .i64 n1] 32)) := (Below.refl _ wr).alloc (Nat.le_refl _) _
        have hrx := HROW.out.below hbx
        have hBX := bseq HB.out hbx
        obtain ⟨⟨c0, c1⟩, c2, c3⟩ := four_at (heap_alloc_new wr (.cells #[.int .i64 k1, .int .i64 ((A1 : Int) + (a.size : Int) + 1), .string tx, .int .i64 n1] 32))
        generalize (wr.alloc (.cells #[.int .i64 k1, .int .i64 ((A1 : Int) + (a.size : Int) + 1), .string tx, .int .i64 n1] 32)) = X at *
        have HRX := hide hrx
        have HBX := hide hBX
        have hXs := hBX.size
        clear hrx hBX hbx HROW HB v0 v1 v2 v3
        go_wp2_with (at_builtin; refine wpList_append_own_at _ rfl _ _ 22 rfl x4.heap.size 32 i0 (.agg #[.int .i64 0, .int .i64 0, .string ⟨#[]⟩, .int .i64 0]) 4 40 Tryd.underlying22 hi hz0 hz1 hz2 rfl (by decide) u11 RW.length (RW.flatMap tcI) rfl (HRX.out.alloc _) ⟨X.heap.size, 0, none⟩ 1 1 [.int .i64 k1, .int .i64 ((A1 : Int) + (a.size : Int) + 1), .string tx, .int .i64 n1] rfl rfl (cell4_new _ _ _ _ _ _) (by simp [Value.oneCell']) (by unfold maxLen; omega) (by omega) (by simp; omega) ?_; intro v5 w5 hown5 hgrow5 _ _)
        go_roundw
        case rel =>
          refine ⟨k + 1, by go_num, by omega, ?_, ?_⟩
          · rw [HNX.out, ← List.append_assoc, HRW.out]
            unfold RowI
            rw [flatI_snoc, List.length_append, List.length_singleton]
            have e : (A1 : Int) + ((a.size + 1 : Nat) : Int) = (A1 : Int) + (a.size : Int) + 1 := by omega
            simp only [e]
            exact hown5
          · exact (HBX.out.alloc HBX.out.size _).grown hgrow5 (by simp; omega) (fun k e => (HRX.out.lt k e).1)
        case measure => simp [intOf]; omega
      · have hge : (us.length : Int) ≤ (k : Int) := by omega
        have hke : (us.map toI).take k = us.map toI := List.take_of_length_le (by rw [List.length_map]; omega)
        have hr := HROW.out
        rw [hke, ← shI_toI, ← List.map_append] at hr
        obtain ⟨a5, cap5, hv5, hs5⟩ := hr.slk'
        have hs3 := HS3.out.below HB.out
        have ksm := fun W h1 h2 => same_toks a3 a5 cap3 cap5 ((ts ++ us.map (shT (a.size + 1))).map toI) W h1 h2 (by rw [List.length_map, List.length_append, List.length_map]; omega)
        have hln : ((ts ++ us.map (shT (a.size + 1))).map toI).length = ts.length + us.length := by rw [List.length_map, List.length_append, List.length_map]
        rw [hln] at ksm hv5
        subst hv5
        have KSM := hide (ksm _ hs3 hs5)
        have HBW := hide (bseq HB3.out HB.out)
        clear ksm hs3 hs5 hr hke HROW HB
        go_wp2_with (first | (go_at_call 9; refine (KSM.out).mono ?_; rintro e x5 ⟨rfl, n5, hx5⟩; have HB5 := hide (below_drewN HBW.out n5); rw [← hx5] at HB5; clear hx5) | (go_at_call 6; refine (works_any _ (HL.out.below HB5.out) (HZ.out.below HB5.out)).mono ?_; rintro e q ⟨rfl, hq⟩))
        go_ret
        exact ⟨rfl, bseq HB5.out hq⟩
theorem apart_road (a b : ByteArray) (w : World) (ha : a.size ≤ 1048576) (hb : b.size ≤ 1048576) (hL : LaidW w) (hZ : LaidZ w) (hE : LaidE w) :
    Calls Tryd.prog 4 #[.string a, .string b] w fun e w' => e = .returned (.bool true) ∧ Below w.heap.size w w' := by
  by_cases hl : 16384 < a.size + 1 + b.size
  · exact apart_long a b w ha hb hl hL hZ hE
  have hA := rs_small (s := a) (by omega)
  have hB := rs_small (s := b) (by omega)
  have hC := rs_small (s := mid a b) (by rw [mid_size]; omega)
  rw [mid_bl] at hC
  obtain ⟨p1, p2, p3⟩ := Sc_apart (bl a) (bl b)
  rw [bl_len] at p1 p3
  cases eA : Sc (bl a) 0 [] with
  | inr f =>
    obtain ⟨c, p⟩ := f
    refine apart_first a b c p w (by omega) (by rw [hA, eA]) (fun hne => ?_) hL hZ hE
    obtain ⟨g, hg⟩ := p1 _ eA hne
    exact ⟨g, by rw [hC, hg]⟩
  | inl ts =>
    cases eB : Sc (bl b) 0 [] with
    | inr f =>
      obtain ⟨g, hg⟩ := p2 ts f eA eB
      exact apart_second a b ts f g w (by omega) (by rw [hA, eA]) (by rw [hB, eB]) (by rw [hC, hg]) hL hZ hE
    | inl us =>
      have c1 := Gd_count (Sc_good eA)
      have c2 := Gd_count (Sc_good eB)
      have at2 := Gd_at (Sc_good eB)
      rw [bl_len] at c1 c2
      refine apart_both a b ts us w (by omega) (by rw [hA, eA]) (by rw [hB, eB]) (by rw [hC, p3 ts us eA eB]) (by omega) (by omega) (fun t ht => ?_) hL hZ
      obtain ⟨k, hk⟩ := List.getElem?_of_mem ht
      obtain ⟨h1, h2, _⟩ := at2 k t hk
      rw [bl_len] at h2
      omega
end Go.Proofs.YtnodeapjgicclaaDoor
namespace Go.Proofs.YtnodeapjgicclaaDoor
open Go.ChangeShapes Go.WideShapes Go.ChangeAt Go.RowKit
set_option linter.unusedVariables false

theorem own : ownKnob Tryd.prog.godebug = none := by kernel_rfl
theorem laidOut : laidOutB Tryd.prog = true := by kernel_rfl
theorem size_of_sized {s : ByteArray} (h : s.data.toList.length ≤ reachBytes) : s.size ≤ 140737488351232 := by
  have : s.data.toList.length = s.size := by simp
  have e : reachBytes = 140737488351232 := by decide
  omega
theorem bulk_pos {H : Type} (d : DataW H) : 1 ≤ Rows.uptoBulk d := by
  cases d with
  | lit l => cases l <;> simp [Rows.uptoBulk]
  | _ => simp [Rows.uptoBulk]
theorem bulk_len {H : Type} (l : List (DataW H)) : l.length ≤ Rows.uptoBulkAll l := by
  induction l with
  | nil => simp [Rows.uptoBulkAll]
  | cons d r ih =>
    have := bulk_pos d
    simp only [Rows.uptoBulkAll, List.length_cons]
    omega
theorem bulk_string {H : Type} (s : ByteArray) : s.size ≤ Rows.uptoBulk (H := H) (.lit (.string s.data.toList)) := by
  simp [Rows.uptoBulk]
theorem bulk_nums {H : Type} {d : DataW H} {zs : List Int} (h : d = .nil ∧ zs = [] ∨ ∃ el sp, d = .slice el sp ∧ el.length = zs.length) : zs.length ≤ Rows.uptoBulk d := by
  rcases h with ⟨_, rfl⟩ | ⟨el, sp, rfl, h⟩
  · simp
  · have := bulk_len el
    simp only [Rows.uptoBulk]
    omega
theorem bulk_of {H : Type} {l : List (DataW H)} (h : Rows.uptoSmall H l = true) : Rows.uptoBulkAll l ≤ 1048576 := of_decide_eq_true h

end Go.Proofs.YtnodeapjgicclaaDoor
namespace Go.Proofs.YtnodeapjgicclaaDoor
open Go.ChangeShapes Go.WideShapes Go.ChangeAt Go.RowKit
set_option linter.unusedVariables false

/-- The five variables, as the rows list them. -/
def laidL : List (String × DataW Unit) := [("math/bits.deBruijn32tab", Rows.laid_math_bits_deBruijn32tab), ("math/bits.deBruijn64tab", Rows.laid_math_bits_deBruijn64tab), ("internal/strconv.uint64pow10", Rows.laid_internal_strconv_uint64pow10), ("strconv.ErrRange", Rows.laid_strconv_ErrRange), ("strconv.ErrSyntax", Rows.laid_strconv_ErrSyntax)]
theorem gTab64 : Tryd.prog.globalNamed "math/bits.deBruijn64tab" = some 6 := by kernel_rfl
theorem gPow : Tryd.prog.globalNamed "internal/strconv.uint64pow10" = some 3 := by kernel_rfl
theorem gRange : Tryd.prog.globalNamed "strconv.ErrRange" = some 2 := by kernel_rfl
theorem gSyntax : Tryd.prog.globalNamed "strconv.ErrSyntax" = some 1 := by kernel_rfl
theorem tTab64 : (Tryd.prog.globals[6]?).map (·.type) = some 139 := by kernel_rfl
theorem tPow : (Tryd.prog.globals[3]?).map (·.type) = some 128 := by kernel_rfl
theorem tRange : (Tryd.prog.globals[2]?).map (·.type) = some 24 := by kernel_rfl
theorem tSyntax : (Tryd.prog.globals[1]?).map (·.type) = some 24 := by kernel_rfl
theorem laid_of {W : World} (h : laidMetH Tryd.prog laidL W) : LaidW W ∧ LaidZ W := by
  rw [MakeChecks.laidMetH_plain _ _ _ (by kernel_rfl)] at h
  obtain ⟨ps, ⟨g0, t0, cs0, f0, p0, q0, hg0, ht0, hv0, hd0, ⟨g1, t1, cs1, f1, p1, q1, hg1, ht1, hv1, hd1, ⟨g2, t2, cs2, f2, p2, q2, hg2, ht2, hv2, hd2, ⟨g3, t3, cs3, f3, p3, q3, hg3, ht3, hv3, hd3, ⟨g4, t4, cs4, f4, p4, q4, hg4, ht4, hv4, hd4, _, _⟩, _⟩, _⟩, _⟩, _⟩, _, _⟩ := h
  obtain rfl := Option.some.inj (gTab64.symm.trans hg1)
  obtain rfl := Option.some.inj (tTab64.symm.trans ht1)
  obtain rfl := Option.some.inj (gPow.symm.trans hg2)
  obtain rfl := Option.some.inj (tPow.symm.trans ht2)
  obtain rfl := Option.some.inj (gRange.symm.trans hg3)
  obtain rfl := Option.some.inj (tRange.symm.trans ht3)
  obtain rfl := Option.some.inj (gSyntax.symm.trans hg4)
  obtain rfl := Option.some.inj (tSyntax.symm.trans ht4)
  have k1 := Lib.cells_of_tab (k := .u8) (zs := [0, 1, 56, 2, 57, 49, 28, 3, 61, 58, 42, 50, 38, 29, 17, 4, 62, 47, 59, 36, 45, 43, 51, 22, 53, 39, 33, 30, 24, 18, 12, 5, 63, 55, 48, 27, 60, 41, 37, 16, 46, 35, 44, 21, 52, 32, 23, 11, 54, 26, 40, 15, 34, 20, 31, 10, 25, 14, 19, 9, 13, 8, 7, 6]) Tryd.underlying139 Tryd.underlying5 (by kernel_rfl) (by kernel_rfl) hd1
  have k2 := Lib.cells_of_tab (k := .u64) (zs := Lib.pow10Tab) Tryd.underlying128 Tryd.underlying115 (by kernel_rfl) (by kernel_rfl) hd2
  obtain ⟨_, u3, v3, e3, _, _⟩ := iface_of_trod Tryd.underlying24 hd3
  obtain ⟨_, u4, v4, e4, _, _⟩ := iface_of_trod Tryd.underlying24 hd4
  have c3 := World.var?_cell gRange hv3 0
  have c4 := World.var?_cell gSyntax hv4 0
  have c1 := World.var?_cell gTab64 hv1 15
  refine ⟨⟨⟨u4, v4, ?_⟩, ⟨u3, v3, ?_⟩, ?_⟩, ?_⟩
  · rw [c4, ← Array.getElem?_toList, e4]; rfl
  · rw [c3, ← Array.getElem?_toList, e3]; rfl
  · show W.var? _ _ = _
    rw [hv2, ← k2]
  · show W.cell? _ = _
    rw [c1, ← Array.getElem?_toList, k1]
    rfl
theorem door_met (os : Os) (args : Array Value) : laidMetH Tryd.prog laidL ((World.doorLaid Tryd.prog 100 os).forCall (fun _ _ => 0) ⟨#[], args, []⟩).memory :=
  laidMetH_of_parts3 (fuel := 8) (laidMet_of_run' 8 (by kernel_rfl) (by kernel_rfl)) (by kernel_rfl) (by kernel_rfl)
end Go.Proofs.YtnodeapjgicclaaDoor
namespace Go.Proofs.YtnodeapjgicclaaDoor
open Go.ChangeShapes Go.WideShapes Go.ChangeAt Go.RowKit
set_option linter.unusedVariables false

theorem gErrT : Tryd.prog.globalNamed "errors.errorType" = some 0 := by kernel_rfl
theorem errOnly : ((List.range Tryd.prog.types.size).filter fun t => Tryd.prog.rowNamed t [101, 114, 114, 111, 114]) = [24] := by kernel_rfl
theorem cutRt : (Tryd.prog.cutTypes.find? (·.1 == "internal/reflectlite.rtype")).map (·.2) = some 90 := by kernel_rfl
theorem handErr (ty : TypeId) (h : ty = 24) : typeHandle Tryd.prog ty = .pointer (some ⟨7, 24, none⟩) := by subst h; kernel_rfl
theorem laid_of6 {W : World} {L : List (String × DataW Unit)} (hL : (L.filter fun x => x.2.handleName?.isNone) = laidL) (hH : (L.filter fun x => x.2.handleName?.isSome) = [("errors.errorType", Rows.laid_errors_errorType)]) (h : laidMetH Tryd.prog L W) : LaidW W ∧ LaidZ W ∧ LaidE W := by
  unfold laidMetH at h
  rw [hH] at h
  obtain ⟨h1, h2⟩ := h
  rw [hL] at h1
  obtain ⟨a, b⟩ := laid_of (W := W) (by rw [MakeChecks.laidMetH_plain _ _ _ (by kernel_rfl)]; exact h1)
  have h3 := h2 _ (List.mem_singleton.2 rfl)
  simp only [show (Rows.laid_errors_errorType : DataW Unit).funcsIn? = none from rfl] at h3
  obtain ⟨name, u, ty, e1, e2, e3, e4, e5⟩ := h3
  have en : name = [101, 114, 114, 111, 114] := (Option.some.inj ((show (Rows.laid_errors_errorType : DataW Unit).handleName? = some [101, 114, 114, 111, 114] from rfl).symm.trans e1)).symm
  subst en
  obtain rfl := Option.some.inj (cutRt.symm.trans e2)
  have hm : ty ∈ (List.range Tryd.prog.types.size).filter fun t => Tryd.prog.rowNamed t [101, 114, 114, 111, 114] := List.mem_filter.2 ⟨List.mem_range.2 e3, e4⟩
  rw [errOnly] at hm
  have ht := List.mem_singleton.1 hm
  refine ⟨a, b, ?_⟩
  have c := World.var?_cell gErrT e5 0
  rw [handErr ty ht] at c
  unfold LaidE
  rw [c]
  rfl
theorem door_met6 (os : Os) (args : Array Value) {L : List (String × DataW Unit)} (hL : (L.filter fun x => x.2.handleName?.isNone) = laidL)
    (hH : (L.filter fun x => x.2.handleName?.isSome && x.2.funcsIn?.isNone) = [("errors.errorType", Rows.laid_errors_errorType)]) (hF : funcsListed L = []) : laidMetH Tryd.prog L ((World.doorLaid Tryd.prog 100 os).forCall (fun _ _ => 0) ⟨#[], args, []⟩).memory :=
  laidMetH_of_parts3 (fuel := 8) (by rw [hL]; exact laidMet_of_run' 8 (by kernel_rfl) (by kernel_rfl)) (by rw [hH]; kernel_rfl) (by rw [hF]; rfl)
end Go.Proofs.YtnodeapjgicclaaDoor
namespace Go.Proofs.YtnodeapjgicclaaDoor.scanApart
open Go.ChangeShapes Go.WideShapes Go.ChangeAt Go.RowKit Go.Proofs.YtnodeapjgicclaaDoor
set_option linter.unusedVariables false

set_option maxRecDepth 100000 in
theorem contract (H : Type) (enc : TypeId × Value → H) (W : World) (base : Nat) (args : Array Value) (ds gs : List (DataW H)) (before : List MemPlace)
    (hval : ∀ (j : Nat) t v, Tryd.f4.params[j]? = some t → args[j]? = some v → Value.okWide Tryd.prog W .any base t v)
    (hW : DataW.Whole enc Tryd.prog Tryd.f4.params.toList Rows.scanApartSpec.vars false W args.toList ds gs before) (hk : Rows.uptoSmall H (ds ++ gs) = true) (hlaid : laidMetH Tryd.prog Rows.scanApartUptoRow.laid W) :
    Calls Tryd.prog 4 args W fun e W' => ∃ v, e = .returned v ∧ Rows.scanApartSpec.post enc Tryd.prog Tryd.f4 false true false false W args v W' := by
  have hW' := hW
  obtain ⟨hL, hZ, hE⟩ := laid_of6 rfl rfl hlaid
  obtain ⟨p, q, hA0, hV, rfl, hfz, hnd⟩ := hW
  have hA : DataW.TrodAll enc Tryd.prog W 0 (fun _ => true) true Tryd.f4.params.toList args.toList ds p := hA0
  rw [Tryd.params4] at hA hval
  obtain ⟨v0, vs0, d0, ds0, p0, q0, hargs, rfl, rfl, h0, r0⟩ := trodAll_cons hA
  obtain ⟨v1, vs1, d1, ds1, p1, q1, rfl, rfl, rfl, h1, r1⟩ := trodAll_cons r0
  obtain ⟨rfl, rfl, rfl⟩ := trodAll_nil r1
  obtain rfl : args = #[v0, v1] := by cases args; simp_all
  obtain ⟨rfl, rfl⟩ := trodVars_none hV
  have hb := bulk_of hk
  simp only [List.append_nil, Rows.uptoBulkAll] at hb
  obtain ⟨a0, rfl, rfl, rfl, l0⟩ := Go.ChangeMaps.open_string Tryd.underlying9 (hval 0 9 v0 rfl rfl) h0
  have m0 := bulk_string (H := H) a0
  have n0 : a0.size ≤ 9223372036854775807 := l0
  obtain ⟨a1, rfl, rfl, rfl, l1⟩ := Go.ChangeMaps.open_string Tryd.underlying9 (hval 1 9 v1 rfl rfl) h1
  have m1 := bulk_string (H := H) a1
  have n1 : a1.size ≤ 9223372036854775807 := l1
  clear hA0
  refine (apart_road a0 a1 W (by omega) (by omega) hL hZ hE).mono fun e W' ⟨he, bel⟩ => ?_
  subst he
  exact ⟨_, rfl, _, _, _, [], _, [], hW', trodAll_mk1 (shut_bool Tryd.underlying4 _), (trodAll_cons_mk (Go.ChangeMaps.shut_string Tryd.underlying9 l0) (trodAll_cons_mk (Go.ChangeMaps.shut_string Tryd.underlying9 l1) trodAll_mk0)), rfl, bel.frame _, fun h => by cases h⟩

theorem reads (os : Os) {H : Type} (enc : TypeId × Value → H) : ∃ places, DataW.whole enc Tryd.prog ((World.doorLaid Tryd.prog 100 os).forCall (fun _ _ => 0) ⟨#[], #[.string ⟨#[]⟩, .string ⟨#[]⟩], []⟩).memory Tryd.f4.params.toList Rows.scanApartSpec.vars false (#[.string ⟨#[]⟩, .string ⟨#[]⟩] : Array Value).toList 8 = some ([.lit (.string []), .lit (.string [])], [], places) :=
  ⟨[], by kernel_rfl⟩

set_option maxRecDepth 100000 in
theorem liftedUpto (os : Os) (started : os.Started) (H : Type) (enc : TypeId × Value → H) (F : Stop.Interp) :
    ReturnsInHanded {} Tryd.checked os 4 .any ((Rows.OpenSpec.upto Rows.scanApartSpec).preRow enc Tryd.prog Tryd.f4 Rows.scanApartUptoRow.domain false Rows.scanApartUptoRow.laid) (((Rows.OpenSpec.upto Rows.scanApartSpec).at F).post enc Tryd.prog Tryd.f4 false true false false) := by
  obtain ⟨places, hx⟩ := reads os enc
  refine returnsInHanded_of_row (C := Tryd.checked) (s := Rows.OpenSpec.upto Rows.scanApartSpec) own started (by kernel_rfl) Tryd.func4
    (witness_row_atRef (enc := enc) (C := Tryd.checked) false (World.doorLaid Tryd.prog 100 os) #[.string ⟨#[]⟩, .string ⟨#[]⟩] rfl (by kernel_rfl) (by kernel_rfl) (by kernel_rfl)
      (OpenSpec.preRow_of_cond 8 hx (by kernel_rfl) (fun k hk => by cases hk; kernel_rfl) (by kernel_rfl) (door_met6 os _ rfl rfl rfl))) ?_
  intro W base args ds gs before hval hW _ hcond hsz hL _ _
  exact contract H enc W base args ds gs before hval hW (hcond _ rfl) hL

theorem saidUpto : Rows.ScanApartUptoSaid :=
  OpenClaim.holds_of_cond 4 Tryd.f4 rfl rfl rfl rfl rfl rfl rfl ⟨rfl, rfl, rfl, rfl, rfl⟩ rfl rfl rfl rfl rfl (by kernel_rfl) Tryd.func4 (by kernel_rfl)
    (of_decide_eq_true (by kernel_rfl)) (by unfold Func.isWrapper; first | (rw [if_pos (by decide +kernel)]; kernel_rfl) | (rw [if_neg (by decide +kernel)]; exact ⟨rfl, rfl⟩))
    (fun os started H enc _ F => by rw [OpenClaim.pre_eq_preRow]; exact liftedUpto os started H enc F)

theorem plain (f : FuncId) (fn : Func) (hf : Tryd.pinned.checked.prog.funcNamed "vellum/vellumlaw07.ScanApart" = some f) (hfn : Tryd.pinned.checked.prog.funcs[f]? = some fn) :
    true = Tryd.pinned.checked.prog.looks [] ∧ ∀ (j : Nat) t, fn.params[j]? = some t → Tryd.pinned.checked.prog.wantsStandIn t = false := by
  obtain rfl : f = 4 := Option.some.inj ((show Tryd.prog.funcNamed "vellum/vellumlaw07.ScanApart" = some 4 by kernel_rfl).symm.trans hf) |>.symm
  obtain rfl : fn = Tryd.f4 := (Option.some.inj (Tryd.func4.symm.trans hfn)).symm
  refine ⟨by kernel_rfl, fun j t ht => ?_⟩
  rw [Tryd.params4] at ht
  have hm := Array.mem_of_getElem? ht
  simp at hm
  rcases hm with rfl
  all_goals first | exact (show Tryd.prog.wantsStandIn _ = false by kernel_rfl)

theorem cardUpto : Rows.ScanApartUptoCardSaid :=
  Claim7.holds_tied_plain_at .later [] _ _ _ _ saidUpto (fun _ h => by cases h) (by kernel_rfl) (fun _ h => by cases h) scanApartUpto_row_tie rfl ⟨rfl, rfl⟩ (by kernel_rfl) rfl plain (by kernel_rfl)
end Go.Proofs.YtnodeapjgicclaaDoor.scanApart

namespace Go.Proofs.YtnodeapjgicclaaDoor
/-- ScanApart, as its card states it for what is of bounded bulk. -/
theorem scanApart_card : Rows.ScanApartUptoCardSaid := scanApart.cardUpto
#print axioms scanApart_card
end Go.Proofs.YtnodeapjgicclaaDoor
