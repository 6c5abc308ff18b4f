/- Maps from ints, key by key: a look-up, a store, a deletion, a range, at the operation. The elements are pointers to blocks, or numbers. -/
import Derived.Test.YtgfgihpkbbjkfaaBase
import Derived.Maps.OwnSet
import Derived.Maps.RangeWalk
import Derived.Maps.Ext
import Derived.Deep.MidRow
namespace Go.Proofs.Ytgfgihpkbbjkfaa
open Go.RowKit
set_option linter.unusedVariables false

theorem keyedI : Maps.Keyed Try.prog 3 := Maps.int_keyed Try.underlying3

/-- How an element reads: a pointer to a block as that block. -/
def ptrE : Value → Option (DataW Nat × List MemPlace)
  | .pointer (some ⟨b, 0, none⟩) => some (.held b, [])
  | .pointer none => some (.nil, [])
  | _ => none
def ptrV (p : Nat) : Value := .pointer (some ⟨p, 0, none⟩)
def numV (p : Nat) : Value := .int .i64 (p : Int)
def numD (p : Nat) : DataW Nat := .lit (.int .i64 (p : Int))

theorem ptrE_inv {v : Value} {p : Nat} {ps : List MemPlace} (h : ptrE v = some (.held p, ps)) : v = ptrV p := by
  unfold ptrE at h
  split at h
  · cases h; rfl
  · cases h
  · cases h
theorem numE_inv {v : Value} {p : Nat} {ps : List MemPlace} (h : plainElem (H := Nat) Try.prog 3 v = some (numD p, ps)) : v = numV p := by
  obtain ⟨a, rfl, hz, _⟩ := plainElem_int_inv Try.underlying3 h
  simp only [numD, Prod.mk.injEq, DataW.lit.injEq, Lit.int.injEq] at hz
  unfold numV
  rw [hz.1.2]

/-- What an element's reading is good for. -/
structure ElemL (R : Value → Option (DataW Nat × List MemPlace)) (enc : Nat → DataW Nat) (mk : Nat → Value) (z : Value) (zd : DataW Nat) : Prop where
  inv : ∀ v p ps, R v = some (enc p, ps) → v = mk p
  zero : R z = some (zd, [])
  zinv : ∀ v ps, R v = some (zd, ps) → v = z
theorem ptrL : ElemL ptrE DataW.held ptrV (.pointer none) .nil where
  inv := fun v p ps h => ptrE_inv h
  zero := rfl
  zinv := fun v ps h => by
    unfold ptrE at h
    split at h
    · cases h
    · rfl
    · cases h
theorem numL : ElemL (plainElem Try.prog 3) numD numV (.int .i64 0) (numD 0) where
  inv := fun v p ps h => numE_inv h
  zero := plainElem_int Try.underlying3 (by decide)
  zinv := fun v ps h => numE_inv h

/-- What a map holds, key by key. -/
def Keys (enc : Nat → DataW Nat) (D : DataW Nat) (f : Int → Option Nat) : Prop :=
  ∀ x : Int, Maps.has D (.int .i64 x) = (f x).isSome ∧ ∀ p, f x = some p → ∀ z, D.atKey (.int .i64 x) z = enc p
/-- Block b is a map of at most N entries that holds f. -/
def MapG (R : Value → Option (DataW Nat × List MemPlace)) (enc : Nat → DataW Nat) (w : World) (b N : Nat) (f : Int → Option Nat) : Prop :=
  ∃ n D, n ≤ N ∧ w.ownsMap Try.prog 3 R b n D ∧ Keys enc D f
/-- A range over it is under way. -/
def RanG (R : Value → Option (DataW Nat × List MemPlace)) (enc : Nat → DataW Nat) (w : World) (b r N : Nat) (f : Int → Option Nat) (left : Int → Bool) : Prop :=
  ∃ n D l cnt, n ≤ N ∧ w.ranges Try.prog 3 R b r n D l cnt ∧ Keys enc D f ∧ ∀ x : Int, l (.int .i64 x) = left x

section
variable {R : Value → Option (DataW Nat × List MemPlace)} {enc : Nat → DataW Nat} {mk : Nat → Value} {z : Value} {zd : DataW Nat} {w : World} {b r N : Nat} {f : Int → Option Nat} {left : Int → Bool}

theorem MapG.of_block {w' : World} (h : MapG R enc w b N f) (e : w'.heap[b]? = w.heap[b]?) : MapG R enc w' b N f := by
  obtain ⟨n, D, hn, ⟨es, clock, hb, hr⟩, hk⟩ := h
  exact ⟨n, D, hn, ⟨es, clock, e.trans hb, hr⟩, hk⟩
theorem MapG.mono (h : MapG R enc w b N f) {N' : Nat} (hN : N ≤ N') : MapG R enc w b N' f := by
  obtain ⟨n, D, hn, ho, hk⟩ := h
  exact ⟨n, D, Nat.le_trans hn hN, ho, hk⟩
theorem MapG.lt (h : MapG R enc w b N f) : b < w.heap.size := by
  obtain ⟨n, D, hn, ho, hk⟩ := h
  exact ho.lt
theorem MapG.block (h : MapG R enc w b N f) : ∃ es clock, w.heap[b]? = some (.map es clock) := by
  obtain ⟨n, D, hn, ⟨es, clock, hb, _⟩, hk⟩ := h
  exact ⟨es, clock, hb⟩
theorem MapG.congr (h : MapG R enc w b N f) {g : Int → Option Nat} (e : ∀ x, f x = g x) : MapG R enc w b N g := by
  obtain ⟨n, D, hn, ho, hk⟩ := h
  exact ⟨n, D, hn, ho, fun x => by rw [← e x]; exact hk x⟩
theorem MapG.made (R : Value → Option (DataW Nat × List MemPlace)) (enc : Nat → DataW Nat) (w : World) : MapG R enc (w.alloc (.map #[] 0)) w.heap.size 0 (fun _ => none) :=
  ⟨0, _, Nat.le_refl _, World.ownsMap_made w _ _ R, fun x => ⟨rfl, fun p h => by cases h⟩⟩
theorem RanG.map (h : RanG R enc w b r N f left) : MapG R enc w b N f := by
  obtain ⟨n, D, l, cnt, hn, hr, hk, hl⟩ := h
  exact ⟨n, D, hn, hr.owns, hk⟩
theorem RanG.kept {w' : World} (h : RanG R enc w b r N f left) (e : w'.heap[b]? = w.heap[b]?) (e' : w'.heap[r]? = w.heap[r]?) : RanG R enc w' b r N f left ∧ w'.rangeLeft b r = w.rangeLeft b r := by
  obtain ⟨n, D, l, cnt, hn, ⟨es, clock, since, seen, c0, hb, F, hs, hD, hr, rest⟩, hk, hl⟩ := h
  refine ⟨⟨n, D, l, cnt, hn, ⟨es, clock, since, seen, c0, e.trans hb, F, hs, hD, e'.trans hr, rest⟩, hk, hl⟩, ?_⟩
  unfold World.rangeLeft
  rw [e, e']
theorem RanG.ne (h : RanG R enc w b r N f left) : r ≠ b := by
  obtain ⟨n, D, l, cnt, hn, hr, hk, hl⟩ := h
  exact hr.ne
theorem RanG.lt (h : RanG R enc w b r N f left) : r < w.heap.size := by
  obtain ⟨n, D, l, cnt, hn, hr, hk, hl⟩ := h
  exact hr.lt
theorem RanG.blockI (h : RanG R enc w b r N f left) : ∃ since seen c0, w.heap[r]? = some (.mapIter (some b) since seen c0) := by
  obtain ⟨n, D, l, cnt, hn, ⟨es, clock, since, seen, c0, hb, F, hs, hD, hr, rest⟩, hk, hl⟩ := h
  exact ⟨since, seen, c0, hr⟩
end

def ptrO : Option Nat → Value
  | none => .pointer none
  | some p => .pointer (some ⟨p, 0, none⟩)
theorem has_none {D : DataW Nat} {f : Int → Option Nat} {enc : Nat → DataW Nat} (hk : Keys enc D f) {x : Int} (h : f x = none) (z : DataW Nat) : D.atKey (.int .i64 x) z = z :=
  Maps.atKey_of_not_has (by rw [(hk x).1, h]; rfl) z

section
variable {w : World} {ops : Array Oper} {rest : List Oper} {o : Oper} {a : Act} {Q : Exit → Act → World → Prop}

theorem zeroPast (w : World) : (zeroValue 117).run Try.prog w = .ok (.pointer none) w := by kernel_rfl
/-- 'p, ok := m[i]'. -/
theorem wpList_look_ptr (hg : o.guard = none) (m x : Operand) (hop : o.op = Op.lookup 66 m x true) (b N : Nat) (f : Int → Option Nat) (hm : a.eval m = .map (some b)) (h : MapG ptrE DataW.held w b N f)
    (i : Int) (hx : a.eval x = .int .i64 i) (hi : (Lit.int .i64 i).wf = true) (hK : wpList Try.prog ops Q rest (a.put o.dst (.tuple #[ptrO (f i), .bool (f i).isSome])) w) : wpList Try.prog ops Q (o :: rest) a w := by
  obtain ⟨n, D, hn, ho, hk⟩ := h
  refine wpList_lookup_own_ok w hg m x 66 hop 3 117 keyedI Try.underlying66 ptrE (zeroPast w) .nil [] rfl b n D hm ho _ _ hx (Maps.keyOf_int_mk Try.underlying3 hi) ?_
  intro v ps hv
  rw [(hk i).1]
  cases hf : f i with
  | none =>
    rw [has_none hk hf] at hv
    rw [ptrL.zinv v ps hv]
    rw [hf] at hK
    exact hK
  | some p =>
    rw [(hk i).2 p hf] at hv
    rw [ptrL.inv v p ps hv]
    rw [hf] at hK
    exact hK
theorem wpList_look_some (hg : o.guard = none) (m x : Operand) (hop : o.op = Op.lookup 66 m x true) (b N : Nat) (f : Int → Option Nat) (hm : a.eval m = .map (some b)) (h : MapG ptrE DataW.held w b N f)
    (i : Int) (hx : a.eval x = .int .i64 i) (hi : (Lit.int .i64 i).wf = true) (p : Nat) (hp : f i = some p) (hK : wpList Try.prog ops Q rest (a.put o.dst (.tuple #[.pointer (some ⟨p, 0, none⟩), .bool true])) w) : wpList Try.prog ops Q (o :: rest) a w :=
  wpList_look_ptr hg m x hop b N f hm h i hx hi (by rw [hp]; exact hK)
theorem wpList_look_none (hg : o.guard = none) (m x : Operand) (hop : o.op = Op.lookup 66 m x true) (b N : Nat) (f : Int → Option Nat) (hm : a.eval m = .map (some b)) (h : MapG ptrE DataW.held w b N f)
    (i : Int) (hx : a.eval x = .int .i64 i) (hi : (Lit.int .i64 i).wf = true) (hp : f i = none) (hK : wpList Try.prog ops Q rest (a.put o.dst (.tuple #[.pointer none, .bool false])) w) : wpList Try.prog ops Q (o :: rest) a w :=
  wpList_look_ptr hg m x hop b N f hm h i hx hi (by rw [hp]; exact hK)
/-- 'p := m[i]'. -/
theorem wpList_look_ptr' (hg : o.guard = none) (m x : Operand) (hop : o.op = Op.lookup 66 m x false) (b N : Nat) (f : Int → Option Nat) (hm : a.eval m = .map (some b)) (h : MapG ptrE DataW.held w b N f)
    (i : Int) (hx : a.eval x = .int .i64 i) (hi : (Lit.int .i64 i).wf = true) (p : Nat) (hp : f i = some p) (hK : wpList Try.prog ops Q rest (a.put o.dst (.pointer (some ⟨p, 0, none⟩))) w) : wpList Try.prog ops Q (o :: rest) a w := by
  obtain ⟨n, D, hn, ho, hk⟩ := h
  refine wpList_plain hg fun K' hK' => ?_
  obtain ⟨v, ps, hrun, hv⟩ := ho.lookup keyedI Try.underlying66 (zeroPast w) (zd := .nil) (zp := []) rfl (Maps.keyOf_int_mk Try.underlying3 hi)
  rw [(hk i).2 p hp] at hv
  rw [ptrL.inv v p ps hv] at hrun
  unfold Oper.wp
  simp [execOp, hop, hm, hx, hrun, Result.andThen]
  exact hK' _ _ hK
theorem put_keys {enc : Nat → DataW Nat} {D : DataW Nat} {f : Int → Option Nat} (hD : Maps.IsMap D) (hk : Keys enc D f) (i : Int) (p : Nat) : Keys enc (D.put (.int .i64 i) (enc p)) (fun y => if y = i then some p else f y) := by
  intro y
  by_cases e : y = i
  · subst e
    simp only [if_true]
    have hy : WideAt.IsKeyLit (Lit.int .i64 y) := trivial
    exact ⟨Maps.has_put_same hD hy _, fun q hq z => by cases hq; exact Maps.atKey_put_same hD hy _ _⟩
  · have hne : Lit.int .i64 y ≠ Lit.int .i64 i := fun h => e (by cases h; rfl)
    simp only [if_neg e]
    exact ⟨(Maps.has_put_other hne _).trans (hk y).1, fun q hq z => (Maps.atKey_put_other hne _ _).trans ((hk y).2 q hq z)⟩
theorem del_keys {enc : Nat → DataW Nat} {D : DataW Nat} {f : Int → Option Nat} (hk : Keys enc D f) (i : Int) : Keys enc (D.del (.int .i64 i)) (fun y => if y = i then none else f y) := by
  intro y
  by_cases e : y = i
  · subst e
    simp only [if_true]
    exact ⟨Maps.has_del_same, fun q hq z => by cases hq⟩
  · have hne : Lit.int .i64 y ≠ Lit.int .i64 i := fun h => e (by cases h; rfl)
    simp only [if_neg e]
    exact ⟨(Maps.has_del_other hne).trans (hk y).1, fun q hq z => (Maps.atKey_del_other hne _).trans ((hk y).2 q hq z)⟩
/-- 'm[i] = p'. -/
theorem wpList_put_ptr (hg : o.guard = none) (m x v : Operand) (hop : o.op = Op.mapUpdate 66 m x v) (b N : Nat) (f : Int → Option Nat) (hm : a.eval m = .map (some b)) (h : MapG ptrE DataW.held w b N f) (hN : N < maxLen)
    (i : Int) (hx : a.eval x = .int .i64 i) (hi : (Lit.int .i64 i).wf = true) (p : Nat) (hv : a.eval v = .pointer (some ⟨p, 0, none⟩))
    (hK : ∀ w', MapG ptrE DataW.held w' b (N + 1) (fun y => if y = i then some p else f y) → w.grownBy w' (some b) → wpList Try.prog ops Q rest (a.put o.dst undef) w') : wpList Try.prog ops Q (o :: rest) a w := by
  obtain ⟨n, D, hn, ho, hk⟩ := h
  refine wpList_mapUpdate_own w hg m x v 66 hop 3 117 keyedI Try.underlying66 ptrE b n D hm ho (by omega) _ _ _ hx hv (Maps.keyOf_int_mk Try.underlying3 hi) (.held p) [] rfl ?_
  intro w' ho' hg'
  exact hK w' ⟨n + 1, _, by omega, ho', put_keys ho.isMap hk i p⟩ hg'
/-- 'm[i] = n'. -/
theorem wpList_put_num (hg : o.guard = none) (m x v : Operand) (hop : o.op = Op.mapUpdate 67 m x v) (b N : Nat) (f : Int → Option Nat) (hm : a.eval m = .map (some b)) (h : MapG (plainElem Try.prog 3) numD w b N f) (hN : N < maxLen)
    (i : Int) (hx : a.eval x = .int .i64 i) (hi : (Lit.int .i64 i).wf = true) (p : Nat) (hp : (Lit.int .i64 (p : Int)).wf = true) (hv : a.eval v = .int .i64 (p : Int))
    (hK : ∀ w', MapG (plainElem Try.prog 3) numD w' b (N + 1) (fun y => if y = i then some p else f y) → w.grownBy w' (some b) → wpList Try.prog ops Q rest (a.put o.dst undef) w') : wpList Try.prog ops Q (o :: rest) a w := by
  obtain ⟨n, D, hn, ho, hk⟩ := h
  refine wpList_mapUpdate_own w hg m x v 67 hop 3 3 keyedI Try.underlying67 (plainElem Try.prog 3) b n D hm ho (by omega) _ _ _ hx hv (Maps.keyOf_int_mk Try.underlying3 hi) (numD p) [] (plainElem_int Try.underlying3 hp) ?_
  intro w' ho' hg'
  exact hK w' ⟨n + 1, _, by omega, ho', put_keys ho.isMap hk i p⟩ hg'
/-- 'delete(m, i)'. -/
theorem wpList_del_ptr (hg : o.guard = none) (m x : Operand) (hop : o.op = Op.call { callee := Callee.builtin Builtin.delete, args := #[m, x], argTypes := #[66, 3] }) (b N : Nat) (f : Int → Option Nat) (hm : a.eval m = .map (some b)) (h : MapG ptrE DataW.held w b N f)
    (i : Int) (hx : a.eval x = .int .i64 i) (hi : (Lit.int .i64 i).wf = true)
    (hK : ∀ w', MapG ptrE DataW.held w' b N (fun y => if y = i then none else f y) → w.grownBy w' (some b) → wpList Try.prog ops Q rest (a.put o.dst (.tuple #[])) w') : wpList Try.prog ops Q (o :: rest) a w := by
  obtain ⟨n, D, hn, ho, hk⟩ := h
  refine wpList_delete_own w hg m x 66 3 hop 117 keyedI Try.underlying66 ptrE b n D hm ho _ _ hx (Maps.keyOf_int_mk Try.underlying3 hi) ?_
  intro w' ho' ht
  exact hK w' ⟨n, _, hn, ho', del_keys hk i⟩ ht.grown
theorem wpList_range_ptr (hg : o.guard = none) (m : Operand) (hop : o.op = Op.range 66 m) (b N : Nat) (f : Int → Option Nat) (hm : a.eval m = .map (some b)) (h : MapG ptrE DataW.held w b N f)
    (hK : ∀ w', RanG ptrE DataW.held w' b w.heap.size N f (fun x => (f x).isSome) → w.grownBy w' none → w'.heap.size = w.heap.size + 1 → wpList Try.prog ops Q rest (a.put o.dst (.pointer (some ⟨w.heap.size, 0, none⟩))) w') : wpList Try.prog ops Q (o :: rest) a w := by
  obtain ⟨n, D, hn, ho, hk⟩ := h
  refine wpList_range_own w hg m _ hop 3 117 keyedI Try.underlying66 ptrE b n D hm ho ?_
  intro w' hr hg' hs
  exact hK w' ⟨n, D, _, _, hn, hr, hk, fun x => (hk x).1⟩ hg' hs
theorem wpList_range_num (hg : o.guard = none) (m : Operand) (hop : o.op = Op.range 67 m) (b N : Nat) (f : Int → Option Nat) (hm : a.eval m = .map (some b)) (h : MapG (plainElem Try.prog 3) numD w b N f)
    (hK : ∀ w', RanG (plainElem Try.prog 3) numD w' b w.heap.size N f (fun x => (f x).isSome) → w.grownBy w' none → w'.heap.size = w.heap.size + 1 → wpList Try.prog ops Q rest (a.put o.dst (.pointer (some ⟨w.heap.size, 0, none⟩))) w') : wpList Try.prog ops Q (o :: rest) a w := by
  obtain ⟨n, D, hn, ho, hk⟩ := h
  refine wpList_range_own w hg m _ hop 3 3 keyedI Try.underlying67 (plainElem Try.prog 3) b n D hm ho ?_
  intro w' hr hg' hs
  exact hK w' ⟨n, D, _, _, hn, hr, hk, fun x => (hk x).1⟩ hg' hs
/-- A range's step. -/
theorem wpList_next_g {R : Value → Option (DataW Nat × List MemPlace)} {enc : Nat → DataW Nat} {mk : Nat → Value} {z : Value} {zd : DataW Nat} (L : ElemL R enc mk z zd) (hg : o.guard = none) (it : Operand) (hop : o.op = Op.next it false) (b r N : Nat) (f : Int → Option Nat) (left : Int → Bool)
    (hit : a.eval it = .pointer (some ⟨r, 0, none⟩)) (h : RanG R enc w b r N f left)
    (hDone : (∀ x, left x = false) → wpList Try.prog ops Q rest (a.put o.dst (.tuple #[.bool false])) w)
    (hMore : ∀ (x : Int) (p : Nat) (w' : World), (Lit.int .i64 x).wf = true → f x = some p → left x = true → RanG R enc w' b r N f (fun y => left y && !decide (y = x)) → w'.rangeLeft b r < w.rangeLeft b r → w.grownBy w' (some r) → w'.heap.size = w.heap.size →
      (Instr.entry (.pointer (some ⟨r, 0, none⟩))).run Try.prog w' = .ok (.tuple #[.int .i64 x, mk p]) w' → wpList Try.prog ops Q rest (a.put o.dst (.tuple #[.bool true, .int .i64 x, mk p])) w') :
    wpList Try.prog ops Q (o :: rest) a w := by
  obtain ⟨n, D, l, cnt, hn, hr, hk, hl⟩ := h
  refine wpList_plain hg fun K' hK' => ?_
  unfold Oper.wp
  rcases hr.next keyedI o.type with ⟨h0, hl0, hrun⟩ | ⟨key, v, kl, y, w', cnt', hkey, hlk, hv, hat, hrun, hrg, hlt, hgr, hsz, hen⟩
  · simp [execOp, hop, hit, hrun, Result.andThen]
    exact hK' _ _ (hDone fun x => by rw [← hl x]; exact hl0 _)
  · obtain ⟨x, rfl, rfl, hwx⟩ := Maps.keyOf_int_inv Try.underlying3 hkey
    have hh : (f x).isSome = true := by rw [← (hk x).1]; exact Maps.has_true_of_atKey hat
    obtain ⟨p, hp⟩ := Option.isSome_iff_exists.1 hh
    have hy : y.1 = enc p := by rw [← (hk x).2 p hp (.nil), hat]
    obtain rfl : v = mk p := L.inv v p y.2 (by rw [hv, ← hy])
    simp [execOp, hop, hit, hrun, Result.andThen]
    refine hK' _ _ (hMore x p w' hwx hp (by rw [← hl x]; exact hlk) ⟨n, D, _, cnt', hn, hrg, hk, fun y => ?_⟩ ?_ hgr hsz hen)
    · simp only [Lit.sameKey, hl y, true_and]
    · rw [hrg.left_eq, hr.left_eq]; exact hlt
end
end Go.Proofs.Ytgfgihpkbbjkfaa
