/- Package pmem: a line is flushed. -/
import Derived.Test.YtmlhibkofalamaaPDrq
namespace Go.Proofs.Ytmlhibkofalamaa
open Go.RowKit Go.Shelf
set_option linter.unusedVariables false

/-- 'm[i] = n', at the operation. -/
theorem wp_put_num {o : Oper} {a : Act} {w : World} {K : Act → World → Prop} {Q : Exit → Act → World → Prop} (m x v : Operand) (hop : o.op = Op.mapUpdate 55 m x v) (b N : Nat) (f : Int → Option Nat) (hm : a.eval m = .map (some b)) (h : MapG (plainElem Try.prog 3) numD w b N f) (hN : N < maxLen)
    (i : Int) (hx : a.eval x = .int .i64 i) (hi : (Lit.int .i64 i).wf = true) (p : Nat) (hp : (Lit.int .i64 (p : Int)).wf = true) (hv : a.eval v = .int .i64 (p : Int))
    (hK : ∀ w', MapG (plainElem Try.prog 3) numD w' b (N + 1) (fun y => if y = i then some p else f y) → w.grownBy w' (some b) → K (a.put o.dst undef) w') : o.wp Try.prog a w K Q := by
  obtain ⟨n, D, hn, ho, hk⟩ := h
  obtain ⟨w', hrun, r1, r2⟩ := ho.update keyedI Try.underlying55 (by omega : n < maxLen) (Maps.keyOf_int_mk Try.underlying3 hi) (plainElem_int Try.underlying3 hp)
  unfold Oper.wp
  simp [execOp, hop, hm, hx, hv, hrun, Result.andThen]
  exact hK w' ⟨n + 1, _, by omega, r1, put_keys ho.isMap hk i p⟩ r2
theorem wpAnyH_put_num {ops : Array Oper} {Q : Exit → Act → World → Prop} {md : Region.Mode} {S : World → Prop} {z : Nat} {o : Oper} {fuel : Nat} {listed : Array Bool} {a : Act} {w : World} (m x v : Operand) (b N : Nat) (f : Int → Option Nat) (i : Int) (p : Nat)
    (hr : Region.ready md ops listed = [z]) (ho : ops[z]? = some o) (hw : Region.wanted o (yielded ops a.tmps) = true) (hr' : Region.ready md ops (listed.setIfInBounds z true) = []) (hop : o.op = Op.mapUpdate 55 m x v) (hm : a.eval m = .map (some b)) (hx : a.eval x = .int .i64 i) (hv : a.eval v = .int .i64 (p : Int))
    (h : MapG (plainElem Try.prog 3) numD w b N f) (hN : N < maxLen) (hi : (Lit.int .i64 i).wf = true) (hp : (Lit.int .i64 (p : Int)).wf = true)
    (hK : ∀ w', MapG (plainElem Try.prog 3) numD w' b (N + 1) (fun y => if y = i then some p else f y) → w.grownBy w' (some b) → S w' ∧ Q .normal (a.put o.dst undef) w') : wpAnyH Try.prog md ops Q S (fuel + 1) listed a w :=
  wpAnyH_op hr ho hw hr' (wp_put_num m x v hop b N f hm h hN i hx hi p hp hv hK)
/-- What a Flush makes of a device. -/
def flushDo (σ : St) (i : Nat) : St := { σ with fl := fun j => if j = i ∧ σ.past i ≠ [] then some (σ.past i).length else σ.fl j, ops := σ.ops + 1 }
theorem flush_ok {σ : St} (h : σ.Ok) (i : Nat) (hops : σ.ops < 1400000000000) : (flushDo σ i).Ok := by
  refine ⟨h.pos, h.max, h.len, h.byte, h.out, h.clen, h.cbyte, fun j => ?_, fun j k hk => ?_, ?_⟩
  · have := h.few j
    show (σ.past j).length ≤ σ.ops + 1
    omega
  · have hk' : (if j = i ∧ σ.past i ≠ [] then some (σ.past i).length else σ.fl j) = some k := hk
    split at hk'
    · rename_i e
      obtain ⟨rfl, e2⟩ := e
      cases hk'
      exact ⟨Nat.le_refl _, e2⟩
    · exact h.flp j k hk'
  · show σ.ops + 1 ≤ _
    omega
theorem dev_fl {w w' : World} {b : Nat} {L : Lay} {σ : St} {f : Nat → Option Nat} (h : DevL w b L σ) (hg : w.grownBy w' (some L.fb)) (hm : MapG (plainElem Try.prog 3) numD w' L.fb (L.N + 1) (flF { σ with fl := f })) : DevL w' b { L with N := L.N + 1 } { σ with fl := f } := by
  obtain ⟨e2, q2, hfb⟩ := h.flm.block
  obtain ⟨e1, q1, hob⟩ := h.old.block
  have kc : ∀ (k : Nat) (c : Array Value) (t : TypeId) (fr : Nat × Nat), w.heap[k]? = some (.cells c t fr) → w'.heap[k]? = w.heap[k]? := fun k c t fr hk => hg.block k (lt_of_heap hk) (fun e => ne_map hk hfb (Option.some.inj e))
  refine ⟨(kc _ _ _ _ h.dev).trans h.dev, (kc _ _ _ _ h.seen).trans h.seen, (h.old.of_block (hg.block _ (lt_of_heap hob) (fun e => h.mne (Option.some.inj e)))).mono (Nat.le_succ _), hm, fun i hi => (h.pasts i hi).keep (kc _ _ _ _ (h.pasts i hi).1) (fun g hg' => ?_), h.pne, h.rne, h.mne, h.arms.keep (fun g hg' => ?_) (fun g hg' => ?_), fun k hk => ?_⟩
  · obtain ⟨c, hc⟩ := (h.pasts i hi).row hg'
    exact kc _ _ _ _ hc
  · obtain ⟨c, hc⟩ := h.av_row hg'
    exact kc _ _ _ _ hc
  · obtain ⟨c, hc⟩ := h.kbt g hg'
    exact kc _ _ _ _ hc
  · obtain ⟨c, hc⟩ := h.kbt k hk
    exact ⟨c, (kc _ _ _ _ hc).trans hc⟩
section
variable {w : World} {b : Nat} {L : Lay} {σ : St}
end
end Go.Proofs.Ytmlhibkofalamaa
