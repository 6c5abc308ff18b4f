/- What lines.Count, lines.Line, lines.Where and lines.Place answer. -/
import Derived.Test.YtedfnppekikcpaaLLines
namespace Go.Proofs.Ytedfnppekikcpaa
open Go.RowKit Go.Shelf
set_option linter.unusedVariables false
attribute [local go_sem] Oper.semAt_some

theorem take_of_pre {α : Type} {pre xs : List α} {x : α} (h : pre ++ [x] <+: xs) : pre.length < xs.length ∧ xs[pre.length]? = some x := by
  have hl := h.length_le
  simp only [List.length_append, List.length_singleton] at hl
  refine ⟨by omega, ?_⟩
  have h2 := List.prefix_iff_eq_take.1 h
  have h3 : (pre ++ [x])[pre.length]? = some x := by simp
  rw [h2, List.getElem?_take] at h3
  simp only [List.length_append, List.length_singleton] at h3
  rwa [if_pos (by omega)] at h3

theorem celOf {w : World} {B : Nat} {cs : Array Value} {t : TypeId} (h : w.heap[B]? = some (.cells cs t (0, 0))) (i : Nat) (v : Value) (hv : cs[i]? = some v) : w.cell? ⟨B, i, none⟩ = some v := by
  simp only [World.cell?, h]
  exact hv
theorem frzOf {w : World} {B : Nat} {cs : Array Value} {t : TypeId} (h : w.heap[B]? = some (.cells cs t (0, 0))) (i : Nat) : w.frozen? ⟨B, i, none⟩ = false := by
  simp only [World.frozen?, h]
  simp
/-- A variable of two cells. -/
def Box2 (W : World) (B : Nat) (t : TypeId) (v0 v1 : Value) : Prop := W.heap[B]? = some (.cells #[v0, v1] t (0, 0))
theorem Box2.set {W : World} {B : Nat} {t : TypeId} {a0 a1 : Value} (h : Box2 W B t a0 a1) (v0 v1 : Value) : Box2 ((W.setCell ⟨B, 0, none⟩ v0).setCell ⟨B, 1, none⟩ v1) B t v0 v1 := by
  have R1 := heap_setCell_same W B 0 _ _ v0 h
  exact heap_setCell_same _ B 1 _ _ v1 R1
theorem Box2.c1 {W : World} {B : Nat} {t : TypeId} {a0 a1 : Value} (h : Box2 W B t a0 a1) (v0 : Value) : (W.setCell ⟨B, 0, none⟩ v0).cell? ⟨B, 1, none⟩ = some a1 := celOf (heap_setCell_same W B 0 _ _ v0 h) 1 _ rfl
theorem Box2.other {W : World} {B b o : Nat} {t : TypeId} {a0 a1 : Value} (h : Box2 W B t a0 a1) (hne : B ≠ b) (v : Value) : Box2 (W.setCell ⟨b, o, none⟩ v) B t a0 a1 := (Below.heap_setCell W ⟨b, o, none⟩ v B hne).trans h
theorem oth {W : World} {B b o : Nat} {t : TypeId} {a : Value} (h : Boxed W B t a) (hne : B ≠ b) (v : Value) : Boxed (W.setCell ⟨b, o, none⟩ v) B t a := (Below.heap_setCell W ⟨b, o, none⟩ v B hne).trans h
theorem Box2.below {W W' : World} {b : Nat} {t : TypeId} {v u : Value} (h : Below W.heap.size W W') (hb : Box2 W b t v u) : Box2 W' b t v u :=
  (h.block b (Array.getElem?_eq_some_iff.1 (show W.heap[b]? = _ from hb)).1).trans hb
theorem Stab.box2 {β : Type} {H : TypeId → Prop} {B b : Nat} (t : TypeId) (v0 v1 : Value) (hb : b < B) : Stab H B (fun (_ : β) W => Box2 W b t v0 v1) := fun s W W' hJ hs => hs.2 b _ hJ (.inl hb)
theorem Kp.set' {H : TypeId → Prop} {N : Nat → Prop} {B b o : Nat} {W : World} (u : Value) (hn : ¬ N b) (hB : b < B) : Kp H N B W (W.setCell ⟨b, o, none⟩ u) := by
  refine ⟨⟨rfl, rfl, rfl, by simp [World.setCell]⟩, fun k o2 hk hc => ?_⟩
  refine (Below.heap_setCell W ⟨b, o, none⟩ u k (fun e => ?_)).trans hk
  have e' : k = b := e
  subst e'
  rcases hc with h1 | h1
  · exact hn h1
  · omega
/-- What a function answers whose three results lie in variables of its own. -/
theorem results_row_cells {P : Program} {fn : Func} {p q u : Tmp} {ty ty1 ty2 : TypeId} (h : fn.results = #[.cell p ty, .cell q ty1, .cell u ty2]) (tmps : Array Value) (w : World) (g g1 g2 : Nat) (t t1 t2 : TypeId) (v0 v1 v2 v3 : Value) (d : TypeDesc)
    (hp : tmps.getD p undef = .pointer (some ⟨g, 0, none⟩)) (hq : tmps.getD q undef = .pointer (some ⟨g1, 0, none⟩)) (hu' : tmps.getD u undef = .pointer (some ⟨g2, 0, none⟩)) (hg : Box2 w g t v0 v1) (hg1 : Boxed w g1 t1 v2) (hg2 : Boxed w g2 t2 v3)
    (hu : P.underlying ty = some d) (hd : (match d with | .struct _ | .array _ _ => true | _ => false) = true) (hi : (P.info? ty).map (·.size) = some 2)
    (h1 : ∀ w' : World, w'.cell? ⟨g1, 0, none⟩ = some v2 → (loadVar ty1 ⟨g1, 0, none⟩).run P w' = .ok v2 w') (h2 : ∀ w' : World, w'.cell? ⟨g2, 0, none⟩ = some v3 → (loadVar ty2 ⟨g2, 0, none⟩).run P w' = .ok v3 w') :
    (results fn tmps).run P w = .ok (.tuple #[.agg #[v0, v1], v2, v3]) w := by
  have hp' : tmps[p]?.getD undef = .pointer (some ⟨g, 0, none⟩) := by simpa using hp
  have hq' : tmps[q]?.getD undef = .pointer (some ⟨g1, 0, none⟩) := by simpa using hq
  have hu'' : tmps[u]?.getD undef = .pointer (some ⟨g2, 0, none⟩) := by simpa using hu'
  have e1 := h1 w hg1.cell
  have e2 := h2 w hg2.cell
  simp [results, h, hp', hq', hu'', asAddr, run_loadVar_row w g t ty #[v0, v1] (0, 0) d hg hu hd hi, e1, e2, Sem.run_bind, Result.andThen]

theorem load_int {w : World} {g : Nat} {v : Value} (h : w.cell? ⟨g, 0, none⟩ = some v) : (loadVar 3 ⟨g, 0, none⟩).run Try.prog w = .ok v w := by
  simp [loadVar, Sem.run_bind, Try.isAgg3, h, go_sem]
theorem load_err {w : World} {g : Nat} {v : Value} (h : w.cell? ⟨g, 0, none⟩ = some v) : (loadVar 48 ⟨g, 0, none⟩).run Try.prog w = .ok v w := by
  simp [loadVar, Sem.run_bind, Try.isAgg48, h, go_sem]
theorem put_kept {W : World} {D b : Nat} {o o1 : Obj} (o' : Obj) (hK : W.heap[D]? = some o) (hb : W.heap[b]? = some o1) (hne : b ≠ D) : (W.putObj D o').heap[b]? = some o1 := (World.putObj_heap_other hne).trans hb

/-- The answer of Line. -/
def lineV (l : List UInt8) (n : Int) : (Int × Int) × Int × Int := if 0 ≤ n ∧ n < ((Ls l).length : Int) then (match (Ls l)[n.toNat]? with | some x => (((x.1 : Int), (x.2.1 : Int)), (x.2.2 : Int), 0) | none => ((0, 0), 0, 6)) else ((0, 0), 0, 6)
def encLV (v : (Int × Int) × Int × Int) : Value := .tuple #[.agg #[.int .i64 v.1.1, .int .i64 v.1.2], .int .i64 v.2.1, .int .i64 v.2.2]

end Go.Proofs.Ytedfnppekikcpaa
