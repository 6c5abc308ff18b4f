/- Package pmem: a run of contents is built out of a content and a number; a slice of one. -/
import Derived.Test.YtgfgihpkbbjkfaaPSm
import Derived.Laws.Tables
import Derived.Great.FillDense
import Derived.Great.BuildSlice
import Derived.Maps.AppendAt
namespace Go.Proofs.Ytgfgihpkbbjkfaa
open Go.RowKit
set_option linter.unusedVariables false

theorem fill_two (n : Nat) (X : List Value) (v : Value) (Z : Array Value) (hx : X.length = n) (hz : Z.size = n + 1) (hv : v.cells = #[v]) :
    Instr.fill (([(0, n), (n, 1)] : List (Nat × Nat)).toArray[·]?) Z [(0, .agg X.toArray), (1, v)] = some (X ++ [v]).toArray := by
  have c1 : (Value.agg X.toArray).cells = X.toArray := rfl
  have h1 := Great.foldl_set 0 X 0 Z
  have e1 : X.toArray.zipIdx.foldl (fun (cs : Array Value) (x : Value × Nat) => cs.setIfInBounds (0 + x.2) x.1) Z = (X.zipIdx 0).foldl (fun (cs : Array Value) (x : Value × Nat) => cs.setIfInBounds (0 + x.2) x.1) Z := by
    rw [← Array.foldl_toList]; simp
  have e2 : ∀ cs : Array Value, (#[v] : Array Value).zipIdx.foldl (fun (cs : Array Value) (x : Value × Nat) => cs.setIfInBounds (n + x.2) x.1) cs = cs.setIfInBounds n v := fun cs => by
    rw [← Array.foldl_toList]; simp
  generalize hY : (X.zipIdx 0).foldl (fun (cs : Array Value) (x : Value × Nat) => cs.setIfInBounds (0 + x.2) x.1) Z = Y at *
  have g0 : ([(0, n), (n, 1)] : List (Nat × Nat)).toArray[0]? = some (0, n) := rfl
  have g1 : ([(0, n), (n, 1)] : List (Nat × Nat)).toArray[1]? = some (n, 1) := rfl
  have q1 : (X.toArray.size != n || decide (0 + X.toArray.size > Z.size)) = false := by simp [hx, hz]
  have q2 : ((#[v] : Array Value).size != 1 || decide (n + (#[v] : Array Value).size > Y.size)) = false := by simp [h1.1, hz]
  have r2 : Instr.fill (([(0, n), (n, 1)] : List (Nat × Nat)).toArray[·]?) Y [(1, v)] = some (Y.setIfInBounds n v) := by
    simp only [Instr.fill, g1, hv]
    rw [if_neg (by simp [h1.1, hz]), e2]
  have r1 : Instr.fill (([(0, n), (n, 1)] : List (Nat × Nat)).toArray[·]?) Z [(0, .agg X.toArray), (1, v)] = Instr.fill (([(0, n), (n, 1)] : List (Nat × Nat)).toArray[·]?) Y [(1, v)] := by
    rw [Instr.fill]
    simp only [g0, c1]
    rw [if_neg (by simp [hx, hz]), e1]
  rw [r1, r2]
  congr 1
  apply Array.ext_getElem?
  intro k
  rw [Array.getElem?_setIfInBounds, h1.1, h1.2 k]
  by_cases hk : n = k
  · subst hk
    rw [if_pos rfl, if_pos (by omega)]
    simp [hx]
  · rw [if_neg hk]
    by_cases hl : k < n
    · rw [if_pos (by omega)]
      simp [List.getElem?_append, hx, hl]
    · rw [if_neg (by omega), Array.getElem?_eq_none (by omega)]
      simp [hx]
      omega
theorem run_zero : ∃ it Z, Try.prog.info? 145 = some it ∧ it.zero = some (.agg Z) ∧ Z.size = 65 ∧ it.size = 65 ∧ it.bytes = 72 := by
  have h : (Try.prog.info? 145).map (fun i => (i.zero.map (fun z => match z with | .agg Z => Z.size | _ => 0), i.size, i.bytes)) = some (some 65, 65, 72) := by kernel_rfl
  cases hi : Try.prog.info? 145 with
  | none => rw [hi] at h; cases h
  | some it =>
    rw [hi] at h
    simp only [Option.map_some, Option.some.injEq, Prod.mk.injEq] at h
    cases hz : it.zero with
    | none => rw [hz] at h; cases h.1
    | some z =>
      rw [hz] at h
      cases z <;> simp at h
      rename_i Z
      exact ⟨it, Z, rfl, hz, h.1, h.2⟩
theorem build_run (c : List Nat) (k : Int) (w : World) (hc : c.length = 64) : (Instr.build 145 #[(0, .agg (c.map B8).toArray), (1, .int .i64 k)]).run Try.prog w = .ok (.agg (c.map B8 ++ [Value.int .i64 k]).toArray) w := by
  refine run_build w 145 _ _ ?_
  obtain ⟨it, Z, hi, hz, hs, _⟩ := run_zero
  have hp : (match Try.prog.underlying 145 with | some (.struct fields) => fields.toList.mapM (fun f => (Try.prog.info? f.type).map fun i => (f.offset, i.size)) | _ => none) = some [(0, 64), (64, 1)] := by kernel_rfl
  unfold Program.built
  rw [hi]
  cases hu : Try.prog.underlying 145 with
  | none => rw [hu] at hp; cases hp
  | some d =>
    cases d <;> simp only [hu] at hp <;> try (cases hp; done)
    simp only [hz, hp]
    exact fill_two 64 (c.map B8) _ Z (by simp [hc]) (by omega) rfl
/-- A slice of one run. -/
theorem slice_run (X : List Value) (w : World) (hx : X.length = 65) : (Instr.buildSlice 119 1 #[(0, .agg X.toArray)]).run Try.prog w = .ok (.slice (some ⟨w.heap.size, 0, none⟩) 1 1) (w.alloc (.cells X.toArray 145)) := by
  obtain ⟨it, Z, hi, hz, hs, h65, _⟩ := run_zero
  refine run_buildSlice w _ 145 1 _ X.toArray it (.agg Z) Try.underlying119 hi hz (by rw [h65]; decide) (by rw [h65]; decide) ?_
  rw [h65]
  have := Great.fill_whole (s := 65) (by decide) [.agg X.toArray] ((Array.range (1 * 65)).map ((Value.agg Z).cells[· % (Value.agg Z).cells.size]!)) (by simp [Value.cells, hx]) (by simp)
  simpa [Value.cells] using this
theorem exec_build2 {P : Program} {o : Oper} {a : Act} {w : World} {v : Value} (t : TypeId) (i j : Nat) (x y : Operand) (ho : o.op = .build t #[(i, x), (j, y)]) (vx vy : Value) (hx : a.eval x = vx) (hy : a.eval y = vy) (h : (Instr.build t #[(i, vx), (j, vy)]).run P w = .ok v w) : (execOp a.eval o).run P w = .ok (.value v) w := by
  unfold execOp
  simp only [ho, Sem.run_bind, Sem.run_pure, List.map_toArray, List.map_cons, List.map_nil, hx, hy, h, Result.andThen_ok]
theorem wp_slice_run {o : Oper} {a : Act} {w : World} {K : Act → World → Prop} {Q : Exit → Act → World → Prop} (x : Operand) (ho : o.op = .buildSlice 119 1 #[(0, x)]) (X : List Value) (hx : a.eval x = .agg X.toArray) (hl : X.length = 65)
    (h : K (a.put o.dst (.slice (some ⟨w.heap.size, 0, none⟩) 1 1)) (w.alloc (.cells X.toArray 145))) : o.wp Try.prog a w K Q := by
  have hr := slice_run X w hl
  unfold Oper.wp execOp
  simp only [ho, Sem.run_bind, List.map_toArray, List.map_cons, List.map_nil, hx, hr, Result.andThen_ok]
  exact h
/-- The place of an element. -/
theorem index_at {t e : TypeId} {sz : Nat} (hu : Try.prog.underlying t = some (.slice e)) (hs : (Try.prog.info? e).map (·.size) = some sz) (g o i len cap : Nat) (hi : i < len) (w : World) :
    (Instr.indexAt t (.slice (some ⟨g, o, none⟩) len cap) (.int .i64 (i : Int))).run Try.prog w = .ok (.pointer (some ⟨g, o + i * sz, none⟩)) w := by
  obtain ⟨it, h1, h2⟩ := info_of hs
  have hc : (0 : Int) ≤ (i : Int) ∧ (i : Int) < (len : Int) := by omega
  simp [Instr.indexAt, asIntOf, run_underlying hu, sizeOf, typeInfo, h1, h2, hc, hi, Addr.add_mid]
theorem index_run (g i len cap : Nat) (hi : i < len) (w : World) : (Instr.indexAt 119 (.slice (some ⟨g, 0, none⟩) len cap) (.int .i64 (i : Int))).run Try.prog w = .ok (.pointer (some ⟨g, i * 65, none⟩)) w := by
  have h := index_at (t := 119) (e := 145) (sz := 65) Try.underlying119 (by kernel_rfl) g 0 i len cap hi w
  rwa [Nat.zero_add] at h
theorem index_line (g i len cap : Nat) (hi : i < len) (w : World) : (Instr.indexAt 65 (.slice (some ⟨g, 0, none⟩) len cap) (.int .i64 (i : Int))).run Try.prog w = .ok (.pointer (some ⟨g, i * 64, none⟩)) w := by
  have h := index_at (t := 65) (e := 73) (sz := 64) Try.underlying65 (by kernel_rfl) g 0 i len cap hi w
  rwa [Nat.zero_add] at h
/-- 'append' of a row, at the operation. -/
theorem wp_append_at {P : Program} {o : Oper} {a : Act} {w : World} {K : Act → World → Prop} {Q : Exit → Act → World → Prop} (s x : Operand) (t : TypeId)
    (ho : o.op = .call { callee := .builtin .append, args := #[s, x], argTypes := #[t, t] })
    (base : Nat) (e : TypeId) (i : TypeInfo) (z : Value) (size bytes : Nat) (ht : P.underlying t = some (.slice e)) (hi : P.info? e = some i) (hz : i.zero = some z)
    (hsize : i.size = size) (hby : i.bytes = bytes) (hzs : z.cells.size = size) (hsz : 0 < size)
    (v : Value) (n : Nat) (xs : List Value) (hs : a.eval s = v) (hown : w.ownsRow base e size v n xs)
    (ad : Addr) (m c : Nat) (news : List Value) (hx : a.eval x = .slice (some ad) m c) (hl : news.length = m * size) (hnews : ∀ j u, news[j]? = some u → w.cell? (ad.add j) = some u) (h1 : ∀ u ∈ news, u.oneCell' = true)
    (h63 : n + m ≤ maxLen) (hbytes : (n + m) * bytes ≤ 140737488355328) (hbase : base ≤ w.heap.size)
    (h : ∀ v' w', w'.ownsRow base e size v' (n + m) (xs ++ news) → w.grownBy w' v.ownBlock → (v' = .slice none 0 0 ↔ v = .slice none 0 0 ∧ m = 0) → (v'.ownBlock = v.ownBlock ∨ v'.ownBlock = some w.heap.size) → K (a.put o.dst v') w') :
    o.wp P a w K Q := by
  obtain ⟨v', w', hr, h2, h3, h4, h5⟩ := run_append_own_at (P := P) w base t o.type e i z size bytes ht hi hz hsize hby hzs hsz v n xs hown ad m c news hl hnews h1 h63 hbytes hbase
  unfold Oper.wp execOp
  simp only [ho, resolve, invoke, builtin, Sem.run_bind, Sem.run_pure, Result.andThen_ok, List.map_toArray, List.map_cons, List.map_nil, hs, hx, hr]
  exact h v' w' h2 h3 h4 h5
end Go.Proofs.Ytgfgihpkbbjkfaa
