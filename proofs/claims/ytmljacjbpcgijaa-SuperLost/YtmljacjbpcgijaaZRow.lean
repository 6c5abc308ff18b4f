/- Variables that are structs of five cells. -/
import Derived.Test.YtmljacjbpcgijaaHelp
import Derived.Lib.OthersKept
import Derived.Laws.ResultCell
import Derived.Deep.QuietTactic
import Derived.BigQuiet
namespace Go.Proofs.Ytmljacjbpcgijaa
open Go.RowKit
set_option linter.unusedVariables false

theorem cell_of {w : World} {B : Nat} {cs : Array Value} {t : TypeId} (h : w.heap[B]? = some (.cells cs t (0, 0))) (i : Nat) (v : Value) (hv : cs[i]? = some v) : w.cell? ⟨B, i, none⟩ = some v := by
  simp only [World.cell?, h]
  exact hv
/-- What a function answers whose first result lies in a variable of its own. -/
theorem results_row_tmp {P : Program} {fn : Func} {p u : Tmp} {ty : TypeId} (h : fn.results = #[.cell p ty, .tmp u]) (tmps : Array Value) (w : World) (g : Nat) (t : TypeId) (cs : Array Value) (fr : Nat × Nat) (d : TypeDesc)
    (hp : tmps.getD p undef = .pointer (some ⟨g, 0, none⟩)) (hg : w.heap[g]? = some (.cells cs t fr))
    (hu : P.underlying ty = some d) (hd : (match d with | .struct _ | .array _ _ => true | _ => false) = true) (hi : (P.info? ty).map (·.size) = some cs.size) :
    (results fn tmps).run P w = .ok (.tuple #[.agg cs, tmps.getD u undef]) w := by
  rw [results_cell_tmp h, hp]
  simp [asAddr, run_loadVar_row w g t ty cs fr d hg hu hd hi]
theorem frozen_of {w : World} {B : Nat} {cs : Array Value} {t : TypeId} (h : w.heap[B]? = some (.cells cs t (0, 0))) (i : Nat) : w.frozen? ⟨B, i, none⟩ = false := by
  simp only [World.frozen?, h]
  simp

/-- Five cells are stored into a variable, one by one. -/
def set5 (W : World) (B : Nat) (v0 v1 v2 v3 v4 : Value) : World := ((((W.setCell ⟨B, 0, none⟩ v0).setCell ⟨B, 1, none⟩ v1).setCell ⟨B, 2, none⟩ v2).setCell ⟨B, 3, none⟩ v3).setCell ⟨B, 4, none⟩ v4
theorem chain5 {W : World} {B : Nat} {a0 a1 a2 a3 a4 : Value} {ty : TypeId} (hR : W.heap[B]? = some (.cells #[a0, a1, a2, a3, a4] ty (0, 0))) (v0 v1 v2 v3 v4 : Value) :
    (W.cell? ⟨B, 0, none⟩ = some a0 ∧ (W.setCell ⟨B, 0, none⟩ v0).cell? ⟨B, 1, none⟩ = some a1 ∧ ((W.setCell ⟨B, 0, none⟩ v0).setCell ⟨B, 1, none⟩ v1).cell? ⟨B, 2, none⟩ = some a2 ∧
      (((W.setCell ⟨B, 0, none⟩ v0).setCell ⟨B, 1, none⟩ v1).setCell ⟨B, 2, none⟩ v2).cell? ⟨B, 3, none⟩ = some a3 ∧ ((((W.setCell ⟨B, 0, none⟩ v0).setCell ⟨B, 1, none⟩ v1).setCell ⟨B, 2, none⟩ v2).setCell ⟨B, 3, none⟩ v3).cell? ⟨B, 4, none⟩ = some a4) ∧
    (W.frozen? ⟨B, 0, none⟩ = false ∧ W.frozen? ⟨B, 1, none⟩ = false ∧ W.frozen? ⟨B, 2, none⟩ = false ∧ W.frozen? ⟨B, 3, none⟩ = false ∧ W.frozen? ⟨B, 4, none⟩ = false) ∧
    (set5 W B v0 v1 v2 v3 v4).heap[B]? = some (.cells #[v0, v1, v2, v3, v4] ty (0, 0)) ∧ (∀ k, k ≠ B → (set5 W B v0 v1 v2 v3 v4).heap[k]? = W.heap[k]?) ∧ (∀ base a, base ≤ B → Below base a W → Below base a (set5 W B v0 v1 v2 v3 v4)) := by
  have R1 := heap_setCell_same W B 0 _ _ v0 hR
  have R2 := heap_setCell_same _ B 1 _ _ v1 R1
  have R3 := heap_setCell_same _ B 2 _ _ v2 R2
  have R4 := heap_setCell_same _ B 3 _ _ v3 R3
  have R5 := heap_setCell_same _ B 4 _ _ v4 R4
  refine ⟨⟨cell_of hR 0 _ rfl, cell_of R1 1 _ rfl, cell_of R2 2 _ rfl, cell_of R3 3 _ rfl, cell_of R4 4 _ rfl⟩, ⟨frozen_of hR 0, frozen_of hR 1, frozen_of hR 2, frozen_of hR 3, frozen_of hR 4⟩, R5, ?_, ?_⟩
  · intro k hk
    unfold set5
    rw [heap_setCell_other _ _ _ _ hk, heap_setCell_other _ _ _ _ hk, heap_setCell_other _ _ _ _ hk, heap_setCell_other _ _ _ _ hk, heap_setCell_other _ _ _ _ hk]
  · intro base a hb hB
    exact ((((hB.setCell hb _).setCell hb _).setCell hb _).setCell hb _).setCell hb _

theorem row_after {W W' : World} {o : Obj} (hB : Below (W.alloc o).heap.size (W.alloc o) W') : W'.heap[W.heap.size]? = some o := by
  rw [hB.block _ (by simp)]
  exact heap_alloc_new W o
theorem row_after_drew {W W' : World} {o : Obj} (hB : Below (W.alloc o).drew.heap.size (W.alloc o).drew W') : W'.heap[W.heap.size]? = some o := by
  rw [hB.block _ (by simp)]
  exact heap_alloc_new W o
theorem row_keep {W W' : World} {B : Nat} {o : Obj} (h : W.heap[B]? = some o) (hB : Below W.heap.size W W') : W'.heap[B]? = some o := by
  rw [hB.block _ (Array.getElem?_eq_some_iff.1 h).1]
  exact h


end Go.Proofs.Ytmljacjbpcgijaa
