/- Package scan: the token of a run. -/
import Derived.Test.YtaljllbfedfpoaaGreatDoorSTok
namespace Go.Proofs.YtaljllbfedfpoaaGreatDoor
open Go.RowKit Go.Shelf
set_option linter.unusedVariables false

theorem celS {w : World} {B : Nat} {cs : Array Value} {t : TypeId} (h : w.heap[B]? = some (.cells cs t (0, 0))) (i : Nat) (v : Value) (hv : cs[i]? = some v) : w.cell? ⟨B, i, none⟩ = some v := by
  simp only [World.cell?, h]
  exact hv
theorem frzS {w : World} {B : Nat} {cs : Array Value} {t : TypeId} (h : w.heap[B]? = some (.cells cs t (0, 0))) (i : Nat) : w.frozen? ⟨B, i, none⟩ = false := by
  simp only [World.frozen?, h]
  simp
/-- A variable of four cells is stored into, cell by cell. -/
theorem box4_facts {W : World} {B : Nat} {t : TypeId} {a0 a1 a2 a3 : Value} (h : W.heap[B]? = some (.cells #[a0, a1, a2, a3] t (0, 0))) (v0 v1 v2 v3 : Value) :
    (W.cell? ⟨B, 0, none⟩ = some a0 ∧ (W.setCell ⟨B, 0, none⟩ v0).cell? ⟨B, 1, none⟩ = some a1 ∧ ((W.setCell ⟨B, 0, none⟩ v0).setCell ⟨B, 1, none⟩ v1).cell? ⟨B, 2, none⟩ = some a2 ∧ (((W.setCell ⟨B, 0, none⟩ v0).setCell ⟨B, 1, none⟩ v1).setCell ⟨B, 2, none⟩ v2).cell? ⟨B, 3, none⟩ = some a3) ∧
    (W.frozen? ⟨B, 0, none⟩ = false ∧ W.frozen? ⟨B, 1, none⟩ = false ∧ W.frozen? ⟨B, 2, none⟩ = false ∧ W.frozen? ⟨B, 3, none⟩ = false) ∧
    ((((W.setCell ⟨B, 0, none⟩ v0).setCell ⟨B, 1, none⟩ v1).setCell ⟨B, 2, none⟩ v2).setCell ⟨B, 3, none⟩ v3).heap[B]? = some (.cells #[v0, v1, v2, v3] t (0, 0)) ∧ W.grownBy ((((W.setCell ⟨B, 0, none⟩ v0).setCell ⟨B, 1, none⟩ v1).setCell ⟨B, 2, none⟩ v2).setCell ⟨B, 3, none⟩ v3) (some B) := by
  have R1 := heap_setCell_same W B 0 _ _ v0 h
  have R2 := heap_setCell_same _ B 1 _ _ v1 R1
  have R3 := heap_setCell_same _ B 2 _ _ v2 R2
  have R4 := heap_setCell_same _ B 3 _ _ v3 R3
  exact ⟨⟨celS h 0 _ rfl, celS R1 1 _ rfl, celS R2 2 _ rfl, celS R3 3 _ rfl⟩, ⟨frzS h 0, frzS h 1, frzS h 2, frzS h 3⟩, R4, grown_trans (grown_trans (grown_trans (grown_set _ _ _ _) (grown_set _ _ _ _)) (grown_set _ _ _ _)) (grown_set _ _ _ _)⟩
theorem results_row1 {P : Program} {fn : Func} {p : Tmp} {ty : TypeId} (h : fn.results = #[.cell p ty]) (tmps : Array Value) (w : World) (g : Nat) (t : TypeId) (cs : Array Value) (fr : Nat × Nat) (d : TypeDesc)
    (hp : tmps.getD p undef = .pointer (some ⟨g, 0, none⟩)) (hg : w.heap[g]? = some (.cells cs t fr))
    (hu : P.underlying ty = some d) (hd : (match d with | .struct _ | .array _ _ => true | _ => false) = true) (hi : (P.info? ty).map (·.size) = some cs.size) :
    (results fn tmps).run P w = .ok (.agg cs) w := by
  have hp' : tmps[p]?.getD undef = .pointer (some ⟨g, 0, none⟩) := by simpa using hp
  simp [results, h, hp', asAddr, run_loadVar_row w g t ty cs fr d hg hu hd hi]
/-- A token as a value: kind, place, text, number. -/
def tok (k : Int) (a : Int) (t : ByteArray) (n : Int) : Value := .agg #[.int .i64 k, .int .i64 a, .string t, .int .i64 n]
def saidV (s : ByteArray) (a : Int) : Value := match numK (bl s) with
  | some n => tok 2 a ⟨#[]⟩ n
  | none => tok 1 a s 0
set_option maxHeartbeats 1000000 in
theorem said_any (s : ByteArray) (a : Int) (w : World) (hs : s.size ≤ 140737488355328) (hL : LaidW w) :
    Calls Tryz.prog 31 #[.string s, .int .i64 a] w fun e w' => e = .returned (saidV s a) ∧ Below w.heap.size w w' := by
  have hL1 : LaidW (w.alloc (.cells #[.int .i64 0, .int .i64 0, .string ⟨#[]⟩, .int .i64 0] 28)) := hL.below ((Below.refl _ _).alloc (Nat.le_refl _) _)
  have kn := number_any s _ (by omega) hL1
  have kc := fun w' => clone_any s w' (by omega)
  cases hn : numK (bl s) with
  | some n =>
    have e1 : saidV s a = tok 2 a ⟨#[]⟩ n := by unfold saidV; rw [hn]
    rw [hn] at kn
    simp only [Option.getD_some, Option.isSome_some] at kn
    rw [e1]
    have KN := hide kn
    clear kn kc hL hL1 e1 hn
    go_enter Tryz.func31, Tryz.ntmps31
    go_wp2_with (first | (go_at_call 56; refine KN.out.mono ?_; rintro e w1 ⟨rfl, hB1⟩; have h4 := (hB1.block w.heap.size (by simp)).trans (heap_alloc_new w (.cells #[.int .i64 0, .int .i64 0, .string ⟨#[]⟩, .int .i64 0] 28)); obtain ⟨⟨q0, q1, q2, q3⟩, ⟨f0, f1, f2, f3⟩, hfin, hgr⟩ := box4_facts h4 (.int .i64 2) (.int .i64 a) (.string ⟨#[]⟩) (.int .i64 n); have HF := hide hfin; have HG := hide hgr; have HB1 := hide hB1; clear h4 hfin hgr hB1))
    refine bodyPost_ret (results_row1 rfl _ _ w.heap.size _ _ _ _ rfl HF.out Tryz.underlying28 rfl (by kernel_rfl)) rfl ?_
    refine ⟨rfl, ?_⟩
    have h1 : Below w.heap.size w w1 := bseq ((Below.refl _ _).alloc (Nat.le_refl _) _) HB1.out
    exact h1.grown HG.out h1.size (fun k e => by cases e; exact Nat.le_refl _)
  | none =>
    have e1 : saidV s a = tok 1 a s 0 := by unfold saidV; rw [hn]
    rw [hn] at kn
    simp only [Option.getD_none, Option.isSome_none] at kn
    rw [e1]
    have KN := hide kn
    have KC := hide kc
    clear kn kc hL hL1 e1 hn
    go_enter Tryz.func31, Tryz.ntmps31
    go_wp2_with (first | (go_at_call 56; refine KN.out.mono ?_; rintro e w1 ⟨rfl, hB1⟩; have HB1 := hide hB1; clear hB1) | (go_at_call 57; refine (KC.out _).mono ?_; rintro e w2 ⟨rfl, hB2⟩; have h4 := (hB2.block w.heap.size (by have := HB1.out.size; simp at this; omega)).trans ((HB1.out.block w.heap.size (by simp)).trans (heap_alloc_new w (.cells #[.int .i64 0, .int .i64 0, .string ⟨#[]⟩, .int .i64 0] 28))); obtain ⟨⟨q0, q1, q2, q3⟩, ⟨f0, f1, f2, f3⟩, hfin, hgr⟩ := box4_facts h4 (.int .i64 1) (.int .i64 a) (.string s) (.int .i64 0); have HF := hide hfin; have HG := hide hgr; have HB2 := hide hB2; clear h4 hfin hgr hB2))
    refine bodyPost_ret (results_row1 rfl _ _ w.heap.size _ _ _ _ rfl HF.out Tryz.underlying28 rfl (by kernel_rfl)) rfl ?_
    refine ⟨rfl, ?_⟩
    have h1 : Below w.heap.size w w2 := bseq (bseq ((Below.refl _ _).alloc (Nat.le_refl _) _) HB1.out) HB2.out
    exact h1.grown HG.out h1.size (fun k e => by cases e; exact Nat.le_refl _)
end Go.Proofs.YtaljllbfedfpoaaGreatDoor
