/- Package seek: the first character of a text; line ends among characters. -/
import Derived.Test.YtodooppapciegaaGreatDoorXPart3
import Derived.Test.YtodooppapciegaaGreatDoorUPlaces
namespace Go.Proofs.YtodooppapciegaaGreatDoor
open Go.RowKit Go.Shelf
set_option linter.unusedVariables false

/-- The first character, and how wide it is. -/
def ch1 (l : List UInt8) : Ch := if l = [] then (0, false) else if W l = 0 then ((by' l 0 : Int), false) else ((rune l : Int), true)
def cw1 (l : List UInt8) : Nat := if l = [] then 0 else cw l
theorem results_row_tmpX {P : Program} {fn : Func} {p u : Tmp} {ty : TypeId} (h : fn.results = #[.cell p ty, .tmp u]) (tmps : Array Value) (w : World) (g : Nat) (t : TypeId) (cs : Array Value) (fr : Nat × Nat) (d : TypeDesc)
    (hp : tmps.getD p undef = .pointer (some ⟨g, 0, none⟩)) (hg : w.heap[g]? = some (.cells cs t fr))
    (hu : P.underlying ty = some d) (hd : (match d with | .struct _ | .array _ _ => true | _ => false) = true) (hi : (P.info? ty).map (·.size) = some cs.size) :
    (results fn tmps).run P w = .ok (.tuple #[.agg cs, tmps.getD u undef]) w := by
  rw [results_cell_tmp h, hp]
  simp [asAddr, run_loadVar_row w g t ty cs fr d hg hu hd hi]
theorem setC2 {W : World} {B : Nat} {a b : Value} {t : TypeId} (h : W.heap[B]? = some (.cells #[a, b] t (0, 0))) (v u : Value) :
    W.cell? ⟨B, 0, none⟩ = some a ∧ W.frozen? ⟨B, 0, none⟩ = false ∧ W.frozen? ⟨B, 1, none⟩ = false ∧ (W.setCell ⟨B, 0, none⟩ v).cell? ⟨B, 1, none⟩ = some b ∧ (W.setCell ⟨B, 0, none⟩ v).frozen? ⟨B, 1, none⟩ = false ∧ ((W.setCell ⟨B, 0, none⟩ v).setCell ⟨B, 1, none⟩ u).heap[B]? = some (.cells #[v, u] t (0, 0)) := by
  have R1 := heap_setCell_same W B 0 _ _ v h
  have R2 := heap_setCell_same _ B 1 _ _ u R1
  have fz : ∀ {X : World} {cs : Array Value}, X.heap[B]? = some (.cells cs t (0, 0)) → ∀ i, X.frozen? ⟨B, i, none⟩ = false := fun hx i => by simp [World.frozen?, hx]
  exact ⟨cel2 h 0 _ rfl, fz h 0, fz h 1, cel2 R1 1 _ rfl, fz R1 1, R2⟩
set_option maxRecDepth 100000 in
set_option maxHeartbeats 2000000 in
theorem sfirst_any (s : ByteArray) (w : World) (hs : s.size ≤ 140737488355328) :
    Calls Tryz.prog 38 #[.string s] w fun e w' => e = .returned (.tuple #[chV (ch1 (bl s)), .int .i64 (cw1 (bl s) : Int)]) ∧ Below w.heap.size w w' := by
  have hb0 : Below w.heap.size w (w.alloc (.cells #[.int .i32 0, .bool false] 71)) := (Below.refl _ w).alloc (Nat.le_refl _) _
  have h0 := heap_alloc_new w (.cells #[.int .i32 0, .bool false] 71)
  have kf := fun W => first_any s W (by omega)
  have KF := hide kf
  have HB0 := hide hb0
  have H0 := hide h0
  clear kf hb0 h0
  unfold chV ch1 cw1
  by_cases hz : s.size = 0
  · have hl : bl s = [] := bl_nil hz
    have hfv : firstV (bl s) = (0, 0, false) := by unfold firstV; rw [if_pos hl]
    rw [hfv] at KF
    rw [if_pos hl, if_pos hl]
    clear hl hfv hz
    go_enter Tryz.func38, Tryz.ntmps38
    go_wp2_with (go_at_call 40; refine (KF.out _).mono ?_; rintro e x ⟨rfl, hbx⟩; obtain ⟨a0, a1, a2, a3, a4, a5⟩ := setC2 ((hbx.block _ (Array.getElem?_eq_some_iff.1 H0.out).1).trans H0.out) (.int .i32 0) (.bool false); have HR := hide a5; have HBX := hide (bseq HB0.out hbx); clear a5 hbx)
    refine bodyPost_ret (results_row_tmpX rfl _ _ w.heap.size _ _ _ _ rfl HR.out Tryz.underlying71 rfl (by kernel_rfl)) rfl ?_
    exact ⟨rfl, (HBX.out.setCell (p := ⟨w.heap.size, 0, none⟩) (Nat.le_refl _) _).setCell (p := ⟨w.heap.size, 1, none⟩) (Nat.le_refl _) _⟩
  · have hp : 0 < s.size := by omega
    have hne := bl_ne hp
    have hfv : firstV (bl s) = ((rune (bl s) : Int), (cw (bl s) : Int), decide (W (bl s) ≠ 0)) := by unfold firstV; rw [if_neg hne]
    rw [hfv] at KF
    rw [if_neg hne, if_neg hne]
    have hcp := cw_pos (bl s)
    have hb1 : by' (bl s) 0 = (s[0]'hp).toNat := by'_get s 0 hp
    have hbl : (s[0]'hp).toNat < 256 := UInt8.toNat_lt _
    rw [hb1]
    generalize cw (bl s) = m at *
    generalize rune (bl s) = r at *
    have hmI : (0 : Int) < (m : Int) := by omega
    by_cases hw : W (bl s) = 0
    · rw [if_pos hw]
      rw [decide_eq_false (fun h => h hw)] at KF
      generalize hbb : (s[0]'hp).toNat = b at *
      have hbI : (b : Int) < 256 := by omega
      clear hfv hne hb1 hw hz
      go_enter Tryz.func38, Tryz.ntmps38
      go_wp2_with (go_at_call 40; refine (KF.out _).mono ?_; rintro e x ⟨rfl, hbx⟩; obtain ⟨a0, a1, a2, a3, a4, a5⟩ := setC2 ((hbx.block _ (Array.getElem?_eq_some_iff.1 H0.out).1).trans H0.out) (.int .i32 (b : Int)) (.bool false); have HR := hide a5; have HBX := hide (bseq HB0.out hbx); clear a5 hbx)
      refine bodyPost_ret (results_row_tmpX rfl _ _ w.heap.size _ _ _ _ rfl HR.out Tryz.underlying71 rfl (by kernel_rfl)) rfl ?_
      exact ⟨rfl, (HBX.out.setCell (p := ⟨w.heap.size, 0, none⟩) (Nat.le_refl _) _).setCell (p := ⟨w.heap.size, 1, none⟩) (Nat.le_refl _) _⟩
    · rw [if_neg hw]
      rw [decide_eq_true (show W (bl s) ≠ 0 from hw)] at KF
      clear hfv hne hb1 hw hz
      go_enter Tryz.func38, Tryz.ntmps38
      go_wp2_with (go_at_call 40; refine (KF.out _).mono ?_; rintro e x ⟨rfl, hbx⟩; obtain ⟨a0, a1, a2, a3, a4, a5⟩ := setC2 ((hbx.block _ (Array.getElem?_eq_some_iff.1 H0.out).1).trans H0.out) (.int .i32 (r : Int)) (.bool true); have HR := hide a5; have HBX := hide (bseq HB0.out hbx); clear a5 hbx)
      refine bodyPost_ret (results_row_tmpX rfl _ _ w.heap.size _ _ _ _ rfl HR.out Tryz.underlying71 rfl (by kernel_rfl)) rfl ?_
      exact ⟨rfl, (HBX.out.setCell (p := ⟨w.heap.size, 0, none⟩) (Nat.le_refl _) _).setCell (p := ⟨w.heap.size, 1, none⟩) (Nat.le_refl _) _⟩
end Go.Proofs.YtodooppapciegaaGreatDoor
