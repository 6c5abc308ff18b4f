/- Package seek: what stands for a character itself. -/
import Derived.Test.YtodooppapciegaaGreatDoorXBack
namespace Go.Proofs.YtodooppapciegaaGreatDoor
open Go.RowKit Go.Shelf
set_option linter.unusedVariables false

theorem results_tctX {P : Program} {fn : Func} {a p u : Tmp} {ty : TypeId} (h : fn.results = #[.tmp a, .cell p ty, .tmp u]) (tmps : Array Value) (w : World) (g : Nat) (t : TypeId) (cs : Array Value) (fr : Nat × Nat) (d : TypeDesc)
    (hp : tmps.getD p undef = .pointer (some ⟨g, 0, none⟩)) (hg : w.heap[g]? = some (.cells cs t fr))
    (hu : P.underlying ty = some d) (hd : (match d with | .struct _ | .array _ _ => true | _ => false) = true) (hi : (P.info? ty).map (·.size) = some cs.size) :
    (results fn tmps).run P w = .ok (.tuple #[tmps.getD a undef, .agg cs, tmps.getD u undef]) w := by
  have e : (results fn tmps).run P w = ((asAddr (tmps.getD p undef)).run P w).andThen fun ad w₁ => ((loadVar ty ad).run P w₁).andThen fun v w₂ => .ok (.tuple #[tmps.getD a undef, v, tmps.getD u undef]) w₂ := by
    simp only [results, h]
    simp [Sem.run_bind, Result.andThen]
  rw [e, hp]
  simp [asAddr, run_loadVar_row w g t ty cs fr d hg hu hd hi]
theorem GrX.setNew {S : Nat → Prop} {w X : World} (h : GrX S w X) {R o : Nat} {v : Value} (hR : w.heap.size ≤ R) : GrX S w (X.setCell ⟨R, o, none⟩ v) :=
  ⟨h.1, h.2.1, h.2.2.1, by simpa [World.setCell] using h.2.2.2.1, fun k hk hx => (Below.heap_setCell X ⟨R, o, none⟩ v k (by show k ≠ R; omega)).trans (h.2.2.2.2 k hk hx)⟩
theorem GrX.drew {S : Nat → Prop} {w X : World} (h : GrX S w X) : GrX S w X.drew := h
theorem wrt_rx {X : World} {b R : Nat} {s : ByteArray} {p : Nat} {f : Bool} {v u1 u2 : Value} (h : Rx X b s p f v) (hne : b ≠ R) : Rx ((X.setCell ⟨R, 0, none⟩ u1).setCell ⟨R, 1, none⟩ u2).drew b s p f v :=
  (Below.heap_setCell _ ⟨R, 1, none⟩ u2 b hne).trans ((Below.heap_setCell _ ⟨R, 0, none⟩ u1 b hne).trans h)
theorem row_after_drewX {W W' : World} {o : Obj} (hB : Below (W.alloc o).drew.heap.size (W.alloc o).drew W') : W'.heap[W.heap.size]? = some o := by
  rw [hB.block _ (by simp)]
  exact heap_alloc_new W o
theorem wrt_facts {Y : World} {b g R : Nat} {c0 q : Int} {c1 : Bool} {r : Obj} (hg : Y.heap[g]? = some (.cells #[.int .i32 c0, .bool c1] 71 (0, 0))) (hR : Y.heap[R]? = some r) (h1 : g ≠ b) (h2 : R ≠ b) :
    (Y.setCell ⟨b, 1, none⟩ (.int .i64 q)).cell? ⟨g, 0, none⟩ = some (.int .i32 c0) ∧ (Y.setCell ⟨b, 1, none⟩ (.int .i64 q)).cell? ⟨g, 1, none⟩ = some (.bool c1) ∧ (Y.setCell ⟨b, 1, none⟩ (.int .i64 q)).heap[R]? = some r := by
  have k1 := (Below.heap_setCell Y ⟨b, 1, none⟩ (.int .i64 q) g h1).trans hg
  exact ⟨cel2 k1 0 _ rfl, cel2 k1 1 _ rfl, (Below.heap_setCell Y ⟨b, 1, none⟩ (.int .i64 q) R h2).trans hR⟩
set_option maxRecDepth 100000 in
set_option maxHeartbeats 4000000 in
theorem xwritten_plain (b : Nat) (s : ByteArray) (p : Nat) (f : Bool) (v : Value) (w : World) (h : Rx w b s p f v) (hp : p ≤ s.size) (hs : s.size ≤ 140737488355328) (hx : xAt s p 92 = false) :
    Calls Tryz.prog 29 #[.pointer (some ⟨b, 0, none⟩)] w fun e w' => e = .returned (.tuple #[.nilFunc, chV (ch1 (bl (s.extract p s.size))), .bool (decide (0 < cw1 (bl (s.extract p s.size))))]) ∧ Rx w' b s (p + cw1 (bl (s.extract p s.size))) f v ∧ GrX (fun j => j = b) w w' := by
  have kf := fun W => sfirst_any (s.extract p s.size) W (by rw [ByteArray.size_extract]; omega)
  have hlt := h.lt
  have HLT := hide hlt
  have kt := xtakes_any b s p 92 f v (w.alloc (.cells #[.int .i32 0, .bool false] 71)) (h.below ((Below.refl _ w).alloc (Nat.le_refl _) _)) hp hs
  rw [hx] at kt
  simp only [Bool.false_eq_true, if_false] at kt
  unfold chV at kf ⊢
  have hm5 : cw1 (bl (s.extract p s.size)) ≤ 4 := by unfold cw1; split; · omega
                                                     · exact cw_le4 _
  generalize (ch1 (bl (s.extract p s.size))).1 = c0 at *
  generalize (ch1 (bl (s.extract p s.size))).2 = c1 at *
  generalize cw1 (bl (s.extract p s.size)) = m at *
  have KF := hide kf
  have KT := hide kt
  have hpI : (p : Int) ≤ (s.size : Int) := by omega
  have hsI : (s.size : Int) ≤ 140737488355328 := by omega
  clear kf kt h hx hlt
  go_enter Tryz.func29, Tryz.ntmps29
  go_wp2_with (go_at_call 25; refine (KT.out).mono ?_; rintro e x1 ⟨rfl, hrx, hgx⟩; have HRX := hide hrx; have HGX := hide hgx; clear hrx hgx)
  have hr0 := (HGX.out.block w.heap.size (by simp) (fun e => by have := HLT.out; cases e; omega)).trans (heap_alloc_new w _)
  have HR0 := hide hr0
  have hG : GrX (fun j => j = b) w x1 := (GrX.of_below ((Below.refl _ w).alloc (Nat.le_refl _) _)).trans (GrX.of_grown HGX.out (fun j hj => .inl (by cases hj; rfl)))
  have HG := hide hG
  have mk : ∀ W : World, Below x1.heap.size x1 W → (Below x1.heap.size x1 W ∧ W.cell? ⟨b, 0, none⟩ = some (.string s) ∧ W.cell? ⟨b, 1, none⟩ = some (.int .i64 (p : Int))) := fun W hW => ⟨hW, (HRX.out.below hW).text, (HRX.out.below hW).at⟩
  have MK := hide mk
  clear mk hr0 hG HGX KT
  refine wp_region_held_drew (S := fun W => Below x1.heap.size x1 W ∧ W.cell? ⟨b, 0, none⟩ = some (.string s) ∧ W.cell? ⟨b, 1, none⟩ = some (.int .i64 (p : Int))) (by kernel_rfl) (MK.out _ (Below.refl _ x1).drew) (fun hS => ?_)
  refine wpAnyH_take (i := 0) (v := (.pointer (some ⟨b, 0, none⟩))) rfl (by kernel_rfl) (by kernel_rfl) (by kernel_rfl) (fun _ _ _ h => h) (Or.inl ⟨by kernel_rfl, fun w' hw => by (obtain ⟨_, z0, z1⟩ := hw; go_simp)⟩) hS ?_
  refine wpAnyH_take (i := 1) (v := (.pointer (some ⟨b, 0, none⟩))) rfl (by kernel_rfl) (by kernel_rfl) (by kernel_rfl) (fun _ _ _ h => h) (Or.inl ⟨by kernel_rfl, fun w' hw => by (obtain ⟨_, z0, z1⟩ := hw; go_simp)⟩) hS ?_
  refine wpAnyH_take (i := 2) (v := (.pointer (some ⟨b, 0, none⟩))) rfl (by kernel_rfl) (by kernel_rfl) (by kernel_rfl) (fun _ _ _ h => h) (Or.inl ⟨by kernel_rfl, fun w' hw => by (obtain ⟨_, z0, z1⟩ := hw; go_simp)⟩) hS ?_
  refine wpAnyH_take (i := 3) (v := (.string s)) rfl (by kernel_rfl) (by kernel_rfl) (by kernel_rfl) (fun _ _ _ h => h) (Or.inl ⟨by kernel_rfl, fun w' hw => by (obtain ⟨_, z0, z1⟩ := hw; go_simp)⟩) hS ?_
  refine wpAnyH_take (i := 4) (v := (.pointer (some ⟨b, 0, none⟩))) rfl (by kernel_rfl) (by kernel_rfl) (by kernel_rfl) (fun _ _ _ h => h) (Or.inl ⟨by kernel_rfl, fun w' hw => by (obtain ⟨_, z0, z1⟩ := hw; go_simp)⟩) hS ?_
  refine wpAnyH_take (i := 5) (v := (.pointer (some ⟨b, 0, none⟩))) rfl (by kernel_rfl) (by kernel_rfl) (by kernel_rfl) (fun _ _ _ h => h) (Or.inl ⟨by kernel_rfl, fun w' hw => by (obtain ⟨_, z0, z1⟩ := hw; go_simp)⟩) hS ?_
  refine wpAnyH_take (i := 6) (v := (.pointer (some ⟨b, 1, none⟩))) rfl (by kernel_rfl) (by kernel_rfl) (by kernel_rfl) (fun _ _ _ h => h) (Or.inl ⟨by kernel_rfl, fun w' hw => by (obtain ⟨_, z0, z1⟩ := hw; go_simp)⟩) hS ?_
  refine wpAnyH_take (i := 7) (v := (.int .i64 (p : Int))) rfl (by kernel_rfl) (by kernel_rfl) (by kernel_rfl) (fun _ _ _ h => h) (Or.inl ⟨by kernel_rfl, fun w' hw => by (obtain ⟨_, z0, z1⟩ := hw; go_simp)⟩) hS ?_
  refine wpAnyH_take (i := 8) (v := (.string (s.extract p s.size))) rfl (by kernel_rfl) (by kernel_rfl) (by kernel_rfl) (fun _ _ _ h => h) (Or.inl ⟨by kernel_rfl, fun w' hw => by (obtain ⟨_, z0, z1⟩ := hw; go_simp)⟩) hS ?_
  refine wpAnyH_ready (rs := [9, 13]) (by kernel_rfl) (by simp) ?_
  refine AllReadyH.cons rfl (fun K hK => ?_) (AllReadyH.cons rfl (fun K hK => ?_) AllReadyH.nil)
  · rw [if_pos (by kernel_rfl)]
    go_simp
    go_wp2_with (go_at_call 38; refine (KF.out _).mono ?_; rintro e z ⟨rfl, hbz⟩; have HZ := hide (bseq (Below.refl _ x1).drew hbz : Below x1.heap.size x1 z); have HBZ := hide hbz; clear hbz)
    refine hK.out _ _ (MK.out _ HZ.out) (fun hS2 => ?_)
    refine wpAnyH_take (i := 10) (v := (.tuple #[(.agg #[.int .i32 c0, .bool c1]), (.int .i64 (m : Int))])) rfl (by kernel_rfl) (by kernel_rfl) (by kernel_rfl) (fun _ _ _ h => h) (Or.inl ⟨by kernel_rfl, fun w' hw => by (obtain ⟨_, z0, z1⟩ := hw; go_simp)⟩) hS2 ?_
    refine wpAnyH_take (i := 11) (v := (.agg #[.int .i32 c0, .bool c1])) rfl (by kernel_rfl) (by kernel_rfl) (by kernel_rfl) (fun _ _ _ h => h) (Or.inl ⟨by kernel_rfl, fun w' hw => by (obtain ⟨_, z0, z1⟩ := hw; go_simp)⟩) hS2 ?_
    refine wpAnyH_take (i := 12) (v := (.int .i64 (m : Int))) rfl (by kernel_rfl) (by kernel_rfl) (by kernel_rfl) (fun _ _ _ h => h) (Or.inl ⟨by kernel_rfl, fun w' hw => by (obtain ⟨_, z0, z1⟩ := hw; go_simp)⟩) hS2 ?_
    refine wpAnyH_ready (rs := [13]) (by kernel_rfl) (by simp) ?_
    refine AllReadyH.cons rfl (fun K hK => ?_) AllReadyH.nil
    rw [if_pos (by kernel_rfl)]
    go_simp
    refine hK.out _ _ (MK.out _ (HZ.out.alloc HZ.out.size _)) (fun hS3 => ?_)
    refine wpAnyH_ready (rs := [14]) (by kernel_rfl) (by simp) ?_
    refine AllReadyH.cons rfl (fun K hK => ?_) AllReadyH.nil
    rw [if_pos (by kernel_rfl)]
    go_simp
    refine hK.out _ _ (MK.out _ (HZ.out.alloc HZ.out.size _)) (fun hS4 => ?_)
    refine wpAnyH_take (i := 15) (v := (.int .i64 (m : Int))) rfl (by kernel_rfl) (by kernel_rfl) (by kernel_rfl) (fun _ _ _ h => h) (Or.inl ⟨by kernel_rfl, fun w' hw => by (obtain ⟨_, z0, z1⟩ := hw; go_simp)⟩) hS4 ?_
    refine wpAnyH_done (by kernel_rfl) ?_ _
    simp only [Act.put, List.getElem_toArray, List.getElem_cons_zero, List.getElem_cons_succ, List.setIfInBounds_toArray, List.set_cons_zero, List.set_cons_succ]
    have hYb : Below x1.heap.size x1 (z.alloc (.cells #[.int .i32 c0, .bool c1] 71)) := HZ.out.alloc HZ.out.size _
    have hYg : (z.alloc (.cells #[.int .i32 c0, .bool c1] 71)).heap[z.heap.size]? = some (.cells #[.int .i32 c0, .bool c1] 71 (0, 0)) := heap_alloc_new z _
    have hgx : x1.heap.size ≤ z.heap.size := HZ.out.size
    generalize (z.alloc (.cells #[.int .i32 c0, .bool c1] 71)) = Y at *
    generalize z.heap.size = g at *
    have hry := HRX.out.below hYb
    have y1 := hry.at
    have f1 := hry.frz 1
    have hR := (hYb.block w.heap.size (Array.getElem?_eq_some_iff.1 HR0.out).1).trans HR0.out
    have hbg : g ≠ b := fun e => by have := HRX.out.lt; omega
    have hbR : w.heap.size ≠ b := fun e => by have := HLT.out; omega
    have xr := wrt_facts (q := (p : Int) + (m : Int)) hYg hR hbg hbR
    have HXR := hide xr
    have HRY := hide hry
    have HYB := hide hYb
    clear xr hry hYb hYg hR hgx hbg hbR
    go_wp2_with (fail)
    obtain ⟨x0, x9, xR⟩ := HXR.out
    obtain ⟨a0, a1, a2, a3, a4, a5⟩ := setC2 xR (.int .i32 c0) (.bool c1)
    have a6 := cel2 xR 1 (.bool false) rfl
    have hE : Rx (Y.setCell ⟨b, 1, none⟩ (.int .i64 ((p : Int) + (m : Int)))) b s (p + m) f v := HRY.out.set (p + m)
    have hGY : GrX (fun j => j = b) w (Y.setCell ⟨b, 1, none⟩ (.int .i64 ((p : Int) + (m : Int)))) := (HG.out.trans (GrX.of_below HYB.out)).trans (GrX.of_grown (grownX_set Y b 1 _) (fun j hj => .inl (by cases hj; rfl)))
    have HE := hide hE
    have HGY := hide hGY
    have HA5 := hide a5
    clear hE hGY xR a5 HXR y1 f1 hS
    generalize Y.setCell ⟨b, 1, none⟩ (.int .i64 ((p : Int) + (m : Int))) = X at *
    go_region
    all_goals go_wp2_with (fail)
    all_goals refine bodyPost_ret (results_tctX rfl _ _ w.heap.size _ _ _ _ rfl HA5.out Tryz.underlying71 rfl (by kernel_rfl)) rfl ?_
    all_goals exact ⟨rfl, wrt_rx HE.out (fun e => by have := HLT.out; omega), (((HGY.out).setNew (Nat.le_refl _)).setNew (Nat.le_refl _)).drew⟩
  · rw [if_pos (by kernel_rfl)]
    go_simp
    refine hK.out _ _ (MK.out _ (((Below.refl _ x1).alloc (Nat.le_refl _) _).drew)) (fun hS1 => ?_)
    refine wpAnyH_ready (rs := [9]) (by kernel_rfl) (by simp) ?_
    refine AllReadyH.cons rfl (fun K hK => ?_) AllReadyH.nil
    rw [if_pos (by kernel_rfl)]
    go_simp
    go_wp2_with (go_at_call 38; refine (KF.out _).mono ?_; rintro e z ⟨rfl, hbz⟩; have HZ := hide (bseq (((Below.refl _ x1).alloc (Nat.le_refl _) _).drew) hbz : Below x1.heap.size x1 z); have HBZ := hide hbz; clear hbz)
    refine hK.out _ _ (MK.out _ HZ.out) (fun hS2 => ?_)
    refine wpAnyH_take (i := 10) (v := (.tuple #[(.agg #[.int .i32 c0, .bool c1]), (.int .i64 (m : Int))])) rfl (by kernel_rfl) (by kernel_rfl) (by kernel_rfl) (fun _ _ _ h => h) (Or.inl ⟨by kernel_rfl, fun w' hw => by (obtain ⟨_, z0, z1⟩ := hw; go_simp)⟩) hS2 ?_
    refine wpAnyH_take (i := 11) (v := (.agg #[.int .i32 c0, .bool c1])) rfl (by kernel_rfl) (by kernel_rfl) (by kernel_rfl) (fun _ _ _ h => h) (Or.inl ⟨by kernel_rfl, fun w' hw => by (obtain ⟨_, z0, z1⟩ := hw; go_simp)⟩) hS2 ?_
    refine wpAnyH_take (i := 12) (v := (.int .i64 (m : Int))) rfl (by kernel_rfl) (by kernel_rfl) (by kernel_rfl) (fun _ _ _ h => h) (Or.inl ⟨by kernel_rfl, fun w' hw => by (obtain ⟨_, z0, z1⟩ := hw; go_simp)⟩) hS2 ?_
    have hz2 : z.heap[x1.heap.size]? = some (.cells #[.int .i32 0, .bool false] 71 (0, 0)) := row_after_drewX HBZ.out
    obtain ⟨a0, a1, a2, a3, a4, a5⟩ := setC2 hz2 (.int .i32 c0) (.bool c1)
    have HA5 := hide a5
    clear a5 hz2
    refine wpAnyH_ready (rs := [14]) (by kernel_rfl) (by simp) ?_
    refine AllReadyH.cons rfl (fun K hK => ?_) AllReadyH.nil
    rw [if_pos (by kernel_rfl)]
    go_simp
    refine hK.out _ _ (MK.out _ ((HZ.out.setCell (p := ⟨x1.heap.size, 0, none⟩) (Nat.le_refl _) _).setCell (p := ⟨x1.heap.size, 1, none⟩) (Nat.le_refl _) _)) (fun hS4 => ?_)
    refine wpAnyH_take (i := 15) (v := (.int .i64 (m : Int))) rfl (by kernel_rfl) (by kernel_rfl) (by kernel_rfl) (fun _ _ _ h => h) (Or.inl ⟨by kernel_rfl, fun w' hw => by (obtain ⟨_, z0, z1⟩ := hw; go_simp)⟩) hS4 ?_
    clear a0 a1 a2 a3 a4
    refine wpAnyH_done (by kernel_rfl) ?_ _
    simp only [Act.put, List.getElem_toArray, List.getElem_cons_zero, List.getElem_cons_succ, List.setIfInBounds_toArray, List.set_cons_zero, List.set_cons_succ]
    have hYb : Below x1.heap.size x1 ((z.setCell ⟨x1.heap.size, 0, none⟩ (.int .i32 c0)).setCell ⟨x1.heap.size, 1, none⟩ (.bool c1)) := (HZ.out.setCell (p := ⟨x1.heap.size, 0, none⟩) (Nat.le_refl _) _).setCell (p := ⟨x1.heap.size, 1, none⟩) (Nat.le_refl _) _
    have hYg : ((z.setCell ⟨x1.heap.size, 0, none⟩ (.int .i32 c0)).setCell ⟨x1.heap.size, 1, none⟩ (.bool c1)).heap[x1.heap.size]? = some (.cells #[.int .i32 c0, .bool c1] 71 (0, 0)) := HA5.out
    have hgx : x1.heap.size ≤ x1.heap.size := Nat.le_refl _
    generalize ((z.setCell ⟨x1.heap.size, 0, none⟩ (.int .i32 c0)).setCell ⟨x1.heap.size, 1, none⟩ (.bool c1)) = Y at *
    skip
    have hry := HRX.out.below hYb
    have y1 := hry.at
    have f1 := hry.frz 1
    have hR := (hYb.block w.heap.size (Array.getElem?_eq_some_iff.1 HR0.out).1).trans HR0.out
    have hbg : x1.heap.size ≠ b := fun e => by have := HRX.out.lt; omega
    have hbR : w.heap.size ≠ b := fun e => by have := HLT.out; omega
    have xr := wrt_facts (q := (p : Int) + (m : Int)) hYg hR hbg hbR
    have HXR := hide xr
    have HRY := hide hry
    have HYB := hide hYb
    clear xr hry hYb hYg hR hgx hbg hbR
    go_wp2_with (fail)
    obtain ⟨x0, x9, xR⟩ := HXR.out
    obtain ⟨a0, a1, a2, a3, a4, a5⟩ := setC2 xR (.int .i32 c0) (.bool c1)
    have a6 := cel2 xR 1 (.bool false) rfl
    have hE : Rx (Y.setCell ⟨b, 1, none⟩ (.int .i64 ((p : Int) + (m : Int)))) b s (p + m) f v := HRY.out.set (p + m)
    have hGY : GrX (fun j => j = b) w (Y.setCell ⟨b, 1, none⟩ (.int .i64 ((p : Int) + (m : Int)))) := (HG.out.trans (GrX.of_below HYB.out)).trans (GrX.of_grown (grownX_set Y b 1 _) (fun j hj => .inl (by cases hj; rfl)))
    have HE := hide hE
    have HGY := hide hGY
    have HA5 := hide a5
    clear hE hGY xR a5 HXR y1 f1 hS
    generalize Y.setCell ⟨b, 1, none⟩ (.int .i64 ((p : Int) + (m : Int))) = X at *
    go_region
    all_goals go_wp2_with (fail)
    all_goals refine bodyPost_ret (results_tctX rfl _ _ w.heap.size _ _ _ _ rfl HA5.out Tryz.underlying71 rfl (by kernel_rfl)) rfl ?_
    all_goals exact ⟨rfl, wrt_rx HE.out (fun e => by have := HLT.out; omega), (((HGY.out).setNew (Nat.le_refl _)).setNew (Nat.le_refl _)).drew⟩
end Go.Proofs.YtodooppapciegaaGreatDoor
