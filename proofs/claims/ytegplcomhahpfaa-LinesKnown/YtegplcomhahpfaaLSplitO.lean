/- What lines.Split answers, with the block that the row lies in. -/
import Derived.Test.YtegplcomhahpfaaLSplit
namespace Go.Proofs.Ytegplcomhahpfaa
open Go.RowKit Go.Shelf
set_option linter.unusedVariables false
attribute [local go_sem] Oper.semAt_some

/-- A row of texts, and its block. -/
def RowO (W : World) (base g n : Nat) (xs : List Value) : Prop := base ≤ g ∧ ∃ cur, W.heap[g]? = some (.cells cur 9 (0, 0)) ∧ n ≤ cur.size ∧ cur.toList.take n = xs
theorem RowO.below {W W' : World} {base g n : Nat} {xs : List Value} (h : RowO W base g n xs) (hb : Below W.heap.size W W') : RowO W' base g n xs := by
  obtain ⟨h1, cur, h2, h3⟩ := h
  exact ⟨h1, cur, (hb.block g (Array.getElem?_eq_some_iff.1 h2).1).trans h2, h3⟩
theorem RowO.sls {W : World} {base g n : Nat} {xs : List Value} (h : RowO W base g n xs) : SlS W base g xs := by
  obtain ⟨h1, cur, h2, h3, h4⟩ := h
  refine ⟨h1, (Array.getElem?_eq_some_iff.1 h2).1, fun k v hv => ?_⟩
  rw [← h4, List.getElem?_take] at hv
  split at hv
  · simp only [World.cell?, h2]
    simpa using hv
  · cases hv

set_option maxRecDepth 100000 in
set_option maxHeartbeats 4000000 in
theorem split_own (s : ByteArray) (w : World) (hs : s.size ≤ 1099511627776) :
    Calls Try.prog 13 #[.string s] w fun e w' => (∃ g, e = .returned (.slice (some ⟨g, 0, none⟩) (Ls (bl s)).length (Ls (bl s)).length) ∧ RowO w' w.heap.size g (Ls (bl s)).length ((Ls (bl s)).map (txS s))) ∧ Below w.heap.size w w' := by
  have hll := Ls_len (bl s)
  rw [bl_len] at hll
  obtain ⟨N, hN⟩ : ∃ N, (Ls (bl s)).length = N := ⟨_, rfl⟩
  rw [hN]
  refine (callsIn_wide (n := 3)).1 ?_
  refine callsIn_of_wp_marks Try.func13 rfl trivial ?_ rfl
  simp only [Try.ntmps13, List.size_toArray, List.length_cons, List.length_nil, Nat.reduceAdd, Nat.reduceSub, Array.replicate_succ, Array.replicate_zero, List.push_toArray, List.append_toArray, List.nil_append, List.cons_append]
  gi_wp2_with (refine ⟨trivial, ?_⟩; gi_at_call 23; refine (lall_in s _).mono ?_; rintro e w' ⟨rfl, rfl⟩)
  have b1 := ((Boxed.new w 9 (.string s)).alloc (.cells #[.slice none 0 0] 34)).alloc (.cells #[.string s] 9)
  have b3 := (Boxed.new (w.alloc (.cells #[.string s] 9)) 34 (.slice none 0 0)).alloc (.cells #[.string s] 9)
  have b5 := Boxed.new ((w.alloc (.cells #[.string s] 9)).alloc (.cells #[.slice none 0 0] 34)) 9 (.string s)
  have hB0 : Below w.heap.size w (((w.alloc (.cells #[.string s] 9)).alloc (.cells #[.slice none 0 0] 34)).alloc (.cells #[.string s] 9)) := (((Below.refl _ w).alloc (Nat.le_refl _) _).alloc (by simp) _).alloc (by simp; omega) _
  have hsz : (((w.alloc (.cells #[.string s] 9)).alloc (.cells #[.slice none 0 0] 34)).alloc (.cells #[.string s] 9)).heap.size = w.heap.size + 3 := by simp
  simp only [World.size_alloc] at b3 b5
  obtain ⟨W0, hW0⟩ : ∃ W0, (((w.alloc (.cells #[.string s] 9)).alloc (.cells #[.slice none 0 0] 34)).alloc (.cells #[.string s] 9)) = W0 := ⟨_, rfl⟩
  rw [hW0] at b1 b3 b5 hB0 hsz ⊢
  clear hW0
  simp only [Nat.add_assoc, Nat.reduceAdd] at b1 b3 b5 ⊢
  apply rangeP (gf := 32) (lb := #[.pointer (some ⟨w.heap.size + 2, 0, none⟩)]) (encs := encL) rfl (enters_of Try.func32 (by kernel_rfl) rfl)
    (lall_x (fun t => t = 9) (fun k => k = w.heap.size + 2) (w.heap.size + 2) s W0 (by omega) rfl (fun k h => by omega) b5.cell (by decide) (by decide)) (Below.refl _ _) (fun k h => by omega) (fun _ => rfl)
    (fun pre W' => (Boxed W' w.heap.size 9 (.string s) ∧ ∃ v, (Boxed W' (w.heap.size + 1) 34 v ∧ World.ownsRow W' (w.heap.size + 3) 9 1 v pre.length (pre.map (txS s)))) ∧ (W0.heap.size ≤ W'.heap.size ∧ Below w.heap.size w W'))
    (fun c pre W' => False)
    (Stab.and (Stab.and (Stab.box _ _ (by omega)) (Stab.ex fun v => Stab.and (Stab.box _ _ (by omega)) (Stab.row _ _ _ _ _ rfl))) (Stab.and (fun s A B h hs => Nat.le_trans h hs.1.2.2.2) (Stab.below (by omega) (by omega))))
    (fun c => Stab.pure _)
    ⟨⟨b1, _, b3, World.ownsRow_nil _ _ _ _⟩, Nat.le_refl _, hB0⟩ (fun x => #[.int .i64 (x.1 : Int), .int .i64 (x.2.1 : Int)]) 28
  case hsize => exact fun s W h => h.2.1
  case hassign =>
    intro l' x W' K hK
    simp only [encL]
    gi_wp2
    exact hK _ ((Below.refl _ _).alloc (Nat.le_refl _) _) (heap_alloc_new _ _)
  case hbody =>
    rintro l' pre x Wb W' ⟨⟨h1, v, h3, hrow⟩, hsz', hB⟩ hWb hpc hpx
    obtain ⟨hpl, hget⟩ := take_of_pre hpx
    have hm := Ls_mem (List.mem_of_getElem? hget)
    rw [bl_len] at hm
    obtain ⟨p, q, e⟩ := x
    simp only at hm hpc
    obtain ⟨m, hqe⟩ : ∃ m : Nat, q + e = m := ⟨_, rfl⟩
    have hadd : (q : Int) + (e : Int) = (m : Int) := by omega
    have hpm : (p : Int) ≤ (m : Int) := by omega
    have hms : (m : Int) ≤ (s.size : Int) := by omega
    have hmb : (m : Int) ≤ 1099511627776 := by omega
    obtain ⟨t, ht⟩ : ∃ t, s.extract p m = t := ⟨_, rfl⟩
    have htx : txS s (p, q, e) = .string t := by unfold txS; simp only; rw [hqe, ht]
    have kc := fun w' => clone_any t w' (by rw [← ht]; simp; omega)
    have KC := hide kc
    obtain ⟨i0, hi, hz0, hz1, hz2⟩ := info_parts Try.infoS
    have hP : Box2 W' Wb.heap.size 28 (.int .i64 (p : Int)) (.int .i64 (q : Int)) := hpc
    have hWb3 : w.heap.size + 3 ≤ Wb.heap.size := by omega
    have mk : ∀ W2, Below W'.heap.size W' W2 → (W2.cell? ⟨w.heap.size, 0, none⟩ = some (.string s) ∧ W2.cell? ⟨Wb.heap.size, 0, none⟩ = some (.int .i64 (p : Int)) ∧ W2.cell? ⟨Wb.heap.size, 1, none⟩ = some (.int .i64 (q : Int))) := fun W2 h => ⟨(below_boxed h h1).cell, celOf (hP.below h) 0 _ rfl, celOf (hP.below h) 1 _ rfl⟩
    have ub : ∀ W2, Below W'.heap.size W' W2 → (W2.cell? ⟨w.heap.size + 1, 0, none⟩ = some v ∧ W2.frozen? ⟨w.heap.size + 1, 0, none⟩ = false) := fun W2 h => ⟨(below_boxed h h3).cell, (below_boxed h h3).frozen⟩
    have fin : ∀ W4 w4 v', Below W'.heap.size W' W4 → World.ownsRow w4 (w.heap.size + 3) 9 1 v' (pre.length + 1) (pre.map (txS s) ++ [.string t]) → W4.grownBy w4 v.ownBlock →
        (w4.cell? ⟨w.heap.size, 0, none⟩ = some (.string s) ∧ w4.cell? ⟨Wb.heap.size, 0, none⟩ = some (.int .i64 (p : Int)) ∧ w4.cell? ⟨Wb.heap.size, 1, none⟩ = some (.int .i64 (q : Int))) ∧ w4.cell? ⟨w.heap.size + 1, 0, none⟩ = some v ∧ w4.frozen? ⟨w.heap.size + 1, 0, none⟩ = false ∧
        ((w4.setCell ⟨w.heap.size + 1, 0, none⟩ v').cell? ⟨w.heap.size, 0, none⟩ = some (.string s) ∧ (w4.setCell ⟨w.heap.size + 1, 0, none⟩ v').cell? ⟨Wb.heap.size, 0, none⟩ = some (.int .i64 (p : Int)) ∧ (w4.setCell ⟨w.heap.size + 1, 0, none⟩ v').cell? ⟨Wb.heap.size, 1, none⟩ = some (.int .i64 (q : Int))) ∧
        (Kp (fun t => t = 9) (fun k => k = w.heap.size + 2) W0.heap.size W' (w4.setCell ⟨w.heap.size + 1, 0, none⟩ v') ∧ (Boxed (w4.setCell ⟨w.heap.size + 1, 0, none⟩ v') w.heap.size 9 (.string s) ∧ ∃ v, (Boxed (w4.setCell ⟨w.heap.size + 1, 0, none⟩ v') (w.heap.size + 1) 34 v ∧ World.ownsRow (w4.setCell ⟨w.heap.size + 1, 0, none⟩ v') (w.heap.size + 3) 9 1 v (pre ++ [(p, q, e)]).length ((pre ++ [(p, q, e)]).map (txS s)))) ∧ (W0.heap.size ≤ (w4.setCell ⟨w.heap.size + 1, 0, none⟩ v').heap.size ∧ Below w.heap.size w (w4.setCell ⟨w.heap.size + 1, 0, none⟩ v'))) := by
      intro W4 w4 v' hB4 hown hgr
      have hrow4 := ownsRow_belowS hrow hB4
      have hP4 := hP.below hB4
      have hlow : ∀ k, v.ownBlock = some k → w.heap.size + 3 ≤ k ∧ ∃ o, W4.heap[k]? = some o ∧ Held (fun t => t = 9) o := fun k hk => by
        rcases hrow4.2 with ⟨rfl, _⟩ | ⟨g, cap, cur, rfl, hg, hh, _⟩
        · cases hk
        · cases hk
          exact ⟨hg, _, hh, _, _, _, rfl, rfl⟩
      have hkeep : ∀ k o, W4.heap[k]? = some o → (k < w.heap.size + 3 ∨ ¬ Held (fun t => t = 9) o) → w4.heap[k]? = some o := fun k o hk hc => by
        refine (hgr.block k (Array.getElem?_eq_some_iff.1 hk).1 (fun e => ?_)).trans hk
        obtain ⟨h5, o', ho', hh⟩ := hlow k e.symm
        rw [hk] at ho'
        cases ho'
        rcases hc with hc | hc
        · omega
        · exact hc hh
      have g1 : Boxed w4 w.heap.size 9 (.string s) := hkeep _ _ (below_boxed hB4 h1) (.inl (by omega))
      have g3 : Boxed w4 (w.heap.size + 1) 34 v := hkeep _ _ (below_boxed hB4 h3) (.inl (by omega))
      have gP : Box2 w4 Wb.heap.size 28 (.int .i64 (p : Int)) (.int .i64 (q : Int)) := hkeep _ _ hP4 (.inr (by rintro ⟨c, t', fr, e1, e2⟩; cases e1; revert e2; decide))
      have k1 := g1.other (B' := w.heap.size + 1) (by omega) v'
      have kP := gP.other (b := w.heap.size + 1) (o := 0) (by omega) v'
      refine ⟨⟨g1.cell, celOf gP 0 _ rfl, celOf gP 1 _ rfl⟩, g3.cell, g3.frozen, ⟨k1.cell, celOf kP 0 _ rfl, celOf kP 1 _ rfl⟩, ?_, ⟨k1, v', g3.set v', ?_⟩, ?_, ?_⟩
      · refine ((Kp.of_below hB4).trans (Kp.grown hgr (fun k hk => ?_))).trans (Kp.set _ (fun h => by omega) (by omega))
        obtain ⟨h5, h6⟩ := hlow k hk
        exact ⟨by omega, .inr h6⟩
      · rw [List.length_append, List.map_append, List.map_cons, List.map_nil, htx]
        exact ownsRow_setCell_below (a := ⟨w.heap.size + 1, 0, none⟩) hown (show w.heap.size + 1 < w.heap.size + 3 by omega) v'
      · have := hB4.size; have := hgr.size; simp [World.setCell]; omega
      · refine Below.setCell (p := ⟨w.heap.size + 1, 0, none⟩) ?_ (Nat.le_add_right _ _) _
        refine (bseq hB hB4).grown hgr (by have := hB4.size; have := hB.size; omega) (fun k hk => ?_)
        have := (hlow k hk).1
        omega
    have MK := hide mk
    have UB := hide ub
    have FIN := hide fin
    have HROW := hide hrow
    have HPL := hide (show pre.length ≤ 1099511627776 by omega)
    have HSZ := hide (show w.heap.size + 3 ≤ W'.heap.size by omega)
    have hS0 := mk _ (Below.refl _ W')
    have hw7 : IntKind.i64.wrap (m : Int) = (m : Int) := by rw [IntKind.wrap_i64]; omega
    obtain ⟨c3, f3⟩ := ub _ (Below.refl _ W')
    clear mk ub fin hrow hpx hget h1 h3 hB hP hpc htx hm hqe kc hll hs hsz hB0 b1 b3 b5 hpl
    refine wpIn_block ?_
    refine region_heldR (fun W2 => W2.cell? ⟨w.heap.size, 0, none⟩ = some (.string s) ∧ W2.cell? ⟨Wb.heap.size, 0, none⟩ = some (.int .i64 (p : Int)) ∧ W2.cell? ⟨Wb.heap.size, 1, none⟩ = some (.int .i64 (q : Int))) (by kernel_rfl) (by kernel_rfl) (fun _ _ h => h) hS0 (fun hS => ?_)
    clear hS0
    refine wpAnyH_take (i := 1) (v := .string s) rfl (by kernel_rfl) (by kernel_rfl) (by kernel_rfl) (fun _ _ _ h => h) (Or.inl ⟨by kernel_rfl, fun w' hw => by (obtain ⟨z0, z1, z2⟩ := hw; go_simp)⟩) hS ?_
    refine wpAnyH_take (i := 2) (v := .pointer (some ⟨Wb.heap.size, 0, none⟩)) rfl (by kernel_rfl) (by kernel_rfl) (by kernel_rfl) (fun _ _ _ h => h) (Or.inl ⟨by kernel_rfl, fun w' hw => by (obtain ⟨z0, z1, z2⟩ := hw; go_simp)⟩) hS ?_
    refine wpAnyH_take (i := 3) (v := .int .i64 (p : Int)) rfl (by kernel_rfl) (by kernel_rfl) (by kernel_rfl) (fun _ _ _ h => h) (Or.inl ⟨by kernel_rfl, fun w' hw => by (obtain ⟨z0, z1, z2⟩ := hw; go_simp)⟩) hS ?_
    refine wpAnyH_take (i := 4) (v := .pointer (some ⟨Wb.heap.size, 1, none⟩)) rfl (by kernel_rfl) (by kernel_rfl) (by kernel_rfl) (fun _ _ _ h => h) (Or.inl ⟨by kernel_rfl, fun w' hw => by (obtain ⟨z0, z1, z2⟩ := hw; go_simp)⟩) hS ?_
    refine wpAnyH_take (i := 5) (v := .int .i64 (q : Int)) rfl (by kernel_rfl) (by kernel_rfl) (by kernel_rfl) (fun _ _ _ h => h) (Or.inl ⟨by kernel_rfl, fun w' hw => by (obtain ⟨z0, z1, z2⟩ := hw; go_simp)⟩) hS ?_
    refine wpAnyH_take (i := 6) (v := .int .i64 (e : Int)) rfl (by kernel_rfl) (by kernel_rfl) (by kernel_rfl) (fun _ _ _ h => h) (Or.inl ⟨by kernel_rfl, fun w' hw => by (obtain ⟨z0, z1, z2⟩ := hw; go_simp)⟩) hS ?_
    refine wpAnyH_take (i := 7) (v := .int .i64 (m : Int)) rfl (by kernel_rfl) (by kernel_rfl) (by kernel_rfl) (fun _ _ _ h => h) (Or.inl ⟨by kernel_rfl, fun w' hw => by (obtain ⟨z0, z1, z2⟩ := hw; go_simp)⟩) hS ?_
    refine wpAnyH_take (i := 8) (v := .string t) rfl (by kernel_rfl) (by kernel_rfl) (by kernel_rfl) (fun _ _ _ h => h) (Or.inl ⟨by kernel_rfl, fun w' hw => by (obtain ⟨z0, z1, z2⟩ := hw; go_simp)⟩) hS ?_
    refine wpAnyH_ready (rs := [0, 9]) (by kernel_rfl) (by simp) ?_
    refine AllReadyH.cons rfl (fun K hK => ?_) (AllReadyH.cons rfl (fun K hK => ?_) AllReadyH.nil)
    · rw [if_pos (by kernel_rfl)]
      go_simp
      refine hK.out _ _ (hS) (fun _ => ?_)
      clear hK K
      refine wpAnyH_ready (rs := [9]) (by kernel_rfl) (by simp) ?_
      refine AllReadyH.cons rfl (fun K hK => ?_) AllReadyH.nil
      rw [if_pos (by kernel_rfl)]
      go_simp
      go_wp2_with (go_at_call 24; refine (KC.out _).mono ?_; rintro e3 w3 ⟨rfl, hB3⟩)
      have hX3 : Below W'.heap.size W' w3 := bseq (Below.refl _ _).drew hB3
      obtain ⟨u0, uf⟩ := UB.out _ hX3
      refine hK.out _ _ (MK.out _ hX3) (fun _ => ?_)
      clear hK K
      refine wpAnyH_ready (rs := [10]) (by kernel_rfl) (by simp) ?_
      refine AllReadyH.cons rfl (fun K hK => ?_) AllReadyH.nil
      rw [if_pos (by kernel_rfl)]
      go_simp
      have hX4 : Below W'.heap.size W' (w3.alloc (.cells #[.string t] 9)) := bseq hX3 ((Below.refl _ _).alloc (Nat.le_refl _) _)
      obtain ⟨y0, yf⟩ := UB.out _ hX4
      refine hK.out _ _ (MK.out _ hX4) (fun _ => ?_)
      clear hK K
      refine wpAnyH_ready (rs := [11]) (by kernel_rfl) (by simp) ?_
      refine AllReadyH.cons rfl (fun K hK => ?_) AllReadyH.nil
      rw [if_pos (by kernel_rfl)]
      have hrow4 := ownsRow_belowS HROW.out hX4
      refine wp_append_own _ (.tmp 10) (.tmp 20) 34 rfl (w.heap.size + 3) 9 i0 (.string ⟨#[]⟩) 1 16 Try.underlying34 hi hz0 hz1 hz2 rfl (by decide) v pre.length (pre.map (txS s)) rfl hrow4 ⟨w3.heap.size, 0, none⟩ 1 1 [.string t] rfl rfl (cell_one_new _ _ _) (by simp [Value.oneCell']) (by simp only [maxLen]; have := HPL.out; omega) (by have := HPL.out; omega) (by have := hX4.size; have := HSZ.out; omega) ?_
      intro v' w4 hown' hgrow _
      obtain ⟨g', cap', rfl⟩ := row_val hown'
      obtain ⟨hS4, c4, f4, hS5, hfin⟩ := FIN.out _ w4 _ hX4 hown' hgrow
      refine hK.out _ _ hS4 (fun _ => ?_)
      clear hK K
      refine wpAnyH_ready (rs := [12]) (by kernel_rfl) (by simp) ?_
      refine AllReadyH.cons rfl (fun K hK => ?_) AllReadyH.nil
      rw [if_pos (by kernel_rfl)]
      go_simp
      refine hK.out _ _ hS5 (fun _ => ?_)
      refine wpAnyH_done (by kernel_rfl) ?_ _
      exact hfin
    · rw [if_pos (by kernel_rfl)]
      go_simp
      go_wp2_with (go_at_call 24; refine (KC.out _).mono ?_; rintro e3 w3 ⟨rfl, hB3⟩)
      have hX3 : Below W'.heap.size W' w3 := bseq (Below.refl _ _).drew hB3
      obtain ⟨u0, uf⟩ := UB.out _ hX3
      refine hK.out _ _ (MK.out _ hX3) (fun _ => ?_)
      clear hK K
      refine wpAnyH_ready (rs := [0, 10]) (by kernel_rfl) (by simp) ?_
      refine AllReadyH.cons rfl (fun K hK => ?_) (AllReadyH.cons rfl (fun K hK => ?_) AllReadyH.nil)
      · rw [if_pos (by kernel_rfl)]
        go_simp
        refine hK.out _ _ (MK.out _ hX3) (fun _ => ?_)
        clear hK K
        refine wpAnyH_ready (rs := [10]) (by kernel_rfl) (by simp) ?_
        refine AllReadyH.cons rfl (fun K hK => ?_) AllReadyH.nil
        rw [if_pos (by kernel_rfl)]
        go_simp
        have hX4 : Below W'.heap.size W' (w3.alloc (.cells #[.string t] 9)) := bseq hX3 ((Below.refl _ _).alloc (Nat.le_refl _) _)
        obtain ⟨y0, yf⟩ := UB.out _ hX4
        refine hK.out _ _ (MK.out _ hX4) (fun _ => ?_)
        clear hK K
        refine wpAnyH_ready (rs := [11]) (by kernel_rfl) (by simp) ?_
        refine AllReadyH.cons rfl (fun K hK => ?_) AllReadyH.nil
        rw [if_pos (by kernel_rfl)]
        have hrow4 := ownsRow_belowS HROW.out hX4
        refine wp_append_own _ (.tmp 10) (.tmp 20) 34 rfl (w.heap.size + 3) 9 i0 (.string ⟨#[]⟩) 1 16 Try.underlying34 hi hz0 hz1 hz2 rfl (by decide) v pre.length (pre.map (txS s)) rfl hrow4 ⟨w3.heap.size, 0, none⟩ 1 1 [.string t] rfl rfl (cell_one_new _ _ _) (by simp [Value.oneCell']) (by simp only [maxLen]; have := HPL.out; omega) (by have := HPL.out; omega) (by have := hX4.size; have := HSZ.out; omega) ?_
        intro v' w4 hown' hgrow _
        obtain ⟨g', cap', rfl⟩ := row_val hown'
        obtain ⟨hS4, c4, f4, hS5, hfin⟩ := FIN.out _ w4 _ hX4 hown' hgrow
        refine hK.out _ _ hS4 (fun _ => ?_)
        clear hK K
        refine wpAnyH_ready (rs := [12]) (by kernel_rfl) (by simp) ?_
        refine AllReadyH.cons rfl (fun K hK => ?_) AllReadyH.nil
        rw [if_pos (by kernel_rfl)]
        go_simp
        refine hK.out _ _ hS5 (fun _ => ?_)
        refine wpAnyH_done (by kernel_rfl) ?_ _
        exact hfin
      · rw [if_pos (by kernel_rfl)]
        go_simp
        have hX4 : Below W'.heap.size W' (w3.alloc (.cells #[.string t] 9)) := bseq hX3 ((Below.refl _ _).alloc (Nat.le_refl _) _)
        obtain ⟨y0, yf⟩ := UB.out _ hX4
        refine hK.out _ _ (MK.out _ hX4) (fun _ => ?_)
        clear hK K
        refine wpAnyH_ready (rs := [0]) (by kernel_rfl) (by simp) ?_
        refine AllReadyH.cons rfl (fun K hK => ?_) AllReadyH.nil
        rw [if_pos (by kernel_rfl)]
        go_simp
        refine hK.out _ _ (MK.out _ hX4) (fun _ => ?_)
        clear hK K
        refine wpAnyH_ready (rs := [11]) (by kernel_rfl) (by simp) ?_
        refine AllReadyH.cons rfl (fun K hK => ?_) AllReadyH.nil
        rw [if_pos (by kernel_rfl)]
        have hrow4 := ownsRow_belowS HROW.out hX4
        refine wp_append_own _ (.tmp 10) (.tmp 20) 34 rfl (w.heap.size + 3) 9 i0 (.string ⟨#[]⟩) 1 16 Try.underlying34 hi hz0 hz1 hz2 rfl (by decide) v pre.length (pre.map (txS s)) rfl hrow4 ⟨w3.heap.size, 0, none⟩ 1 1 [.string t] rfl rfl (cell_one_new _ _ _) (by simp [Value.oneCell']) (by simp only [maxLen]; have := HPL.out; omega) (by have := HPL.out; omega) (by have := hX4.size; have := HSZ.out; omega) ?_
        intro v' w4 hown' hgrow _
        obtain ⟨g', cap', rfl⟩ := row_val hown'
        obtain ⟨hS4, c4, f4, hS5, hfin⟩ := FIN.out _ w4 _ hX4 hown' hgrow
        refine hK.out _ _ hS4 (fun _ => ?_)
        clear hK K
        refine wpAnyH_ready (rs := [12]) (by kernel_rfl) (by simp) ?_
        refine AllReadyH.cons rfl (fun K hK => ?_) AllReadyH.nil
        rw [if_pos (by kernel_rfl)]
        go_simp
        refine hK.out _ _ hS5 (fun _ => ?_)
        refine wpAnyH_done (by kernel_rfl) ?_ _
        exact hfin
  case hdone =>
    rintro D W' hD ⟨⟨h1, v, h3, hrow⟩, hsz', hB⟩ hK
    have hlp := Ls_pos (bl s)
    obtain ⟨n, rfl⟩ : ∃ n, N = n + 1 := ⟨N - 1, by omega⟩
    rw [hN] at hrow hll
    obtain ⟨g, cap, rfl⟩ := row_val hrow
    have hcap : n + 1 ≤ cap := by
      rcases hrow.2 with ⟨_, h2⟩ | ⟨g', cap', cur, h4, _, _, h5, _⟩
      · omega
      · cases h4; exact h5
    have hgD : g ≠ D := fun e => by
      rcases hrow.2 with ⟨_, h2⟩ | ⟨g', cap', cur, h4, _, h5, _⟩
      · omega
      · cases h4; rw [e, hK] at h5; cases h5
    have hsl2 : RowO (W'.putObj D (.deferred none)) w.heap.size g (n + 1) ((Ls (bl s)).map (txS s)) := by
      rcases hrow.2 with ⟨_, h2⟩ | ⟨g', cap', cur, h4, h5, h6, h7, _, h8, h9⟩
      · omega
      · cases h4
        refine ⟨by omega, cur, (World.putObj_heap_other hgD).trans h6, by omega, ?_⟩
        rw [Nat.mul_one] at h9
        exact h9
    have c3 := h3.cell
    have HSL := hide hsl2
    have HB := hide hB
    have hnI : ((n + 1 : Nat) : Int) ≤ 1099511627777 := by omega
    have hcI : ((n + 1 : Nat) : Int) ≤ (cap : Int) := by omega
    clear hN h1 h3 hrow hsl2 hB hll hs hlp hcap
    gi_wp2
    refine ⟨by simp, .inl ⟨_, _, rfl, run_takeDeferred hK, ?_⟩⟩
    refine ⟨_, results_tmp rfl _ _ _, ⟨g, rfl, HSL.out⟩, HB.out.trans (belowK_b (w := w) (Nat.le_refl _) W' D _ _ (by omega) hK rfl rfl)⟩
  case hstop =>
    rintro D c pre W2 hD _ h hK
    exact h.elim
end Go.Proofs.Ytegplcomhahpfaa
