/- What the law's own told and same answer, and the document's Split. -/
import Derived.Test.YtegplcomhahpfaaLSplit
import Derived.Test.YtegplcomhahpfaaLRPlace
import Derived.Test.YtegplcomhahpfaaLSeamW
import Derived.Deep.DeepCutAuto
import Derived.OwnWalkIn
namespace Go.Proofs.Ytegplcomhahpfaa
open Go.RowKit Go.Shelf
set_option linter.unusedVariables false
attribute [local go_sem] Oper.semAt_some

theorem flat_snocL (xs : List (Nat × Nat × Nat)) (x : Nat × Nat × Nat) : (xs ++ [x]).flatMap lnC = xs.flatMap lnC ++ [.int .i64 (x.1 : Int), .int .i64 (x.2.1 : Int), .int .i64 (x.2.2 : Int)] := by
  rw [List.flatMap_append]; simp [lnC]
theorem pre_take {α : Type} {pre xs : List α} (h : pre <+: xs) : pre = xs.take pre.length := List.prefix_iff_eq_take.1 h

theorem run_func_nil (gf : Nat) (lb : Array Value) (w : World) : Sem.run Try.prog (binOp BinOp.eql 51 (Value.func (Fn.func gf) #[] lb) Value.nilFunc) w = .ok (.bool false) w := by
  rfl

set_option maxRecDepth 100000 in
set_option maxHeartbeats 4000000 in
theorem told_any (s : ByteArray) (k : Nat) (w : World) (hs : s.size ≤ 1099511627776) (hk : 1 ≤ k) (hk2 : k ≤ 2199023255552) :
    Calls Try.prog 10 #[.string s, .int .i64 (k : Int)] w fun e w' => (∃ g cap, e = .returned (.slice (some ⟨g, 0, none⟩) (min k (Ls (bl s)).length) cap) ∧ SlL w' (some ⟨g, 0, none⟩) ((Ls (bl s)).take k)) ∧ Below w.heap.size w w' := by
  have hll := Ls_len (bl s)
  rw [bl_len] at hll
  have hlp := Ls_pos (bl s)
  obtain ⟨i0, hi, hz0, hz1, hz2⟩ := info_parts Try.infoL
  have hnil := run_func_nil
  refine (callsIn_wide (n := 3)).1 ?_
  refine callsIn_of_wp_marks Try.func10 rfl trivial ?_ rfl
  simp only [Try.ntmps10, List.size_toArray, List.length_cons, List.length_nil, Nat.reduceAdd, Nat.reduceSub, Array.replicate_succ, Array.replicate_zero, List.push_toArray, List.append_toArray, List.nil_append, List.cons_append]
  gi_wp2_with (refine ⟨trivial, ?_⟩; gi_at_call 23; refine (lall_in s _).mono ?_; rintro e w' ⟨rfl, rfl⟩)
  have b0 := ((Boxed.new w 3 (.int .i64 (k : Int))).alloc (.cells #[.slice none 0 0] 22)).alloc (.cells #[.string s] 9)
  have b1 := (Boxed.new (w.alloc (.cells #[.int .i64 (k : Int)] 3)) 22 (.slice none 0 0)).alloc (.cells #[.string s] 9)
  have b5 := Boxed.new ((w.alloc (.cells #[.int .i64 (k : Int)] 3)).alloc (.cells #[.slice none 0 0] 22)) 9 (.string s)
  have hB0 : Below w.heap.size w (((w.alloc (.cells #[.int .i64 (k : Int)] 3)).alloc (.cells #[.slice none 0 0] 22)).alloc (.cells #[.string s] 9)) := (((Below.refl _ w).alloc (Nat.le_refl _) _).alloc (by simp) _).alloc (by simp; omega) _
  have hsz : (((w.alloc (.cells #[.int .i64 (k : Int)] 3)).alloc (.cells #[.slice none 0 0] 22)).alloc (.cells #[.string s] 9)).heap.size = w.heap.size + 3 := by simp
  simp only [World.size_alloc] at b1 b5
  obtain ⟨W0, hW0⟩ : ∃ W0, (((w.alloc (.cells #[.int .i64 (k : Int)] 3)).alloc (.cells #[.slice none 0 0] 22)).alloc (.cells #[.string s] 9)) = W0 := ⟨_, rfl⟩
  rw [hW0] at b0 b1 b5 hB0 hsz ⊢
  clear hW0
  simp only [Nat.add_assoc, Nat.reduceAdd] at b0 b1 b5 ⊢
  have key : ∀ (D : Nat) (pre : List (Nat × Nat × Nat)) (v : Value) (W : World), w.heap.size + 3 ≤ D → Boxed W (w.heap.size + 1) 22 v → World.ownsRow W (w.heap.size + 3) 33 3 v pre.length (pre.flatMap lnC) → pre = (Ls (bl s)).take k → Below w.heap.size w W → W.heap[D]? = some (.deferred (some [])) →
      (∃ g cap, v = .slice (some ⟨g, 0, none⟩) (min k (Ls (bl s)).length) cap ∧ SlL (W.putObj D (.deferred none)) (some ⟨g, 0, none⟩) ((Ls (bl s)).take k)) ∧ Below w.heap.size w (W.putObj D (.deferred none)) := by
    intro D pre v W hD hv hrow hpre hB hK
    have hl : pre.length = min k (Ls (bl s)).length := by rw [hpre, List.length_take]
    refine ⟨?_, hB.trans (belowK_b (w := w) (Nat.le_refl _) W D _ _ (by omega) hK rfl rfl)⟩
    have h2 := sll_of_owns hrow (by omega)
    obtain ⟨a, cap, rfl, g, rfl, hg, hc⟩ := h2
    refine ⟨g, cap, by rw [hl], g, rfl, by simpa using hg, fun j x hx => ?_⟩
    have hgD : g ≠ D := fun e => by
      rcases hrow.2 with ⟨h4, _⟩ | ⟨g', cap', cur, h4, _, h5, _⟩
      · cases h4
      · cases h4; rw [e, hK] at h5; cases h5
    rw [World.cell?_of_block (World.putObj_heap_other hgD), World.cell?_of_block (World.putObj_heap_other hgD), World.cell?_of_block (World.putObj_heap_other hgD)]
    rw [← hpre] at hx
    exact hc j x hx
  have KEY := hide key
  clear key
  apply rangeP (gf := 32) (lb := #[.pointer (some ⟨w.heap.size + 2, 0, none⟩)]) (encs := encL) rfl (enters_of Try.func32 (by kernel_rfl) rfl)
    (lall_x (fun t => t = 33) (fun k => k = w.heap.size + 2) (w.heap.size + 2) s W0 (by omega) rfl (fun k h => by omega) b5.cell (by decide) (by decide)) (Below.refl _ _) (fun k h => by omega) (fun _ => rfl)
    (fun pre W' => (Boxed W' w.heap.size 3 (.int .i64 (k : Int)) ∧ ∃ v, (Boxed W' (w.heap.size + 1) 22 v ∧ World.ownsRow W' (w.heap.size + 3) 33 3 v pre.length (pre.flatMap lnC))) ∧ (pre.length < k ∧ (W0.heap.size ≤ W'.heap.size ∧ Below w.heap.size w W')))
    (fun c pre W' => (c = .exit 0 ∧ ∃ v, (Boxed W' (w.heap.size + 1) 22 v ∧ World.ownsRow W' (w.heap.size + 3) 33 3 v pre.length (pre.flatMap lnC))) ∧ (pre.length = k ∧ Below w.heap.size w W'))
    (Stab.and (Stab.and (Stab.box _ _ (by omega)) (Stab.ex fun v => Stab.and (Stab.box _ _ (by omega)) (Stab.row _ _ _ _ _ rfl))) (Stab.and (Stab.pure _) (Stab.and (fun s A B h hs => Nat.le_trans h hs.1.2.2.2) (Stab.below (by omega) (by omega)))))
    (fun c => Stab.and (Stab.and (Stab.pure _) (Stab.ex fun v => Stab.and (Stab.box _ _ (by omega)) (Stab.row _ _ _ _ _ rfl))) (Stab.and (Stab.pure _) (Stab.below (by omega) (by omega))))
    ⟨⟨b0, _, b1, World.ownsRow_nil _ _ _ _⟩, by simp; omega, Nat.le_refl _, hB0⟩ (fun x => #[.int .i64 (x.1 : Int), .int .i64 (x.2.1 : Int)]) 28
  case hsize => exact fun s W h => h.2.2.1
  case hassign =>
    intro l' x W' K hK
    simp only [encL]
    gi_wp2
    exact hK _ ((Below.refl _ _).alloc (Nat.le_refl _) _) (heap_alloc_new _ _)
  case hbody =>
    rintro l' pre x Wb W' ⟨⟨h0, v, h1, hrow⟩, hpk, hsz', hB⟩ hWb hpc hpx
    obtain ⟨hpl, hget⟩ := take_of_pre hpx
    obtain ⟨p, q, e⟩ := x
    simp only at hpc
    have hP : Box2 W' Wb.heap.size 28 (.int .i64 (p : Int)) (.int .i64 (q : Int)) := hpc
    have fin : ∀ W4 w4 v', Below W'.heap.size W' W4 → World.ownsRow w4 (w.heap.size + 3) 33 3 v' (pre.length + 1) (pre.flatMap lnC ++ [.int .i64 (p : Int), .int .i64 (q : Int), .int .i64 (e : Int)]) → W4.grownBy w4 v.ownBlock →
        (w4.cell? ⟨w.heap.size + 1, 0, none⟩ = some v ∧ w4.frozen? ⟨w.heap.size + 1, 0, none⟩ = false) ∧ ((w4.setCell ⟨w.heap.size + 1, 0, none⟩ v').cell? ⟨w.heap.size + 1, 0, none⟩ = some v' ∧ (w4.setCell ⟨w.heap.size + 1, 0, none⟩ v').cell? ⟨w.heap.size, 0, none⟩ = some (.int .i64 (k : Int))) ∧
        (Kp (fun t => t = 33) (fun k => k = w.heap.size + 2) W0.heap.size W' (w4.setCell ⟨w.heap.size + 1, 0, none⟩ v') ∧ (Boxed (w4.setCell ⟨w.heap.size + 1, 0, none⟩ v') w.heap.size 3 (.int .i64 (k : Int)) ∧ ∃ v, (Boxed (w4.setCell ⟨w.heap.size + 1, 0, none⟩ v') (w.heap.size + 1) 22 v ∧ World.ownsRow (w4.setCell ⟨w.heap.size + 1, 0, none⟩ v') (w.heap.size + 3) 33 3 v (pre ++ [(p, q, e)]).length ((pre ++ [(p, q, e)]).flatMap lnC))) ∧ (W0.heap.size ≤ (w4.setCell ⟨w.heap.size + 1, 0, none⟩ v').heap.size ∧ Below w.heap.size w (w4.setCell ⟨w.heap.size + 1, 0, none⟩ v'))) := by
      intro W4 w4 v' hB4 hown hgr
      have hrow4 := ownsRow_belowS hrow hB4
      have hlow : ∀ k, v.ownBlock = some k → w.heap.size + 3 ≤ k ∧ ∃ o, W4.heap[k]? = some o ∧ Held (fun t => t = 33) o := fun k hk => by
        rcases hrow4.2 with ⟨rfl, _⟩ | ⟨g, cap, cur, rfl, hg, hh, _⟩
        · cases hk
        · cases hk
          exact ⟨hg, _, hh, _, _, _, rfl, rfl⟩
      have hkeep : ∀ k o, W4.heap[k]? = some o → k < w.heap.size + 3 → w4.heap[k]? = some o := fun k o hk hc => by
        refine (hgr.block k (Array.getElem?_eq_some_iff.1 hk).1 (fun e => ?_)).trans hk
        have := (hlow k e.symm).1
        omega
      have g0 : Boxed w4 w.heap.size 3 (.int .i64 (k : Int)) := hkeep _ _ (below_boxed hB4 h0) (by omega)
      have g1 : Boxed w4 (w.heap.size + 1) 22 v := hkeep _ _ (below_boxed hB4 h1) (by omega)
      have k0 := g0.other (B' := w.heap.size + 1) (by omega) v'
      refine ⟨⟨g1.cell, g1.frozen⟩, ⟨(g1.set v').cell, k0.cell⟩, ?_, ⟨k0, v', g1.set v', ?_⟩, ?_, ?_⟩
      · refine ((Kp.of_below hB4).trans (Kp.grown hgr (fun k hk => ?_))).trans (Kp.set _ (fun h => by omega) (by omega))
        obtain ⟨h5, h6⟩ := hlow k hk
        exact ⟨by omega, .inr h6⟩
      · rw [List.length_append, flat_snocL]
        exact ownsRow_setCell_below (a := ⟨w.heap.size + 1, 0, none⟩) hown (show w.heap.size + 1 < w.heap.size + 3 by omega) v'
      · have := hB4.size; have := hgr.size; simp [World.setCell]; omega
      · refine Below.setCell (p := ⟨w.heap.size + 1, 0, none⟩) ?_ (Nat.le_add_right _ _) _
        refine (bseq hB hB4).grown hgr (by have := hB4.size; have := hB.size; omega) (fun k hk => ?_)
        have := (hlow k hk).1
        omega
    have FIN := hide fin
    have HROW := hide hrow
    have HPL := hide (show pre.length ≤ 1099511627776 by omega)
    have HSZ := hide (show w.heap.size + 3 ≤ W'.heap.size by omega)
    have c1 := h1.cell
    have p0 := celOf hpc 0 _ rfl
    have p1 := celOf hpc 1 _ rfl
    have HPK := hide hpk
    have hkI : (k : Int) ≤ 2199023255552 := by omega
    have hpI : (pre.length : Int) ≤ 1099511627776 := by omega
    clear fin hrow hpx hget h0 h1 hB hP hpc hll hs hsz hB0 b0 b1 b5 hpl hk2 hpk hlp hk
    by_cases hkk : pre.length + 1 = k
    · have hge : ((k : Int) ≤ (pre.length : Int) + 1) := by omega
      have HKK := hide hkk
      clear hkk
      gi_wp2_with (gi_at_builtin; refine wpListIn_append_own _ rfl _ _ 22 rfl (w.heap.size + 3) 33 i0 (.agg #[.int .i64 0, .int .i64 0, .int .i64 0]) 3 24 Try.underlying22 hi hz0 hz1 hz2 rfl (by decide) v pre.length (pre.flatMap lnC) rfl (HROW.out.alloc _) ⟨W'.heap.size, 0, none⟩ 1 1 [.int .i64 (p : Int), .int .i64 (q : Int), .int .i64 (e : Int)] rfl rfl (cell3_new _ _ _ _ _) (by simp [Value.oneCell']) (by simp only [maxLen]; have := HPL.out; omega) (by have := HPL.out; omega) (by have := HSZ.out; simp; omega) ?_; intro v' w4 hown' hgrow' _; obtain ⟨g', cap', rfl⟩ := row_val hown'; obtain ⟨⟨d1, df1⟩, ⟨d2, d0⟩, hfin⟩ := FIN.out _ w4 _ ((Below.refl _ W').alloc (Nat.le_refl _) _) hown' hgrow'; replace hfin := hide hfin)
      obtain ⟨f1, f2, f3, f4⟩ := hfin.out
      exact ⟨f1, ⟨rfl, f2.2⟩, by simp; exact HKK.out, f4⟩
    · have hge : ((pre.length : Int) + 1 < (k : Int)) := by have := HPK.out; omega
      have HKK := hide hkk
      clear hkk
      gi_wp2_with (gi_at_builtin; refine wpListIn_append_own _ rfl _ _ 22 rfl (w.heap.size + 3) 33 i0 (.agg #[.int .i64 0, .int .i64 0, .int .i64 0]) 3 24 Try.underlying22 hi hz0 hz1 hz2 rfl (by decide) v pre.length (pre.flatMap lnC) rfl (HROW.out.alloc _) ⟨W'.heap.size, 0, none⟩ 1 1 [.int .i64 (p : Int), .int .i64 (q : Int), .int .i64 (e : Int)] rfl rfl (cell3_new _ _ _ _ _) (by simp [Value.oneCell']) (by simp only [maxLen]; have := HPL.out; omega) (by have := HPL.out; omega) (by have := HSZ.out; simp; omega) ?_; intro v' w4 hown' hgrow' _; obtain ⟨g', cap', rfl⟩ := row_val hown'; obtain ⟨⟨d1, df1⟩, ⟨d2, d0⟩, hfin⟩ := FIN.out _ w4 _ ((Below.refl _ W').alloc (Nat.le_refl _) _) hown' hgrow'; replace hfin := hide hfin)
      obtain ⟨f1, f2, f3, f4⟩ := hfin.out
      exact ⟨f1, f2, by have := HPK.out; have := HKK.out; simp; omega, f3, f4⟩
  case hdone =>
    rintro D W' hD ⟨⟨h0, v, h1, hrow⟩, hpk, hsz', hB⟩ hK
    obtain ⟨⟨g, cap, rfl, hsl⟩, hBf⟩ := KEY.out D _ v W' (by omega) h1 hrow (List.take_of_length_le (by omega)).symm hB hK
    have c1 := h1.cell
    have HSL := hide hsl
    have HBF := hide hBf
    clear h0 h1 hrow hB hsl hBf
    gi_wp2
    refine ⟨by simp, .inl ⟨_, _, rfl, run_takeDeferred hK, ?_⟩⟩
    exact ⟨_, results_tmp rfl _ _ _, ⟨g, cap, rfl, HSL.out⟩, HBF.out⟩
  case hstop =>
    rintro D c pre W' hD hpre ⟨⟨rfl, v, h1, hrow⟩, hpk, hB⟩ hK
    obtain ⟨⟨g, cap, rfl, hsl⟩, hBf⟩ := KEY.out D _ v W' (by omega) h1 hrow (by rw [← hpk]; exact pre_take hpre) hB hK
    have c1 := h1.cell
    have HSL := hide hsl
    have HBF := hide hBf
    clear h1 hrow hB hsl hBf
    gi_wp2
    refine ⟨by simp, .inl ⟨_, _, rfl, run_takeDeferred hK, ?_⟩⟩
    exact ⟨_, results_tmp rfl _ _ _, ⟨g, cap, rfl, HSL.out⟩, HBF.out⟩
end Go.Proofs.Ytegplcomhahpfaa
