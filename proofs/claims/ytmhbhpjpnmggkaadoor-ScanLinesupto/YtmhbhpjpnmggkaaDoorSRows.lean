/- What the law's own rows answers: the first lines of a script that say something. -/
import Derived.Test.YtmhbhpjpnmggkaaDoorSLnX
import Derived.OwnWalk
import Derived.OwnWalkIn
import Derived.Laws.AppendOwn
import Derived.Maps.AppendAt
namespace Go.Proofs.YtmhbhpjpnmggkaaDoor
open Go.RowKit Go.Shelf
set_option linter.unusedVariables false
attribute [local go_sem] Oper.semAt_some

theorem Tryd.infoRw : (Tryd.prog.info? 37).map (fun i => (i.zero, i.size, i.bytes)) = some (some (.agg #[.int .i64 0, .string ⟨#[]⟩]), 2, 24) := by kernel_rfl
/-- A line that is told, as two cells. -/
def rwC (y : Nat × ByteArray) : List Value := [.int .i64 (y.1 : Int), .string y.2]
theorem rwC_len (xs : List (Nat × ByteArray)) : (xs.flatMap rwC).length = xs.length * 2 := by
  induction xs with
  | nil => rfl
  | cons x xs ih => simp [List.flatMap_cons, ih, rwC]; omega
theorem flat_snocW (xs : List (Nat × ByteArray)) (x : Nat × ByteArray) : (xs ++ [x]).flatMap rwC = xs.flatMap rwC ++ [.int .i64 (x.1 : Int), .string x.2] := by
  rw [List.flatMap_append]; simp [rwC]
def RowW (W : World) (base : Nat) (v : Value) (ys : List (Nat × ByteArray)) : Prop := W.ownsRow base 37 2 v ys.length (ys.flatMap rwC)
theorem RowW.below {W W' : World} {base : Nat} {v : Value} {ys : List (Nat × ByteArray)} (h : RowW W base v ys) (hb : Below W.heap.size W W') : RowW W' base v ys := by
  refine ⟨h.1, ?_⟩
  rcases h.2 with h2 | ⟨g, cap, cur, hv, hg, hh, r⟩
  · exact .inl h2
  · exact .inr ⟨g, cap, cur, hv, hg, (hb.block g (Array.getElem?_eq_some_iff.1 hh).1).trans hh, r⟩
theorem RowW.other {W : World} {base D : Nat} {v : Value} {ys : List (Nat × ByteArray)} {o o' : Obj} (h : RowW W base v ys) (hD : W.heap[D]? = some o) (ho : o.isCells = false) : RowW (W.putObj D o') base v ys := by
  refine ⟨h.1, ?_⟩
  rcases h.2 with h2 | ⟨g, cap, cur, hv, hg, hh, r⟩
  · exact .inl h2
  · exact .inr ⟨g, cap, cur, hv, hg, (World.putObj_heap_other (fun e => by rw [e, hD] at hh; cases hh; cases ho)).trans hh, r⟩
theorem ownsRow_belowW {W W' : World} {base : Nat} {e : TypeId} {size : Nat} {v : Value} {k : Nat} {xs : List Value} (h : W.ownsRow base e size v k xs) (hb : Below W.heap.size W W') : W'.ownsRow base e size v k xs := by
  refine ⟨h.1, ?_⟩
  rcases h.2 with h2 | ⟨g, cap, cur, hv, hg, hh, r⟩
  · exact .inl h2
  · exact .inr ⟨g, cap, cur, hv, hg, (hb.block g (Array.getElem?_eq_some_iff.1 hh).1).trans hh, r⟩
theorem row_valW {W : World} {base : Nat} {e : TypeId} {size : Nat} {v : Value} {k : Nat} {xs : List Value} (h : W.ownsRow base e size v (k + 1) xs) : ∃ g cap, v = .slice (some ⟨g, 0, none⟩) (k + 1) cap := by
  rcases h.2 with ⟨_, h2⟩ | ⟨g, cap, cur, rfl, _⟩
  · omega
  · exact ⟨g, cap, rfl⟩
theorem cell2_newW (W : World) (t : TypeId) (a b : Value) : ∀ j u, [a, b][j]? = some u → (W.alloc (.cells #[a, b] t)).cell? ((⟨W.heap.size, 0, none⟩ : Addr).add j) = some u := by
  intro j u hj
  match j, hj with
  | 0, hj => simp at hj; subst hj; simp [Addr.add]
  | 1, hj => simp at hj; subst hj; simp [Addr.add]
  | n + 2, hj => simp at hj
set_option maxRecDepth 100000 in
theorem run_func_nilW (gf : Nat) (lb : Array Value) (w : World) : Sem.run Tryd.prog (binOp BinOp.eql 74 (Value.func (Fn.func gf) #[] lb) Value.nilFunc) w = .ok (.bool false) w := by
  rfl
theorem pre_takeW {α : Type} {pre xs : List α} (h : pre <+: xs) : pre = xs.take pre.length := List.prefix_iff_eq_take.1 h
theorem sls_len (s : ByteArray) : (SLs s).length ≤ s.size + 1 := by
  have h1 := told_len s (Ls (bl s))
  have h2 := Ls_len (bl s)
  rw [bl_len] at h2
  exact Nat.le_trans h1 h2
set_option maxRecDepth 100000 in
set_option maxHeartbeats 2000000 in
theorem rows_any (s : ByteArray) (k : Nat) (w : World) (hs : s.size ≤ 1099511627776) (hk : 1 ≤ k) (hk2 : k ≤ 2199023255552) :
    Calls Tryd.prog 15 #[.string s, .int .i64 (k : Int)] w fun e w' => ∃ v, e = .returned v ∧ RowW w' w.heap.size v ((SLs s).take k) ∧ Below w.heap.size w w' := by
  have hll := sls_len s
  obtain ⟨i0, hi, hz0, hz1, hz2⟩ := info_parts Tryd.infoRw
  have hnil := run_func_nilW
  refine (callsIn_wide (n := 3)).1 ?_
  refine callsIn_of_wp_marks Tryd.func15 rfl trivial ?_ rfl
  simp only [Tryd.ntmps15, List.size_toArray, List.length_cons, List.length_nil, Nat.reduceAdd, Nat.reduceSub, Array.replicate_succ, Array.replicate_zero, List.push_toArray, List.append_toArray, List.nil_append, List.cons_append]
  gi_wp2_with (refine ⟨trivial, ?_⟩; gi_at_call 37; refine (slines_in s _).mono ?_; rintro e w' ⟨rfl, rfl⟩)
  have b0 := ((Boxed.new w 3 (.int .i64 (k : Int))).alloc (.cells #[.slice none 0 0] 33)).alloc (.cells #[.string s] 9)
  have b1 := (Boxed.new (w.alloc (.cells #[.int .i64 (k : Int)] 3)) 33 (.slice none 0 0)).alloc (.cells #[.string s] 9)
  have b5 := Boxed.new ((w.alloc (.cells #[.int .i64 (k : Int)] 3)).alloc (.cells #[.slice none 0 0] 33)) 9 (.string s)
  have hB0 : Below w.heap.size w (((w.alloc (.cells #[.int .i64 (k : Int)] 3)).alloc (.cells #[.slice none 0 0] 33)).alloc (.cells #[.string s] 9)) := (((Below.refl _ w).alloc (Nat.le_refl _) _).alloc (by simp) _).alloc (by simp; omega) _
  have hsz : (((w.alloc (.cells #[.int .i64 (k : Int)] 3)).alloc (.cells #[.slice none 0 0] 33)).alloc (.cells #[.string s] 9)).heap.size = w.heap.size + 3 := by simp
  simp only [World.size_alloc] at b1 b5
  obtain ⟨W0, hW0⟩ : ∃ W0, (((w.alloc (.cells #[.int .i64 (k : Int)] 3)).alloc (.cells #[.slice none 0 0] 33)).alloc (.cells #[.string s] 9)) = W0 := ⟨_, rfl⟩
  rw [hW0] at b0 b1 b5 hB0 hsz ⊢
  clear hW0
  simp only [Nat.add_assoc, Nat.reduceAdd] at b0 b1 b5 ⊢
  have key : ∀ (D : Nat) (pre : List (Nat × ByteArray)) (v : Value) (W : World), w.heap.size + 3 ≤ D → RowW W (w.heap.size + 3) v pre → pre = (SLs s).take k → Below w.heap.size w W → W.heap[D]? = some (.deferred (some [])) →
      RowW (W.putObj D (.deferred none)) w.heap.size v ((SLs s).take k) ∧ Below w.heap.size w (W.putObj D (.deferred none)) := by
    intro D pre v W hD hrow hpre hB hK
    refine ⟨?_, hB.trans (belowK_b (w := w) (Nat.le_refl _) W D _ _ (by omega) hK rfl rfl)⟩
    rw [← hpre]
    have h := hrow.other (o' := .deferred none) hK rfl
    refine ⟨h.1, ?_⟩
    rcases h.2 with h2 | ⟨g, cap, cur, hv, hg, r⟩
    · exact .inl h2
    · exact .inr ⟨g, cap, cur, hv, by omega, r⟩
  have KEY := hide key
  clear key
  apply rangeX (gf := 54) (lb := #[.pointer (some ⟨w.heap.size + 2, 0, none⟩)]) (encs := encS) rfl (enters_of Tryd.func54 (by kernel_rfl) rfl)
    (slines_x (fun t => t = 37) (fun k => k = w.heap.size + 2) (w.heap.size + 2) s W0 (by omega) rfl (fun k h => by omega) b5.cell (by decide) (by decide) (by decide) (by decide) (by decide)) (Below.refl _ _) (fun k h => by omega) (fun _ => rfl)
    (fun pre W' => (Boxed W' w.heap.size 3 (.int .i64 (k : Int)) ∧ ∃ v, (Boxed W' (w.heap.size + 1) 33 v ∧ World.ownsRow W' (w.heap.size + 3) 37 2 v pre.length (pre.flatMap rwC))) ∧ (pre.length < k ∧ (W0.heap.size ≤ W'.heap.size ∧ Below w.heap.size w W')))
    (fun c pre W' => (c = .exit 0 ∧ ∃ v, (Boxed W' (w.heap.size + 1) 33 v ∧ World.ownsRow W' (w.heap.size + 3) 37 2 v pre.length (pre.flatMap rwC))) ∧ (pre.length = k ∧ Below w.heap.size w W'))
    (Stab.and (Stab.and (Stab.box _ _ (by omega)) (Stab.ex fun v => Stab.and (Stab.box _ _ (by omega)) (Stab.row _ _ _ _ _ rfl))) (Stab.and (Stab.pure _) (Stab.and (fun s A B h hs => Nat.le_trans h hs.1.2.2.2) (Stab.below (by omega) (by omega)))))
    (fun c => Stab.and (Stab.and (Stab.pure _) (Stab.ex fun v => Stab.and (Stab.box _ _ (by omega)) (Stab.row _ _ _ _ _ rfl))) (Stab.and (Stab.pure _) (Stab.below (by omega) (by omega))))
    ⟨⟨b0, _, b1, World.ownsRow_nil _ _ _ _⟩, by simp; omega, Nat.le_refl _, hB0⟩
  case hassign =>
    intro l' x W' K hK
    simp only [encS]
    gi_wp2
    exact hK
  case hbody =>
    rintro l' pre x W' ⟨⟨h0, v, h1, hrow⟩, hpk, hsz', hB⟩ hpx
    obtain ⟨hpl, hget⟩ := take_of_pre hpx
    obtain ⟨p, q⟩ := x
    have fin : ∀ W4 w4 v', Below W'.heap.size W' W4 → World.ownsRow w4 (w.heap.size + 3) 37 2 v' (pre.length + 1) (pre.flatMap rwC ++ [.int .i64 (p : Int), .string q]) → W4.grownBy w4 v.ownBlock →
        (w4.cell? ⟨w.heap.size + 1, 0, none⟩ = some v ∧ w4.frozen? ⟨w.heap.size + 1, 0, none⟩ = false) ∧ ((w4.setCell ⟨w.heap.size + 1, 0, none⟩ v').cell? ⟨w.heap.size + 1, 0, none⟩ = some v' ∧ (w4.setCell ⟨w.heap.size + 1, 0, none⟩ v').cell? ⟨w.heap.size, 0, none⟩ = some (.int .i64 (k : Int))) ∧
        (Kp (fun t => t = 37) (fun k => k = w.heap.size + 2) W0.heap.size W' (w4.setCell ⟨w.heap.size + 1, 0, none⟩ v') ∧ (Boxed (w4.setCell ⟨w.heap.size + 1, 0, none⟩ v') w.heap.size 3 (.int .i64 (k : Int)) ∧ ∃ v, (Boxed (w4.setCell ⟨w.heap.size + 1, 0, none⟩ v') (w.heap.size + 1) 33 v ∧ World.ownsRow (w4.setCell ⟨w.heap.size + 1, 0, none⟩ v') (w.heap.size + 3) 37 2 v (pre ++ [(p, q)]).length ((pre ++ [(p, q)]).flatMap rwC))) ∧ (W0.heap.size ≤ (w4.setCell ⟨w.heap.size + 1, 0, none⟩ v').heap.size ∧ Below w.heap.size w (w4.setCell ⟨w.heap.size + 1, 0, none⟩ v'))) := by
      intro W4 w4 v' hB4 hown hgr
      have hrow4 := ownsRow_belowW hrow hB4
      have hlow : ∀ k, v.ownBlock = some k → w.heap.size + 3 ≤ k ∧ ∃ o, W4.heap[k]? = some o ∧ Held (fun t => t = 37) o := fun k hk => by
        rcases hrow4.2 with ⟨rfl, _⟩ | ⟨g, cap, cur, rfl, hg, hh, _⟩
        · cases hk
        · cases hk
          exact ⟨hg, _, hh, _, _, _, rfl, rfl⟩
      have hkeep : ∀ k o, W4.heap[k]? = some o → k < w.heap.size + 3 → w4.heap[k]? = some o := fun k o hk hc => by
        refine (hgr.block k (Array.getElem?_eq_some_iff.1 hk).1 (fun e => ?_)).trans hk
        have := (hlow k e.symm).1
        omega
      have g0 : Boxed w4 w.heap.size 3 (.int .i64 (k : Int)) := hkeep _ _ (below_boxed hB4 h0) (by omega)
      have g1 : Boxed w4 (w.heap.size + 1) 33 v := hkeep _ _ (below_boxed hB4 h1) (by omega)
      have k0 := g0.other (B' := w.heap.size + 1) (by omega) v'
      refine ⟨⟨g1.cell, g1.frozen⟩, ⟨(g1.set v').cell, k0.cell⟩, ?_, ⟨k0, v', g1.set v', ?_⟩, ?_, ?_⟩
      · refine ((Kp.of_below hB4).trans (Kp.grown hgr (fun k hk => ?_))).trans (Kp.set _ (fun h => by omega) (by omega))
        obtain ⟨h5, h6⟩ := hlow k hk
        exact ⟨by omega, .inr h6⟩
      · rw [List.length_append, flat_snocW]
        exact ownsRow_setCell_below (a := ⟨w.heap.size + 1, 0, none⟩) hown (show w.heap.size + 1 < w.heap.size + 3 by omega) v'
      · have := hB4.size; have := hgr.size; simp [World.setCell]; omega
      · refine Below.setCell (p := ⟨w.heap.size + 1, 0, none⟩) ?_ (Nat.le_add_right _ _) _
        refine (bseq hB hB4).grown hgr (by have := hB4.size; have := hB.size; omega) (fun k hk => ?_)
        have := (hlow k hk).1
        omega
    have FIN := hide fin
    have HROW := hide hrow
    have HPL := hide (show pre.length ≤ 1099511627776 by omega)
    have HSZ := hide (show w.heap.size + 3 ≤ W'.heap.size by omega)
    have c1 := h1.cell
    have HPK := hide hpk
    have hkI : (k : Int) ≤ 2199023255552 := by omega
    have hpI : (pre.length : Int) ≤ 1099511627776 := by omega
    clear fin hrow hpx hget h0 h1 hB hll hs hsz hB0 b0 b1 b5 hpl hk2 hpk hk
    by_cases hkk : pre.length + 1 = k
    · have hge : ((k : Int) ≤ (pre.length : Int) + 1) := by omega
      have HKK := hide hkk
      clear hkk
      gi_wp2_with (gi_at_builtin; refine wpListIn_append_own _ rfl _ _ 33 rfl (w.heap.size + 3) 37 i0 (.agg #[.int .i64 0, .string ⟨#[]⟩]) 2 24 Tryd.underlying33 hi hz0 hz1 hz2 rfl (by decide) v pre.length (pre.flatMap rwC) rfl (HROW.out.alloc _) ⟨W'.heap.size, 0, none⟩ 1 1 [.int .i64 (p : Int), .string q] rfl rfl (cell2_newW _ _ _ _) (by simp [Value.oneCell']) (by simp only [maxLen]; have := HPL.out; omega) (by have := HPL.out; omega) (by have := HSZ.out; simp; omega) ?_; intro v' w4 hown' hgrow' _; obtain ⟨g', cap', rfl⟩ := row_valW hown'; obtain ⟨⟨d1, df1⟩, ⟨d2, d0⟩, hfin⟩ := FIN.out _ w4 _ ((Below.refl _ W').alloc (Nat.le_refl _) _) hown' hgrow'; replace hfin := hide hfin)
      obtain ⟨f1, f2, f3, f4⟩ := hfin.out
      exact ⟨f1, ⟨rfl, f2.2⟩, by simp; exact HKK.out, f4⟩
    · have hge : ((pre.length : Int) + 1 < (k : Int)) := by have := HPK.out; omega
      have HKK := hide hkk
      clear hkk
      gi_wp2_with (gi_at_builtin; refine wpListIn_append_own _ rfl _ _ 33 rfl (w.heap.size + 3) 37 i0 (.agg #[.int .i64 0, .string ⟨#[]⟩]) 2 24 Tryd.underlying33 hi hz0 hz1 hz2 rfl (by decide) v pre.length (pre.flatMap rwC) rfl (HROW.out.alloc _) ⟨W'.heap.size, 0, none⟩ 1 1 [.int .i64 (p : Int), .string q] rfl rfl (cell2_newW _ _ _ _) (by simp [Value.oneCell']) (by simp only [maxLen]; have := HPL.out; omega) (by have := HPL.out; omega) (by have := HSZ.out; simp; omega) ?_; intro v' w4 hown' hgrow' _; obtain ⟨g', cap', rfl⟩ := row_valW hown'; obtain ⟨⟨d1, df1⟩, ⟨d2, d0⟩, hfin⟩ := FIN.out _ w4 _ ((Below.refl _ W').alloc (Nat.le_refl _) _) hown' hgrow'; replace hfin := hide hfin)
      obtain ⟨f1, f2, f3, f4⟩ := hfin.out
      exact ⟨f1, f2, by have := HPK.out; have := HKK.out; simp; omega, f3, f4⟩
  case hdone =>
    rintro D W' hD ⟨⟨h0, v, h1, hrow⟩, hpk, hsz', hB⟩ hK
    obtain ⟨hsl, hBf⟩ := KEY.out D _ v W' (by omega) hrow (List.take_of_length_le (by omega)).symm hB hK
    have c1 := h1.cell
    have HSL := hide hsl
    have HBF := hide hBf
    clear h0 h1 hrow hB hsl hBf
    gi_wp2
    refine ⟨by simp, .inl ⟨_, _, rfl, run_takeDeferred hK, ?_⟩⟩
    exact ⟨_, results_tmp rfl _ _ _, v, rfl, HSL.out, HBF.out⟩
  case hstop =>
    rintro D c pre W' hD hpre ⟨⟨rfl, v, h1, hrow⟩, hpk, hB⟩ hK
    obtain ⟨hsl, hBf⟩ := KEY.out D _ v W' (by omega) hrow (by rw [← hpk]; exact pre_takeW hpre) hB hK
    have c1 := h1.cell
    have HSL := hide hsl
    have HBF := hide hBf
    clear h1 hrow hB hsl hBf
    gi_wp2
    refine ⟨by simp, .inl ⟨_, _, rfl, run_takeDeferred hK, ?_⟩⟩
    exact ⟨_, results_tmp rfl _ _ _, v, rfl, HSL.out, HBF.out⟩
end Go.Proofs.YtmhbhpjpnmggkaaDoor
