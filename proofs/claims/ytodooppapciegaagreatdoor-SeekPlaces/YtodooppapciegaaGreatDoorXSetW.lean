/- Package seek: the set of the statements' own pattern is read. -/
import Derived.Test.YtodooppapciegaaGreatDoorXWrtM
import Derived.Test.YtodooppapciegaaGreatDoorXPart6
import Derived.Laws.EntriesVeiled
namespace Go.Proofs.YtodooppapciegaaGreatDoor
open Go.RowKit Go.Shelf
set_option linter.unusedVariables false
set_option linter.unusedSimpArgs false

def sW : ByteArray := ⟨#[91, 97, 45, 99, 93, 43, 92, 46]⟩
theorem sW_size : sW.size = 8 := rfl
theorem sW_ch1 : ch1 (bl (sW.extract 1 sW.size)) = (97, true) ∧ cw1 (bl (sW.extract 1 sW.size)) = 1 ∧ ch1 (bl (sW.extract 3 sW.size)) = (99, true) ∧ cw1 (bl (sW.extract 3 sW.size)) = 1 := by decide +kernel
theorem xs_at (k : Nat) : xAt sW 1 94 = false ∧ xAt sW 1 93 = false ∧ xAt sW 1 45 = false ∧ xAt sW 1 92 = false ∧ xAt sW 2 45 = true ∧ xAt sW 3 93 = false ∧ xAt sW 3 45 = false ∧ xAt sW 3 92 = false ∧ xAt sW 4 93 = true := by decide +kernel
theorem Tryz.infoPt : (Tryz.prog.info? 69).map (fun i => (i.zero, i.size, i.bytes)) = some (some .nilFunc, 1, 8) := by kernel_rfl
set_option maxRecDepth 100000 in
theorem part_nil (w : World) : Sem.run Tryz.prog (binOp BinOp.eql 69 Value.nilFunc Value.nilFunc) w = .ok (.bool true) w := rfl
set_option maxRecDepth 100000 in
theorem part_nne (w : World) : Sem.run Tryz.prog (binOp BinOp.neq 69 Value.nilFunc Value.nilFunc) w = .ok (.bool false) w := rfl
set_option maxRecDepth 100000 in
theorem part_set (gf : Nat) (lb : Array Value) (w : World) : Sem.run Tryz.prog (binOp BinOp.eql 69 (.func (.func gf) #[] lb) Value.nilFunc) w = .ok (.bool false) w := rfl
theorem cel2' {w : World} {B : Nat} {cs : Array Value} {t : TypeId} {fr : Nat × Nat} (h : w.heap[B]? = some (.cells cs t fr)) (i : Nat) (v : Value) (hv : cs[i]? = some v) : w.cell? ⟨B, i, none⟩ = some v := by
  simp only [World.cell?, h]
  exact hv
theorem cell_one_newX (W : World) (t : TypeId) (a : Value) : ∀ (j : Nat) (u : Value), [a][j]? = some u → (W.alloc (.cells #[a] t)).cell? ((⟨W.heap.size, 0, none⟩ : Addr).add j) = some u := by
  intro j u hu
  rw [addr_addS]
  refine cel2 (heap_alloc_new W _) j u ?_
  simpa using hu
set_option maxRecDepth 100000 in
set_option maxHeartbeats 8000000 in
theorem xset_works (b : Nat) (v : Value) (w : World) (h : Rx w b sW 1 false v) :
    Calls Tryz.prog 31 #[.pointer (some ⟨b, 0, none⟩)] w fun e w' => ∃ u, e = .returned (.tuple #[u, .bool true]) ∧ Rx w' b sW 5 false v ∧ PartV (fun k => w.heap.size ≤ k ∧ k < w'.heap.size) w' u (setP false false [btwP 97 99]) ∧ GrX (fun j => j = b) w w' := by
  obtain ⟨e1, e2, e3, e4, e5, e6, e7, e8, e9⟩ := xs_at 0
  obtain ⟨c1, c2, c3, c4⟩ := sW_ch1
  have pn := fun W => part_nil W
  have pm := fun W => part_nne W
  have hlt := h.lt
  obtain ⟨X, hX⟩ : ∃ X, X = (w.alloc (.cells #[.int .i32 0, .bool false] 71)).alloc (.cells #[.int .i32 0, .bool false] 71) := ⟨_, rfl⟩
  have hB : Below w.heap.size w X := by rw [hX]; exact ((Below.refl _ w).alloc (Nat.le_refl _) _).alloc (by simp) _
  have hsz : X.heap.size = w.heap.size + 2 := by rw [hX]; simp
  have h6 : X.heap[w.heap.size]? = some (.cells #[.int .i32 0, .bool false] 71 (0, 0)) := by
    rw [hX]
    exact (((Below.refl _ (w.alloc (.cells #[.int .i32 0, .bool false] 71))).alloc (Nat.le_refl _) (.cells #[.int .i32 0, .bool false] 71)).block w.heap.size (by simp)).trans (heap_alloc_new w _)
  have h7 : X.heap[w.heap.size + 1]? = some (.cells #[.int .i32 0, .bool false] 71 (0, 0)) := by
    rw [hX]
    have k := heap_alloc_new (w.alloc (.cells #[.int .i32 0, .bool false] 71)) (.cells #[.int .i32 0, .bool false] 71)
    simpa using k
  have HR := hide (h.below hB)
  have HG := hide (GrX.of_below (X := fun j => j = b) (Below.refl _ X))
  have HB := hide hB
  have H6 := hide h6
  have H7 := hide h7
  have HLT := hide hlt
  have kw := fun (W : World) (p : Nat) (hp : p ≤ sW.size) (hr : Rx W b sW p false v) (hx : xAt sW p 92 = false) => xwritten_plain b sW p false v W hr hp (by rw [sW_size]; decide) hx
  have KW := hide kw
  clear h hB h6 h7 hlt kw
  go_enter Tryz.func31, Tryz.ntmps31
  go_wp2_with (fail)
  refine wp_scope_n 5 ?_
  go_upto_region 5 with (fail)
  rw [← hX]
  clear hX
  go_upto_region 12 with (first
    | (go_at_call 25; refine (xtakes_any b sW _ _ false v _ HR.out (by rw [sW_size]; decide) (by rw [sW_size]; decide)).mono ?_; rintro e x ⟨rfl, hRn, hgn⟩; replace HG := hide (HG.out.trans (GrX.of_grown hgn (fun j hj => .inl (by cases hj; rfl)))); replace HR := hide hRn; clear hRn hgn; simp only [e1, e2, e3, e4, e5, e6, e7, e8, e9, Bool.false_eq_true, if_false, if_true, Nat.reduceAdd] at HR ⊢)
    | (go_at_call 27; refine (xsees_any b sW _ _ false v _ HR.out (by rw [sW_size]; decide) (by rw [sW_size]; decide)).mono ?_; rintro e x ⟨rfl, n1, rfl⟩; replace HG := hide (HG.out.trans (GrX.of_grown (grownX_drewN _ n1 (some b)) (fun j hj => .inl (by cases hj; rfl)))); replace HR := hide (HR.out.drewN n1); simp only [e1, e2, e3, e4, e5, e6, e7, e8, e9]))
  refine wp_label ?_
  go_upto_region 12 with (first
    | (go_at_call 25; refine (xtakes_any b sW _ _ false v _ HR.out (by rw [sW_size]; decide) (by rw [sW_size]; decide)).mono ?_; rintro e x ⟨rfl, hRn, hgn⟩; replace HG := hide (HG.out.trans (GrX.of_grown hgn (fun j hj => .inl (by cases hj; rfl)))); replace HR := hide hRn; clear hRn hgn; simp only [e1, e2, e3, e4, e5, e6, e7, e8, e9, Bool.false_eq_true, if_false, if_true, Nat.reduceAdd] at HR ⊢)
    | (go_at_call 27; refine (xsees_any b sW _ _ false v _ HR.out (by rw [sW_size]; decide) (by rw [sW_size]; decide)).mono ?_; rintro e x ⟨rfl, n1, rfl⟩; replace HG := hide (HG.out.trans (GrX.of_grown (grownX_drewN _ n1 (some b)) (fun j hj => .inl (by cases hj; rfl)))); replace HR := hide (HR.out.drewN n1); simp only [e1, e2, e3, e4, e5, e6, e7, e8, e9]))
  go_upto_region 13 with (go_at_call 29; refine (KW.out _ _ (by rw [sW_size]; decide) HR.out e4).mono ?_; rintro e x ⟨rfl, hRn, hgn⟩; replace HG := hide (HG.out.trans hgn); have Q6 := hide ((HG.out.2.2.2.2 (w.heap.size) (by rw [hsz]; omega) (by have := HLT.out; omega)).trans H6.out); obtain ⟨a60, a61, a6f⟩ := chr_facts (b := b) Q6.out; replace HR := hide hRn; clear hRn hgn; simp only [c1, c2, c3, c4, chV, Nat.reduceAdd, show decide (0 < 1) = true from rfl] at HR ⊢)
  obtain ⟨Y, hY⟩ : ∃ Y, Y = (x.setCell ⟨w.heap.size, 0, none⟩ (.int .i32 97)).setCell ⟨w.heap.size, 1, none⟩ (.bool true) := ⟨_, rfl⟩
  have hne6 : w.heap.size ≠ b := fun e => by have := HLT.out; omega
  have hne7 : w.heap.size + 1 ≠ b := fun e => by have := HLT.out; omega
  have y6 : Y.heap[w.heap.size]? = some (.cells #[.int .i32 97, .bool true] 71 (0, 0)) := by
    rw [hY]
    exact heap_setCell_same _ _ 1 _ _ _ (heap_setCell_same x _ 0 _ _ _ Q6.out)
  have yo : ∀ k, k ≠ w.heap.size → Y.heap[k]? = x.heap[k]? := fun k hk => by
    rw [hY]
    exact (heap_setCell_other _ ⟨w.heap.size, 1, none⟩ k _ hk).trans (heap_setCell_other _ ⟨w.heap.size, 0, none⟩ k _ hk)
  have y7 := (yo (w.heap.size + 1) (by omega)).trans ((HG.out.2.2.2.2 (w.heap.size + 1) (by rw [hsz]; omega) hne7).trans H7.out)
  have yr : Rx Y b sW 2 false v := (yo b hne6.symm).trans HR.out
  have yg : GrX (fun j => j = b) w Y := by
    rw [hY]
    exact (((GrX.of_below HB.out).trans HG.out).setNew (Nat.le_refl _)).setNew (Nat.le_refl _)
  rw [← hY]
  have hys : w.heap.size + 2 ≤ Y.heap.size := by rw [hY]; simpa [World.setCell, hsz] using HG.out.2.2.2.1
  replace HR := hide yr
  have HGW := hide yg
  replace HG := hide (GrX.of_below (X := fun j => j = b) (Below.refl _ Y))
  replace H6 := hide y6
  replace H7 := hide y7
  clear y6 y7 yo yr yg hY Q6 a60 a61 a6f hsz HB
  go_wp2_with (first
    | (go_at_call 25; refine (xtakes_any b sW _ _ false v _ HR.out (by rw [sW_size]; decide) (by rw [sW_size]; decide)).mono ?_; rintro e x ⟨rfl, hRn, hgn⟩; replace HG := hide (HG.out.trans (GrX.of_grown hgn (fun j hj => .inl (by cases hj; rfl)))); replace HR := hide hRn; clear hRn hgn; simp only [e1, e2, e3, e4, e5, e6, e7, e8, e9, Bool.false_eq_true, if_false, if_true, Nat.reduceAdd] at HR ⊢)
    | (go_at_call 27; refine (xsees_any b sW _ _ false v _ HR.out (by rw [sW_size]; decide) (by rw [sW_size]; decide)).mono ?_; rintro e x ⟨rfl, n1, rfl⟩; replace HG := hide (HG.out.trans (GrX.of_grown (grownX_drewN _ n1 (some b)) (fun j hj => .inl (by cases hj; rfl)))); replace HR := hide (HR.out.drewN n1); simp only [e1, e2, e3, e4, e5, e6, e7, e8, e9]))
  (try go_step3)
  first | refine goto_then rfl ?_ | refine goto_plain rfl ?_ | refine goto_block rfl ?_
  go_upto_region 21 with (first
    | (go_at_call 25; refine (xtakes_any b sW _ _ false v _ HR.out (by rw [sW_size]; decide) (by rw [sW_size]; decide)).mono ?_; rintro e x ⟨rfl, hRn, hgn⟩; replace HG := hide (HG.out.trans (GrX.of_grown hgn (fun j hj => .inl (by cases hj; rfl)))); replace HR := hide hRn; clear hRn hgn; simp only [e1, e2, e3, e4, e5, e6, e7, e8, e9, Bool.false_eq_true, if_false, if_true, Nat.reduceAdd] at HR ⊢)
    | (go_at_call 27; refine (xsees_any b sW _ _ false v _ HR.out (by rw [sW_size]; decide) (by rw [sW_size]; decide)).mono ?_; rintro e x ⟨rfl, n1, rfl⟩; replace HG := hide (HG.out.trans (GrX.of_grown (grownX_drewN _ n1 (some b)) (fun j hj => .inl (by cases hj; rfl)))); replace HR := hide (HR.out.drewN n1); simp only [e1, e2, e3, e4, e5, e6, e7, e8, e9]))
  go_upto_region 22 with (go_at_call 29; refine Calls.mono (KW.out _ 3 (by rw [sW_size]; decide) (by exact HR.out) e8) ?_; rintro e x2 ⟨rfl, hRn, hgn⟩; replace HG := hide (GrX.trans (a := Y) (by exact HG.out) hgn); replace HR := hide hRn; have Q7 := hide ((HG.out.2.2.2.2 (w.heap.size + 1) (by omega) hne7).trans H7.out); obtain ⟨a70, a71, a7f⟩ := chr_facts (b := b) Q7.out; clear hRn hgn; simp only [c1, c2, c3, c4, chV, Nat.reduceAdd, show decide (0 < 1) = true from rfl] at HR ⊢)
  obtain ⟨Z, hZ⟩ : ∃ Z, Z = (x2.setCell ⟨w.heap.size + 1, 0, none⟩ (.int .i32 99)).setCell ⟨w.heap.size + 1, 1, none⟩ (.bool true) := ⟨_, rfl⟩
  have z7 : Z.heap[w.heap.size + 1]? = some (.cells #[.int .i32 99, .bool true] 71 (0, 0)) := by
    rw [hZ]
    exact heap_setCell_same _ _ 1 _ _ _ (heap_setCell_same x2 _ 0 _ _ _ Q7.out)
  have zo : ∀ k, k ≠ w.heap.size + 1 → Z.heap[k]? = x2.heap[k]? := fun k hk => by
    rw [hZ]
    exact (heap_setCell_other _ ⟨w.heap.size + 1, 1, none⟩ k _ hk).trans (heap_setCell_other _ ⟨w.heap.size + 1, 0, none⟩ k _ hk)
  have z6 := (zo w.heap.size (by omega)).trans ((HG.out.2.2.2.2 w.heap.size (by omega) hne6).trans H6.out)
  have zr : Rx Z b sW 4 false v := (zo b hne7.symm).trans HR.out
  have zg : GrX (fun j => j = b) w Z := by
    rw [hZ]
    exact ((HGW.out.trans HG.out).setNew (Nat.le_add_right _ _)).setNew (Nat.le_add_right _ _)
  rw [← hZ]
  have hzs : w.heap.size + 2 ≤ Z.heap.size := by rw [hZ]; simpa [World.setCell] using Nat.le_trans hys HG.out.2.2.2.1
  replace HR := hide zr
  replace HGW := hide zg
  obtain ⟨a60, a61, a6f⟩ := chr_facts (b := b) z6
  obtain ⟨b70, b71, b7f⟩ := chr_facts (b := b) z7
  clear z6 z7 zo zr zg hZ Q7 a70 a71 a7f HG H6 H7 hys
  obtain ⟨i0, hi, hz0, hz1, hz2⟩ := info_parts Tryz.infoPt
  have kbt := between_any 97 99 Z
  have KBT := hide kbt
  clear kbt
  go_wp2_with (first
    | (go_at_call 54; refine (KBT.out).mono ?_; rintro e z3 ⟨u, rfl, hp3, hb3⟩; have HP3 := hide hp3; have HB3 := hide hb3; have hu3 := hp3.fn; obtain ⟨_, fu, lbu, rfl, _, _⟩ := hp3; clear hb3 KBT)
    | (at_builtin; refine wpList_append_own_at _ rfl _ _ 102 rfl w.heap.size 69 i0 .nilFunc 1 8 Tryz.underlying102 hi hz0 hz1 hz2 rfl (by decide) (.slice none 0 0) 0 [] rfl (World.ownsRow_nil _ _ _ _) ⟨z3.heap.size, 0, none⟩ 1 1 [.func (.func fu) #[] lbu] rfl rfl (cell_one_newX z3 _ _) (by simp [Value.oneCell']) (by unfold maxLen; omega) (by omega) (by have := HB3.out.size; simp; omega) ?_; intro v1 x4 ho4 hg4 hnn hat; have HO4 := hide ho4; have HG4 := hide hg4; clear hnn hat ho4 hg4))
  have hB4 : Below Z.heap.size Z x4 := ((HB3.out.alloc HB3.out.size _).grown HG4.out (by have := HB3.out.size; simp; omega) (fun k e => by simp [Value.ownBlock] at e))
  have h34 : Below z3.heap.size z3 x4 := (((Below.refl _ z3).alloc (Nat.le_refl _) _).grown HG4.out (by simp) (fun k e => by simp [Value.ownBlock] at e))
  replace HR := hide (HR.out.below hB4)
  have HGX4 := hide (HGW.out.trans (GrX.of_below (X := fun j => j = b) hB4))
  obtain ⟨g, cap, cur, rfl, hg1, hg2, hg5⟩ : ∃ g cap cur, v1 = .slice (some ⟨g, 0, none⟩) 1 cap ∧ w.heap.size ≤ g ∧ x4.heap[g]? = some (.cells cur 69 (0, 0)) ∧ cur.toList.take 1 = [.func (.func fu) #[] lbu] := by
    rcases HO4.out.2 with ⟨_, h0⟩ | ⟨g, cap, cur, hv, hb, hg, _, _, _, hc⟩
    · omega
    · exact ⟨g, cap, cur, hv, hb, hg, by simpa using hc⟩
  have PV : Hid (PartsV (fun k => w.heap.size ≤ k ∧ k < x4.heap.size) x4 (.slice (some ⟨g, 0, none⟩) 1 cap) [btwP 97 99]) := by
    refine ⟨fun k hk => hk.2, .inr ⟨g, cap, rfl, ⟨hg1, (Array.getElem?_eq_some_iff.1 hg2).1⟩, fun i P hP => ?_⟩⟩
    obtain rfl : i = 0 := by
      have h1 := (List.getElem?_eq_some_iff.1 hP).1
      simp at h1
      exact h1
    obtain rfl : btwP 97 99 = P := by simpa using hP
    refine ⟨.func (.func fu) #[] lbu, ?_, ?_⟩
    · have h0 : cur.toList[0]? = some (.func (.func fu) #[] lbu) := by
        have := congrArg (fun l => l[0]?) hg5
        simpa [List.getElem?_take] using this
      refine cel2' hg2 0 _ ?_
      simpa using h0
    · exact (HP3.out.below h34).wider (fun k hk => ⟨by have := hzs; rcases hk with h | h <;> omega, by have := h34.size; have := HB3.out.size; have := HP3.out.1 k hk; omega⟩) (fun k hk => hk.2)
  clear HG4 HO4 HGW hg1 hg2 hg5 a60 a61 a6f b70 b71 b7f HP3 HB3 hB4 h34
  go_step3
  first | refine goto_then rfl ?_ | refine goto_plain rfl ?_ | refine goto_block rfl ?_
  go_wp2_with (first
    | (go_at_call 25; refine (xtakes_any b sW _ _ false v _ HR.out (by rw [sW_size]; decide) (by rw [sW_size]; decide)).mono ?_; rintro e x5 ⟨rfl, hRn, hgn⟩; have PV5 := hide (PV.out.keep (GrX.keepD (GrX.of_grown (X := fun j => j = b) hgn (fun j hj => .inl (by cases hj; rfl))) (fun k hk => ⟨hk.2, fun e => by have := HLT.out; have := hk.1; omega⟩))); have HGX := hide (HGX4.out.trans (GrX.of_grown hgn (fun j hj => .inl (by cases hj; rfl)))); have hs5 := hide hgn.size; replace HR := hide hRn; clear hRn hgn; simp only [e1, e2, e3, e4, e5, e6, e7, e8, e9, Bool.false_eq_true, if_false, if_true, Nat.reduceAdd] at HR ⊢)
    | (go_at_call 52; refine (xwhole_any b sW 5 false false v _ _ _ _ HR.out PV5.out (by decide)).mono ?_; rintro e x6 ⟨u6, rfl, hpo, hb6⟩; have HPO := hide hpo; have HB6 := hide hb6; clear hpo hb6))
  rw [jumpA_ret]
  go_ret2
  obtain ⟨E, hE, hP⟩ := HPO.out
  have h56 := HB6.out.size
  have h45 := hs5.out
  have hw4 : w.heap.size ≤ x4.heap.size := HGX4.out.2.2.2.1
  exact ⟨_, rfl, HR.out.below HB6.out, hP.wider (fun k hk => ⟨by rcases hE k hk with h | h <;> omega, hP.1 k hk⟩) (fun k hk => hk.2), HGX.out.trans (GrX.of_below (X := fun j => j = b) HB6.out)⟩
end Go.Proofs.YtodooppapciegaaGreatDoor
