/- What the document's Where answers. -/
import Derived.Test.YtegplcomhahpfaaLRWhere
import Derived.Deep.RegionHeld3
namespace Go.Proofs.Ytegplcomhahpfaa
open Go.RowKit Go.Shelf
set_option linter.unusedVariables false

theorem rwhere_bad (s : ByteArray) (n : Int) (w : World) (hb : n < 0 ∨ (s.size : Int) < n) :
    Calls Try.prog 29 #[.string s, .int .i64 n] w fun e w' => e = .returned (.tuple #[.agg #[.int .i64 0, .int .i64 0], .int .i64 6]) ∧ Below w.heap.size w w' := by
  have P0 : Box2 (w.alloc (.cells #[.int .i64 0, .int .i64 0] 47)) w.heap.size 47 (.int .i64 0) (.int .i64 0) := heap_alloc_new _ _
  have hB := (Below.refl _ w).alloc (Nat.le_refl _) (.cells #[.int .i64 0, .int .i64 0] 47)
  have HP0 := hide P0
  have HB := hide hB
  clear P0 hB
  by_cases h : n < 0
  · clear hb
    go_enter Try.func29, Try.ntmps29
    go_wp2
    refine bodyPost_ret (results_row_tmp' rfl _ _ w.heap.size 47 #[.int .i64 0, .int .i64 0] (0, 0) _ rfl HP0.out Try.underlying47 rfl (by kernel_rfl)) rfl ?_
    exact ⟨rfl, HB.out⟩
  · have h2 : (s.size : Int) < n := by omega
    have h3 : 0 ≤ n := by omega
    clear hb h
    go_enter Try.func29, Try.ntmps29
    go_wp2
    refine bodyPost_ret (results_row_tmp' rfl _ _ w.heap.size 47 #[.int .i64 0, .int .i64 0] (0, 0) _ rfl HP0.out Try.underlying47 rfl (by kernel_rfl)) rfl ?_
    exact ⟨rfl, HB.out⟩

set_option maxRecDepth 100000 in
set_option maxHeartbeats 4000000 in
theorem rwhere_in (s : ByteArray) (n k : Nat) (x : Nat × Nat × Nat) (w : World) (hn : n ≤ s.size) (hs : s.size ≤ 1099511627776) (hw : WhereAt (bl s) n k x) (hx : x.1 ≤ n) :
    Calls Try.prog 29 #[.string s, .int .i64 (n : Int)] w fun e w' => e = .returned (.tuple #[.agg #[.int .i64 (k : Int), .int .i64 (ofV (bl (s.extract x.1 (x.2.1 + x.2.2))) ((n : Int) - x.1)).1], .int .i64 (ofV (bl (s.extract x.1 (x.2.1 + x.2.2))) ((n : Int) - x.1)).2]) ∧ Below w.heap.size w w' := by
  have kf := fun w' => rfirst_any s n w' hn (by omega)
  have hlp := Ls_pos (bl s)
  have hll := Ls_len (bl s)
  rw [bl_len] at hll
  have hkl : k < (Ls (bl s)).length := (List.getElem?_eq_some_iff.1 hw.1).1
  have hka : ∀ w', Calls Try.prog 7 #[.string s] w' fun e w'' => (∃ g cap, e = .returned (.slice (some ⟨g, 0, none⟩) (Ls (bl s)).length cap) ∧ (g < w''.heap.size ∧ w'.heap.size ≤ g ∧ ∀ k' y, (Ls (bl s))[k']? = some y → w''.cell? ⟨g, k' * 3, none⟩ = some (.int .i64 (y.1 : Int)))) ∧ Below w'.heap.size w' w'' := by
    intro w'
    refine (rall_any s w' hs).mono ?_
    rintro e w1 ⟨v, rfl, ho, hB1⟩
    have ho2 := ho
    obtain ⟨ad, cap, rfl, hsl⟩ := sll_of_owns ho hlp
    obtain ⟨g, rfl, hg, hcl⟩ := hsl
    have hgb : w'.heap.size ≤ g := by
      rcases ho2.2 with ⟨h1, h2⟩ | ⟨g', cap', cur, h1, h2, _⟩
      · omega
      · cases h1; exact h2
    exact ⟨⟨g, cap, rfl, hg, hgb, fun k' y hy => (hcl k' y hy).1⟩, hB1⟩
  have hcell : ∀ k' : Nat, k' < (Ls (bl s)).length → ∃ y : Nat, (∃ a b, (Ls (bl s))[k']? = some (y, a, b)) := fun k' h => ⟨_, _, _, List.getElem?_eq_getElem h⟩
  have hdown := fun (f : Nat) (hf : f ≤ n) (k' : Nat) (hk : k < k') (y : Nat × Nat × Nat) (hy : (Ls (bl s))[k']? = some y) => line_down hw hf hk hy
  have hcol := fun f hf => col_chars (f := f) (by rw [bl_len]; exact hn) hw hx hf
  have hm := Ls_mem (List.mem_of_getElem? hw.1)
  rw [bl_len] at hm
  obtain ⟨p, q, e⟩ := x
  simp only at *
  rw [bl_extract]
  obtain ⟨R, hR⟩ : ∃ R, ofV (((bl s).drop p).take (q + e - p)) ((n : Int) - (p : Int)) = R := ⟨_, rfl⟩
  rw [hR] at hcol ⊢
  clear hR
  have hkI : (k : Int) < ((Ls (bl s)).length : Int) := by omega
  have hnl : ((Ls (bl s)).length : Int) ≤ 1099511627777 := by omega
  have hxk := hw.1
  clear hw
  generalize Ls (bl s) = LL at *
  generalize hN : LL.length = N at *
  have KA := hide hka
  have KF := hide kf
  have HCE := hide hcell
  have HDN := hide hdown
  have HCOL := hide hcol
  have HXK := hide hxk
  have HM := hide hm
  have HNN := hide hN
  have P0 : Box2 (w.alloc (.cells #[.int .i64 0, .int .i64 0] 47)) w.heap.size 47 (.int .i64 0) (.int .i64 0) := heap_alloc_new _ _
  have HP0 := hide P0
  have hnI : (n : Int) ≤ (s.size : Int) := by omega
  have HS := hide hs
  clear hka kf hcell hdown hcol hxk hm hN P0 hll hlp hs
  go_enter Try.func29, Try.ntmps29
  go_upto_region 5 with (first | (go_at_call 41; refine (KF.out _).mono ?_; rintro e1 w1 ⟨⟨f, rfl, hfa⟩, hB1⟩) | (go_at_call 7; refine (KA.out _).mono ?_; rintro e2 w2 ⟨⟨g, cap, rfl, hg, hgb, hcl⟩, hB2⟩))
  obtain ⟨hpf, hfn, hcc⟩ := HCOL.out f hfa
  have hsub : (f : Int) - (p : Int) = ((f - p : Nat) : Int) := by omega
  obtain ⟨j, hj⟩ : ∃ j, f - p = j := ⟨_, rfl⟩
  rw [hj] at hsub hcc
  have hex : bl (s.extract p s.size) = (bl s).drop p := bl_from s p
  have kc := fun w' => rchars_any (s.extract p s.size) j w' (by simp; have := HS.out; omega)
  rw [hex] at kc
  obtain ⟨cc, hcx⟩ : ∃ cc, ahN ((bl s).drop p) j = cc := ⟨_, rfl⟩
  rw [hcx] at hcc kc
  have KC := hide kc
  subst hcc
  clear hj hcx hex kc
  have PX := (HP0.out.below hB1).below hB2
  have hBX := bseq (bseq ((Below.refl _ w).alloc (Nat.le_refl _) (.cells #[.int .i64 0, .int .i64 0] 47)) hB1) hB2
  have hgw : w.heap.size < g := by have := hB1.size; simp at this; omega
  generalize w2 = X at *
  have HCL := hide hcl
  have HBX := hide hBX
  have HPX := hide PX
  clear KA KF HCOL hfa hcl hBX PX HP0 hB1 hB2
  have hkf : (k : Int) ≤ (N : Int) - 1 := by omega
  have hfI : (f : Int) ≤ (n : Int) := by omega
  go_wp2
  go_loop [7] (fun q' => ∃ i : Nat, q' = .int .i64 (i : Int) ∧ k ≤ i ∧ i < N) (fun q' => (intOf q').toNat)
  case atStart => exact ⟨N - 1, by go_num, by omega, by omega⟩
  case round =>
    obtain ⟨i, rfl, hi1, hi2⟩ := hrel
    have hi2' : (i : Int) < (N : Int) := by omega
    by_cases hik : i = k
    · have hz := HCL.out k _ HXK.out
      simp only at hz
      have hzz : (p : Int) ≤ (f : Int) := by omega
      have hps : (p : Int) ≤ (s.size : Int) := by omega
      have hwj : IntKind.i64.wrap (j : Int) = (j : Int) := by have := HS.out; rw [IntKind.wrap_i64]; omega
      have mk : ∀ W, Below X.heap.size X W → (Below w.heap.size w W ∧ W.cell? ⟨g, k * 3, none⟩ = some (.int .i64 (p : Int)) ∧ ∃ a b, Box2 W w.heap.size 47 a b) := fun W hB => ⟨bseq HBX.out hB, (hB.cell (p := ⟨g, k * 3, none⟩) hg).trans hz, _, _, HPX.out.below hB⟩
      have mk2 : ∀ W, Below X.heap.size X W → (Below w.heap.size w ((W.setCell ⟨w.heap.size, 0, none⟩ (.int .i64 (k : Int))).setCell ⟨w.heap.size, 1, none⟩ (.int .i64 (cc : Int))) ∧ ((W.setCell ⟨w.heap.size, 0, none⟩ (.int .i64 (k : Int))).setCell ⟨w.heap.size, 1, none⟩ (.int .i64 (cc : Int))).cell? ⟨g, k * 3, none⟩ = some (.int .i64 (p : Int)) ∧ ∃ a b, Box2 ((W.setCell ⟨w.heap.size, 0, none⟩ (.int .i64 (k : Int))).setCell ⟨w.heap.size, 1, none⟩ (.int .i64 (cc : Int))) w.heap.size 47 a b) := fun W hB => by
        refine ⟨((bseq HBX.out hB).setCell (p := ⟨w.heap.size, 0, none⟩) (Nat.le_refl _) _).setCell (p := ⟨w.heap.size, 1, none⟩) (Nat.le_refl _) _, ?_, _, _, (HPX.out.below hB).set _ _⟩
        rw [World.cell?_of_block (Below.heap_setCell _ ⟨w.heap.size, 1, none⟩ _ g (by simp; omega)), World.cell?_of_block (Below.heap_setCell _ ⟨w.heap.size, 0, none⟩ _ g (by simp; omega))]
        exact (hB.cell (p := ⟨g, k * 3, none⟩) hg).trans hz
      have MK := hide mk
      have MK2 := hide mk2
      have hpx : ∀ W, Below X.heap.size X W → Box2 W w.heap.size 47 (.int .i64 0) (.int .i64 0) := fun W hB => HPX.out.below hB
      have HPB := hide hpx
      have hik' : (i : Int) = (k : Int) := by omega
      subst hik
      clear mk mk2 hpx hik' HM HXK HDN HCE HNN HPX HBX
      go_wp2_with (fail)
      go_region_held3 (fun W => Below w.heap.size w W ∧ W.cell? ⟨g, i * 3, none⟩ = some (.int .i64 (p : Int)) ∧ ∃ a b, Box2 W w.heap.size 47 a b) (first | exact MK.out _ (Below.refl _ _).drew | exact MK.out _ hX2 | exact MK2.out _ hX2) (first | (go_at_call 42; refine (KC.out _).mono ?_; rintro e3 w3 ⟨rfl, hB3⟩; have hX2 : Below X.heap.size X w3 := bseq (Below.refl _ _).drew hB3; obtain ⟨d0, d1, df0, df1⟩ := box2_of (HPB.out _ hX2); have d1' := (HPB.out _ hX2).c1 (.int .i64 (i : Int))))
      go_wp2
      refine bodyPost_ret (results_row_tmp' rfl _ _ w.heap.size 47 #[.int .i64 (i : Int), .int .i64 (cc : Int)] (0, 0) _ rfl ((HPB.out _ hX2).set _ _) Try.underlying47 rfl (by kernel_rfl)) rfl ?_
      exact ⟨rfl, (MK2.out _ hX2).1⟩
    · obtain ⟨y, a, b, hy⟩ := HCE.out i hi2
      have hz := HCL.out i _ hy
      simp only at hz
      have hyf := HDN.out f hfn i (by omega) _ hy
      simp only at hyf
      have hyf' : (f : Int) < (y : Int) := by omega
      have hik' : (k : Int) < (i : Int) := by omega
      clear hy hik
      go_wp2
      go_round
      case rel => exact ⟨i - 1, by go_num, by omega, by omega⟩
      case measure => simp [intOf]; omega
end Go.Proofs.Ytegplcomhahpfaa
