/- What the iterator of scan.Lines tells: the lines of a script that say something, with their numbers, till a round says no more. -/
import Derived.Test.YtmhbhpjpnmggkaaDoorSLnM
import Derived.Test.YtmhbhpjpnmggkaaDoorLUse
import Derived.Stop.RegionWithIn
namespace Go.Proofs.YtmhbhpjpnmggkaaDoor
open Go.RowKit Go.Shelf
set_option linter.unusedVariables false
attribute [local go_sem] Oper.semAt_some

theorem Kp.wider {H : TypeId → Prop} {N N' : Nat → Prop} {B : Nat} {A C : World} (h : Kp H N B A C) (hN : ∀ k o, A.heap[k]? = some o → N' k → N k ∨ (B ≤ k ∧ ¬ Held H o)) : Kp H N' B A C :=
  ⟨h.1, fun k o hk hc => h.2 k o hk (hc.elim (fun h1 => hN k o hk h1) Or.inr)⟩
theorem two_ways {e : Ending} {P Q : Prop} (h : (e = .returned (.bool true) ∧ P) ∨ (e = .returned (.bool false) ∧ Q)) : ∃ b, e = .returned (.bool b) ∧ ((b = true ∧ P) ∨ (b = false ∧ Q)) := by
  rcases h with ⟨h, p⟩ | ⟨h, p⟩
  · exact ⟨true, h, .inl ⟨rfl, p⟩⟩
  · exact ⟨false, h, .inr ⟨rfl, p⟩⟩
set_option maxRecDepth 100000 in
set_option maxHeartbeats 2000000 in
theorem slines_x (H : TypeId → Prop) (N : Nat → Prop) (Bs : Nat) (s : ByteArray) (w : World) (hs : s.size ≤ 1099511627776) (hBs : N Bs) (hN : ∀ k, N k → k < w.heap.size) (cs : w.cell? ⟨Bs, 0, none⟩ = some (.string s))
    (hHi : ¬ H 3) (hHs : ¬ H 9) (hHf : ¬ H 106) (hHg : ¬ H 90) (hHp : ¬ H 69) :
    SeqX H N 54 #[.pointer (some ⟨Bs, 0, none⟩)] encS (SLs s) w := fun l J Jx W hW hJ hJx hY h0 => by
  have hBlt := hN Bs hBs
  have hll := Ls_len (bl s)
  rw [bl_len] at hll
  have cs' := (hW.cell (p := ⟨Bs, 0, none⟩) (by show Bs < _; omega)).trans cs
  have hsW := hW.size
  have hA : Below W.heap.size W ((W.alloc (.cells #[.func (.yield l) #[] #[]] 90)).alloc (.cells #[.int .i64 0] 3)) := ((Below.refl _ _).alloc (Nat.le_refl _) _).alloc (by simp) _
  have cs2 := (hA.cell (p := ⟨Bs, 0, none⟩) (by show Bs < _; omega)).trans cs'
  have HY := hide hY
  clear hY
  refine callsIn_wide.2 ((callsIn_wide (n := 3)).1 ?_)
  refine callsIn_of_wp_marks Tryd.func54 rfl trivial ?_ rfl
  simp only [Tryd.ntmps54, List.size_toArray, List.length_cons, List.length_nil, Nat.reduceAdd, Nat.reduceSub, Array.replicate_succ, Array.replicate_zero, List.push_toArray, List.append_toArray, List.nil_append, List.cons_append]
  gi_wp2_with (refine ⟨trivial, ?_⟩; gi_at_call 55; refine (lall_in s _).mono ?_; rintro e w' ⟨rfl, rfl⟩)
  have bY := ((Boxed.new W 90 (.func (.yield l) #[] #[])).alloc (.cells #[.int .i64 0] 3)).alloc (.cells #[.string s] 9)
  have bF := (Boxed.new (W.alloc (.cells #[.func (.yield l) #[] #[]] 90)) 3 (.int .i64 0)).alloc (.cells #[.string s] 9)
  have bS := Boxed.new ((W.alloc (.cells #[.func (.yield l) #[] #[]] 90)).alloc (.cells #[.int .i64 0] 3)) 9 (.string s)
  simp only [World.size_alloc] at bF bS
  have hB0 : Below W.heap.size W (((W.alloc (.cells #[.func (.yield l) #[] #[]] 90)).alloc (.cells #[.int .i64 0] 3)).alloc (.cells #[.string s] 9)) := (((Below.refl _ W).alloc (Nat.le_refl _) _).alloc (by simp) _).alloc (by simp; omega) _
  have hsz : (((W.alloc (.cells #[.func (.yield l) #[] #[]] 90)).alloc (.cells #[.int .i64 0] 3)).alloc (.cells #[.string s] 9)).heap.size = W.heap.size + 3 := by simp
  have hJ0 : J [] (((W.alloc (.cells #[.func (.yield l) #[] #[]] 90)).alloc (.cells #[.int .i64 0] 3)).alloc (.cells #[.string s] 9)) := hJ.alloc _ (hJ.alloc _ (hJ.alloc _ h0))
  obtain ⟨W0, hW0⟩ : ∃ W0, (((W.alloc (.cells #[.func (.yield l) #[] #[]] 90)).alloc (.cells #[.int .i64 0] 3)).alloc (.cells #[.string s] 9)) = W0 := ⟨_, rfl⟩
  rw [hW0] at bY bF bS hB0 hsz hJ0 ⊢
  clear hW0 cs2 hA
  have cs3 := (hB0.cell (p := ⟨Bs, 0, none⟩) (by show Bs < _; omega)).trans cs'
  have hNN : ∀ k, (N k ∨ k = W.heap.size + 1 + 1) → k < W0.heap.size := fun k h => by
    rcases h with h | h
    · have := hN k h; omega
    · omega
  apply rangeP (gf := 66) (lb := #[.pointer (some ⟨W.heap.size + 1 + 1, 0, none⟩)]) (encs := encL) rfl (enters_of Tryd.func66 (by kernel_rfl) rfl)
    (lall_x H (fun k => N k ∨ k = W.heap.size + 1 + 1) (W.heap.size + 1 + 1) s W0 (by omega) (.inr rfl) hNN bS.cell hHi hHf) (Below.refl _ _) hNN (fun _ => rfl)
    (fun pre W' => ((J (told s pre) W' ∧ Boxed W' W.heap.size 90 (.func (.yield l) #[] #[])) ∧ (Boxed W' (W.heap.size + 1) 3 (.int .i64 ((pre.length : Nat) : Int)) ∧ W'.cell? ⟨Bs, 0, none⟩ = some (.string s))) ∧ (Boxed W' (W.heap.size + 1 + 1) 9 (.string s) ∧ W0.heap.size ≤ W'.heap.size))
    (fun c pre W' => c = .ret ∧ ∃ p, p <+: SLs s ∧ Jx p W')
    (Stab.and (Stab.and (Stab.and ((hJ.up (by omega)).comp _) (Stab.box _ _ (by omega))) (Stab.and (Stab.boxed _ _ (by omega)) (Stab.cell _ (by omega)))) (Stab.and (Stab.box _ _ (by omega)) (fun s A B h hs => Nat.le_trans h hs.1.2.2.2)))
    (fun c => Stab.and (Stab.pure _) (fun s A B hs hg => by obtain ⟨p, hp, hx⟩ := hs; exact ⟨p, hp, hJx.up (show W.heap.size ≤ W0.heap.size by omega) p A B hx hg⟩))
    ⟨⟨⟨hJ0, bY⟩, bF, cs3⟩, bS, Nat.le_refl _⟩ (fun x => #[.int .i64 (x.1 : Int), .int .i64 (x.2.1 : Int)]) 69
  case hsize => exact fun s W h => h.2.2
  case hassign =>
    intro l' x W' K hK
    simp only [encL]
    gi_wp2
    exact hK _ ((Below.refl _ _).alloc (Nat.le_refl _) _) (heap_alloc_new _ _)
  case hbody =>
    rintro l' pre x Wb W' ⟨⟨⟨hJ', hbY⟩, hbF, hcs⟩, hbS, hsz'⟩ hWb hpc hpx
    obtain ⟨hpl, hget⟩ := take_of_pre hpx
    have hm := Ls_mem (List.mem_of_getElem? hget)
    rw [bl_len] at hm
    have htp := told_pre (s := s) hpx
    obtain ⟨p, q, e⟩ := x
    simp only at hm hpc
    have hP : Box2 W' Wb.heap.size 69 (.int .i64 (p : Int)) (.int .i64 (q : Int)) := hpc
    have hpq : (p : Int) ≤ (q : Int) := by omega
    have hqs : (q : Int) ≤ (s.size : Int) := by omega
    have hplI : (pre.length : Int) ≤ 1099511627777 := by omega
    obtain ⟨t, ht⟩ : ∃ t, s.extract p q = t := ⟨_, rfl⟩
    have hlt' : lnT s (p, q, e) = t := ht
    have htz : t.size ≤ 1099511627776 := by rw [← ht, ByteArray.size_extract]; omega
    have KC := hide (fun w' => clone_any t w' (by omega))
    have ks := fun w' => says_any t w' (by omega)
    have hset : ∀ v, (Boxed (W'.setCell ⟨W.heap.size + 1, 0, none⟩ v) W.heap.size 90 (.func (.yield l) #[] #[]) ∧ Boxed (W'.setCell ⟨W.heap.size + 1, 0, none⟩ v) (W.heap.size + 1) 3 v) ∧ (W'.setCell ⟨W.heap.size + 1, 0, none⟩ v).cell? ⟨Bs, 0, none⟩ = some (.string s) ∧ Box2 (W'.setCell ⟨W.heap.size + 1, 0, none⟩ v) Wb.heap.size 69 (.int .i64 (p : Int)) (.int .i64 (q : Int)) := fun v => ⟨⟨hbY.other (by omega) v, hbF.set v⟩, (World.cell?_of_block (Below.heap_setCell W' ⟨W.heap.size + 1, 0, none⟩ v Bs (show Bs ≠ W.heap.size + 1 by omega))).trans hcs, hP.other (by omega) v⟩
    obtain ⟨⟨hbY1, hbF1⟩, hcs1, hP1⟩ := hset (.int .i64 ((pre.length : Int) + 1))
    have hJ1 : J (told s pre) (W'.setCell ⟨W.heap.size + 1, 0, none⟩ (.int .i64 ((pre.length : Int) + 1))) := hJ _ _ _ hJ' (Sub.set _ hbF (by omega) hHi)
    have hK1 : Kp H (fun k => N k ∨ k = W.heap.size + 1 + 1) W0.heap.size W' (W'.setCell ⟨W.heap.size + 1, 0, none⟩ (.int .i64 ((pre.length : Int) + 1))) := Kp.set _ (fun h => by rcases h with h | h; have := hN _ h; omega; omega) (by omega)
    have hs1 : W0.heap.size ≤ (W'.setCell ⟨W.heap.size + 1, 0, none⟩ (.int .i64 ((pre.length : Int) + 1))).heap.size := by simp [World.setCell]; exact hsz'
    have hbS1 : Boxed (W'.setCell ⟨W.heap.size + 1, 0, none⟩ (.int .i64 ((pre.length : Int) + 1))) (W.heap.size + 1 + 1) 9 (.string s) := hbS.other (by omega) _
    have HBS := hide hbS1
    have hcF := hbF.cell
    have hfF := hbF.frozen
    have hp0 := celOf hP1 0 _ rfl
    have hp1 := celOf hP1 1 _ rfl
    have HBY := hide hbY1
    have HBF := hide hbF1
    have HJ1 := hide hJ1
    have HK1 := hide hK1
    have HS1 := hide hs1
    have HTP := hide htp
    have HLT := hide hlt'
    have HCS1 := hide hcs1
    clear hJ' hbY hbF hcs hsz' hbS hbS1 hset hP hP1 hpc hpx hget htp hlt' hbY1 hbF1 hJ1 hK1 hs1 hm hpl
    gi_wp2_with (fail)
    clear hcF hfF hp0 hp1 hcs1
    generalize (W'.setCell ⟨W.heap.size + 1, 0, none⟩ (.int .i64 ((pre.length : Int) + 1))) = W1 at *
    have hcast : ((pre.length + 1 : Nat) : Int) = (pre.length : Int) + 1 := by omega
    cases hsv : saysV t with
    | false =>
      rw [hsv] at ks
      have KS := hide ks
      have HSV := hide hsv
      clear ks hsv
      gi_region_with (first | (refine ⟨trivial, ?_⟩; (gi_at_call 56; refine (inR (KS.out _)).mono ?_; rintro e2 w2 ⟨rfl, hB2⟩; have hX2 := bseq (Below.refl _ W1).drew hB2; have HX2 := hide hX2; have y2 := (below_boxed hX2 HBY.out).cell; have n2 := (below_boxed hX2 HBF.out).cell; clear hX2 hB2)) | (refine ⟨trivial, ?_⟩) | (refine ⟨fun _ h => (by cases h), ?_⟩))
      all_goals
        gi_wp2
        have htn := told_no (s := s) (pre := pre) (x := (p, q, e)) (by rw [HLT.out]; exact HSV.out)
        refine ⟨HK1.out.trans (Kp.of_below HX2.out), ⟨⟨by rw [htn]; exact hJ _ _ _ HJ1.out (Sub.of_below HX2.out), below_boxed HX2.out HBY.out⟩, ?_, (HX2.out.cell (p := ⟨Bs, 0, none⟩) (World.block_lt_of_cell? _ _ HCS1.out)).trans HCS1.out⟩, below_boxed HX2.out HBS.out, Nat.le_trans HS1.out HX2.out.size⟩
        rw [List.length_append, List.length_singleton, hcast]
        exact below_boxed HX2.out HBF.out
    | true =>
      rw [hsv] at ks
      have KS := hide ks
      have hty := told_yes (s := s) (pre := pre) (x := (p, q, e)) (by rw [HLT.out]; exact hsv)
      rw [HLT.out] at hty
      have HTY := hide hty
      clear ks hsv hty
      gi_region_with (first | (refine ⟨trivial, ?_⟩; first | (gi_at_call 56; refine (inR (KS.out _)).mono ?_; rintro e2 w2 ⟨rfl, hB2⟩; have hX2 := bseq (Below.refl _ W1).drew hB2; have HX2 := hide hX2; have y2 := (below_boxed hX2 HBY.out).cell; have n2 := (below_boxed hX2 HBF.out).cell; clear hX2 hB2) | (gi_at_call 57; refine (inR (KC.out _)).mono ?_; rintro e3 w3 ⟨rfl, hB3⟩; have hX3 := bseq HX2.out hB3; have HX3 := hide hX3; have y3 := (below_boxed hX3 HBY.out).cell; have n3 := (below_boxed hX3 HBF.out).cell; obtain ⟨fn, tmps, assign, body, hy, hR⟩ := yield_any 0 l' (HY.out (told s pre) (pre.length + 1, t) w3 (hJ _ _ _ HJ1.out (Sub.of_below hX3)) (by rw [← HTY.out]; exact HTP.out)); simp only [encS] at hy; rw [hcast] at hy; have HR := hide hR; clear hR hX3 hB3)) | (refine (HR.out).mono ?_; intro e4 w4 h4; obtain ⟨b, rfl, hb⟩ := two_ways h4; have HBB := hide hb; clear h4 hb))
      all_goals
        rcases HBB.out with ⟨rfl, hJ3, hK3⟩ | ⟨rfl, hJ3, hK3⟩
        · have HJ3 := hide hJ3
          have HK3 := hide hK3
          clear hJ3 hK3 HBB HR hy y3 n3 y2 n2
          gi_wp2
          have kW : Kp H (fun k => N k ∨ k = W.heap.size + 1 + 1) W0.heap.size w3 w4 := (HK3.out.wider (fun k o hk hc => by
            rcases hc with hc | hc
            · exact .inl hc
            · refine .inr ⟨by omega, ?_⟩
              have hb := below_boxed HX3.out HBS.out
              rw [hc, show w3.heap[W.heap.size + 1 + 1]? = _ from hb] at hk
              cases hk
              rintro ⟨c, t', fr, e1, e2⟩
              cases e1
              exact hHs e2)).up (by omega)
          refine ⟨(HK1.out.trans (Kp.of_below HX3.out)).trans kW, ⟨⟨by rw [HTY.out]; exact HJ3.out, HK3.out.boxed (Nat.le_refl _) hHg (below_boxed HX3.out HBY.out)⟩, ?_, HK3.out.cell hBs ((HX3.out.cell (p := ⟨Bs, 0, none⟩) (World.block_lt_of_cell? _ _ HCS1.out)).trans HCS1.out)⟩, HK3.out.boxed (by omega) hHs (below_boxed HX3.out HBS.out), Nat.le_trans (Nat.le_trans HS1.out HX3.out.size) HK3.out.1.2.2.2⟩
          rw [List.length_append, List.length_singleton, hcast]
          exact HK3.out.boxed (by omega) hHi (below_boxed HX3.out HBF.out)
        · have HJ3 := hide hJ3
          have HK3 := hide hK3
          clear hJ3 hK3 HBB HR hy y3 n3 y2 n2
          gi_wp2
          have kW : Kp H (fun k => N k ∨ k = W.heap.size + 1 + 1) W0.heap.size w3 w4 := (HK3.out.wider (fun k o hk hc => by
            rcases hc with hc | hc
            · exact .inl hc
            · refine .inr ⟨by omega, ?_⟩
              have hb := below_boxed HX3.out HBS.out
              rw [hc, show w3.heap[W.heap.size + 1 + 1]? = _ from hb] at hk
              cases hk
              rintro ⟨c, t', fr, e1, e2⟩
              cases e1
              exact hHs e2)).up (by omega)
          exact ⟨(HK1.out.trans (Kp.of_below HX3.out)).trans kW, rfl, _, by rw [← HTY.out]; exact HTP.out, HJ3.out⟩
  case hdone =>
    rintro D W2 hD ⟨⟨⟨hJ2, hbY⟩, hbF, hcs⟩, hbS, hs2⟩ hK
    have hJ4 : J (SLs s) (W2.putObj D (.deferred none)) := hJ.put _ hJ2 (by omega) hK rfl
    have HJ4 := hide hJ4
    clear hJ2 hJ4 hbY hbF hcs hbS
    gi_wp2
    refine ⟨by simp, .inl ⟨_, _, rfl, run_takeDeferred hK, ?_⟩⟩
    exact ⟨_, results_none rfl _ _ _, ⟨_, rfl⟩, .inl HJ4.out⟩
  case hstop =>
    rintro D c pre W2 hD _ ⟨rfl, p, hp, hJ2⟩ hK
    have hJ3 : Jx p (W2.putObj D (.deferred none)) := hJx.put _ hJ2 (by omega) hK rfl
    have HJ3 := hide hJ3
    clear hJ2 hJ3 HY
    gi_wp2
    refine ⟨by simp, .inl ⟨_, _, rfl, run_takeDeferred hK, ?_⟩⟩
    exact ⟨_, results_none rfl _ _ _, ⟨_, rfl⟩, .inr ⟨p, hp, HJ3.out⟩⟩
theorem slines_in (s : ByteArray) (w : World) :
    CallsIn Fence.wide 2 Tryd.prog 37 #[.string s] w fun e w' => e = .returned (.func (.func 54) #[] #[.pointer (some ⟨w.heap.size, 0, none⟩)]) ∧ w' = w.alloc (.cells #[.string s] 9) := by
  refine callsIn_of_wp Tryd.func37 rfl trivial ?_ rfl
  simp only [Tryd.ntmps37, List.size_toArray, List.length_cons, List.length_nil, Nat.reduceAdd, Nat.reduceSub, Array.replicate_succ, Array.replicate_zero, List.push_toArray, List.append_toArray, List.nil_append, List.cons_append]
  gi_wp2
  go_ret
  exact ⟨rfl, rfl⟩
end Go.Proofs.YtmhbhpjpnmggkaaDoor
