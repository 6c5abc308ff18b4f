/- What the iterator of lines.All tells: the lines of a text, in their order, till a round says no more. -/
import Derived.Test.YtmhbhpjpnmggkaaDoorLAll
import Derived.Test.YtmhbhpjpnmggkaaDoorLEnd
import Derived.WalkMore
namespace Go.Proofs.YtmhbhpjpnmggkaaDoor
open Go.RowKit Go.Shelf
set_option linter.unusedVariables false
attribute [local go_sem] Oper.semAt_some

theorem inv_pl (l : List UInt8) : ∀ k, k ≤ (Cs 0 l).length → Inv l (pl l k) k ∧ (k < (Cs 0 l).length → pl l k < l.length) := by
  intro k
  induction k with
  | zero =>
    intro _
    have h : pl l 0 = 0 := by
      by_cases hl : l = []
      · subst hl; rfl
      · unfold pl; rw [Cs_cons 0 l hl]; rfl
    rw [h]
    refine ⟨Inv.start l, fun h0 => ?_⟩
    have := Cs_len_le l
    omega
  | succ k ih =>
    intro hk
    obtain ⟨h1, h2⟩ := ih (by omega)
    have h3 := h2 (by omega)
    have h4 := h1.step h3
    by_cases hlt : pl l k + cw (l.drop (pl l k)) < l.length
    · rw [pl_here h4 hlt]; exact ⟨h4, fun _ => hlt⟩
    · have h5 := h4.fin (by omega)
      have h6 := cw_len _ (drop_ne h3)
      rw [List.length_drop] at h6
      rw [h5, pl_fin]
      refine ⟨?_, fun h => by omega⟩
      have : pl l k + cw (l.drop (pl l k)) = l.length := by omega
      rw [this, h5] at h4
      exact h4
/-- What a character that is told is, and what the lines so far are behind it. -/
theorem char_told {l : List UInt8} {pre : List (Nat × Nat × Nat)} {x : Nat × Nat × Nat} (h : pre ++ [x] <+: Cs 0 l) : ∃ p, p = pl l pre.length ∧ x = (p, rune (l.drop p), cw (l.drop p)) ∧ p < l.length ∧ St l p ∧
    sofar l (pl l (pre ++ [x]).length) = (if endW l p = 0 then sofar l p else stp l (sofar l p) p) := by
  have hl := h.length_le
  simp only [List.length_append, List.length_singleton] at hl
  have hx : (Cs 0 l)[pre.length]? = some x := by
    have h2 := List.prefix_iff_eq_take.1 h
    have h3 : (pre ++ [x])[pre.length]? = some x := by simp
    rw [h2, List.getElem?_take] at h3
    simp only [List.length_append, List.length_singleton] at h3
    rwa [if_pos (by omega)] at h3
  obtain ⟨h1, h2⟩ := inv_pl l pre.length (by omega)
  have h3 := h2 (by omega)
  have h4 := h1.here h3
  rw [h4] at hx
  have hst : St l (pl l pre.length) := ⟨_, List.mem_of_getElem? h4, rfl⟩
  refine ⟨_, rfl, (Option.some.inj hx).symm, h3, hst, ?_⟩
  rw [List.length_append, List.length_singleton]
  have h5 := h1.step h3
  have h6 : pl l (pre.length + 1) = pl l pre.length + cw (l.drop (pl l pre.length)) := by
    by_cases hlt : pl l pre.length + cw (l.drop (pl l pre.length)) < l.length
    · exact pl_here h5 hlt
    · have h7 := h5.fin (by omega)
      have h8 := cw_len _ (drop_ne h3)
      rw [List.length_drop] at h8
      rw [h7, pl_fin]; omega
  rw [h6, sofar_char hst]

theorem below_boxed {W W' : World} {b : Nat} {t : TypeId} {v : Value} (h : Below W.heap.size W W') (hb : Boxed W b t v) : Boxed W' b t v :=
  (h.block b (Array.getElem?_eq_some_iff.1 (show W.heap[b]? = _ from hb)).1).trans hb
/-- What is told of a line: its piece, and how wide its end is. -/
def encL (x : Nat × Nat × Nat) : Array Value := #[.agg #[.int .i64 (x.1 : Int), .int .i64 (x.2.1 : Int)], .int .i64 (x.2.2 : Int)]

set_option maxRecDepth 100000 in
set_option maxHeartbeats 2000000 in
theorem lall_x (H : TypeId → Prop) (N : Nat → Prop) (Bs : Nat) (s : ByteArray) (w : World) (hs : s.size ≤ 9223372036854775807) (hBs : N Bs) (hN : ∀ k, N k → k < w.heap.size) (cs : w.cell? ⟨Bs, 0, none⟩ = some (.string s))
    (hHi : ¬ H 3) (hHf : ¬ H 106) :
    SeqX H N 66 #[.pointer (some ⟨Bs, 0, none⟩)] encL (Ls (bl s)) w := fun l J Jx W hW hJ hJx hY h0 => by
  have hBlt := hN Bs hBs
  have cs' := (hW.cell (p := ⟨Bs, 0, none⟩) (by show Bs < _; omega)).trans cs
  have hsW := hW.size
  have hA : Below W.heap.size W ((W.alloc (.cells #[.func (.yield l) #[] #[]] 106)).alloc (.cells #[.int .i64 0] 3)) := ((Below.refl _ _).alloc (Nat.le_refl _) _).alloc (by simp) _
  have cs2 := (hA.cell (p := ⟨Bs, 0, none⟩) (by show Bs < _; omega)).trans cs'
  have HY := hide hY
  clear hY
  refine callsIn_wide.2 ((callsIn_wide (n := 3)).1 ?_)
  refine callsIn_of_wp_marks Tryd.func66 rfl trivial ?_ rfl
  simp only [Tryd.ntmps66, List.size_toArray, List.length_cons, List.length_nil, Nat.reduceAdd, Nat.reduceSub, Array.replicate_succ, Array.replicate_zero, List.push_toArray, List.append_toArray, List.nil_append, List.cons_append]
  gi_wp2
  refine wpIn_wide.2 (wp_scope_straight ((wpIn_wide (n := 3)).1 ?_))
  gi_wp2
  refine wpIn_label ?_
  gi_wp2_with (refine ⟨trivial, ?_⟩; gi_at_call 67; refine (uall_in s _).mono ?_; rintro e w' ⟨rfl, rfl⟩)
  have bY := ((Boxed.new W 106 (.func (.yield l) #[] #[])).alloc (.cells #[.int .i64 0] 3)).alloc (.cells #[.string s] 9)
  have bF := (Boxed.new (W.alloc (.cells #[.func (.yield l) #[] #[]] 106)) 3 (.int .i64 0)).alloc (.cells #[.string s] 9)
  have bS := Boxed.new ((W.alloc (.cells #[.func (.yield l) #[] #[]] 106)).alloc (.cells #[.int .i64 0] 3)) 9 (.string s)
  simp only [World.size_alloc] at bF bS
  have hB0 : Below W.heap.size W (((W.alloc (.cells #[.func (.yield l) #[] #[]] 106)).alloc (.cells #[.int .i64 0] 3)).alloc (.cells #[.string s] 9)) := (((Below.refl _ W).alloc (Nat.le_refl _) _).alloc (by simp) _).alloc (by simp; omega) _
  have hsz : (((W.alloc (.cells #[.func (.yield l) #[] #[]] 106)).alloc (.cells #[.int .i64 0] 3)).alloc (.cells #[.string s] 9)).heap.size = W.heap.size + 3 := by simp
  have hJ0 : J [] (((W.alloc (.cells #[.func (.yield l) #[] #[]] 106)).alloc (.cells #[.int .i64 0] 3)).alloc (.cells #[.string s] 9)) := hJ.alloc _ (hJ.alloc _ (hJ.alloc _ h0))
  obtain ⟨W0, hW0⟩ : ∃ W0, (((W.alloc (.cells #[.func (.yield l) #[] #[]] 106)).alloc (.cells #[.int .i64 0] 3)).alloc (.cells #[.string s] 9)) = W0 := ⟨_, rfl⟩
  rw [hW0] at bY bF bS hB0 hsz hJ0 ⊢
  clear hW0 cs2 hA
  have cs3 := (hB0.cell (p := ⟨Bs, 0, none⟩) (by show Bs < _; omega)).trans cs'
  have hpl0 : pl (bl s) 0 = 0 := by
    by_cases hl : bl s = []
    · rw [hl]; rfl
    · unfold pl; rw [Cs_cons 0 _ hl]; rfl
  apply rangeX (gf := 81) (lb := #[.pointer (some ⟨W.heap.size + 1 + 1, 0, none⟩)]) (encs := encC) rfl (enters_of Tryd.func81 (by kernel_rfl) rfl)
    (uall_x H N (W.heap.size + 1 + 1) s W0 hs (by omega) bS.cell) (Below.refl _ _) (fun k h => by have := hN k h; omega) (fun _ => rfl)
    (fun pre W' => (J (sofar (bl s) (pl (bl s) pre.length)).2 W' ∧ Boxed W' W.heap.size 106 (.func (.yield l) #[] #[])) ∧ (Boxed W' (W.heap.size + 1) 3 (.int .i64 ((sofar (bl s) (pl (bl s) pre.length)).1 : Nat)) ∧ W'.cell? ⟨Bs, 0, none⟩ = some (.string s)))
    (fun c pre W' => c = .ret ∧ ∃ p, p <+: Ls (bl s) ∧ Jx p W')
    (Stab.and (Stab.and ((hJ.up (by omega)).comp _) (Stab.box _ _ (by omega))) (Stab.and (Stab.boxed _ _ (by omega)) (Stab.cell _ (by omega))))
    (fun c => Stab.and (Stab.pure _) (fun s A B hs hg => by obtain ⟨p, hp, hx⟩ := hs; exact ⟨p, hp, hJx.up (show W.heap.size ≤ W0.heap.size by omega) p A B hx hg⟩))
    ⟨⟨by rw [show ([] : List (Nat × Nat × Nat)).length = 0 from rfl, hpl0, sofar_zero]; exact hJ0, bY⟩, by rw [show ([] : List (Nat × Nat × Nat)).length = 0 from rfl, hpl0, sofar_zero]; exact bF, cs3⟩
  case hassign =>
    intro l' x W' K hK
    simp only [encC]
    gi_wp2
    exact hK
  case hbody =>
    rintro l' pre x W' ⟨⟨hJ', hbY⟩, hbF, hcs⟩ hpx
    obtain ⟨p, hp, rfl, hplt, hst, hnext⟩ := char_told hpx
    rw [← hp] at hJ' hbF
    have hpn : p < s.size := by rw [bl_len] at hplt; exact hplt
    have he := endW_rune (bl s) p
    have hsl : (sofar (bl s) (p + 1)).2 <+: Ls (bl s) := sofar_Ls (by omega)
    have hfl := (sofar_inv (bl s) p).2.1
    have hee := @endW_end (bl s) p
    rw [bl_len] at hfl hee
    generalize hen : endW (bl s) p = en at *
    generalize hr : rune ((bl s).drop p) = r at *
    generalize cw ((bl s).drop p) = c at *
    obtain ⟨fr, hfr⟩ : ∃ fr, (sofar (bl s) p).1 = fr := ⟨_, rfl⟩
    obtain ⟨so, hso⟩ : ∃ so, (sofar (bl s) p).2 = so := ⟨_, rfl⟩
    rw [hfr] at hbF hfl
    rw [hso] at hJ'
    have HN := hide hnext
    have HPX := hide hpx
    have HE := hide he
    have HSL := hide hsl
    have HJ' := hide hJ'
    have HBY := hide hbY
    have HBF := hide hbF
    have HCS := hide hcs
    have HEN := hide hen
    have HFR := hide hfr
    have HSO := hide hso
    have HP := hide hp
    have HST := hide hst
    have hcF := hbF.cell
    have hcY := hbY.cell
    have hEnd : ∀ w, CallsIn (Fence.wide.inRound l') 0 Tryd.prog 69 #[.string s, .int .i64 (p : Int)] w fun e w' => e = .returned (.tuple #[.int .i64 (en : Int), .bool (decide (en ≠ 0))]) ∧ Below w.heap.size w w' := fun w => by
      have h := end_in s p w hpn hs
      rw [HEN.out] at h
      exact inR h
    have HEND := hide hEnd
    clear hnext hpx he hsl hJ' hbY hbF hen hfr hso hp hst hr hEnd
    by_cases g1 : endR4 r = false
    · gi_wp2_with (refine ⟨trivial, ?_⟩; gi_at_call 68; refine (inR (ends_any r _)).mono ?_; rintro e W' ⟨rfl, rfl⟩)
      have h := HE.out
      rw [if_pos g1] at h
      refine ⟨Kp.refl _ _ _ _, ⟨?_, HBY.out⟩, ?_, HCS.out⟩
      · rw [HN.out, if_pos h, HSO.out]; exact HJ'.out
      · rw [HN.out, if_pos h, HFR.out]; exact HBF.out
    · have g2 : endR4 r = true := by simpa using g1
      clear g1
      by_cases g3 : en = 0
      · have hz : decide (en ≠ 0) = false := by simp [g3]
        rw [hz] at HEND
        have G3 := hide g3
        clear g3
        gi_wp2_with (refine ⟨trivial, ?_⟩; first | (gi_at_call 68; refine (inR (ends_any r _)).mono ?_; rintro e W' ⟨rfl, rfl⟩) | (gi_at_call 69; refine (HEND.out _).mono ?_; rintro e w1 ⟨rfl, hB1⟩))
        have hk : Kp H N W0.heap.size W' w1 := Kp.of_below hB1
        refine ⟨hk, ⟨?_, below_boxed hB1 HBY.out⟩, ?_, (hB1.cell (p := ⟨Bs, 0, none⟩) (World.block_lt_of_cell? _ _ HCS.out)).trans HCS.out⟩
        · rw [HN.out, if_pos G3.out, HSO.out]; exact hJ _ _ _ HJ'.out (Sub.of_below hB1)
        · rw [HN.out, if_pos G3.out, HFR.out]; exact below_boxed hB1 HBF.out
      · have hz : decide (en ≠ 0) = true := by simp [g3]
        rw [hz] at HEND
        have hee' := hee g3
        have en3 : en ≤ 3 := by rw [← HEN.out]; exact endW_le3 _ _
        have hy2 : (sofar (bl s) (p + 1)).2 = so ++ [(fr, p, en)] := by rw [sofar_yes (by rw [HEN.out]; exact g3)]; simp only [stp]; rw [HSO.out, HFR.out, HEN.out]
        have G3 := hide g3
        have HY2 := hide hy2
        clear g3 hee hy2
        gi_wp2_with (refine ⟨trivial, ?_⟩; first | (gi_at_call 68; refine (inR (ends_any r _)).mono ?_; rintro e W' ⟨rfl, rfl⟩) | (gi_at_call 69; refine (HEND.out _).mono ?_; rintro e w1 ⟨rfl, hB1⟩; have hcF1 := (hB1.cell (p := ⟨W.heap.size + 1, 0, none⟩) (World.block_lt_of_cell? _ _ hcF)).trans hcF; have hcY1 := (hB1.cell (p := ⟨W.heap.size, 0, none⟩) (World.block_lt_of_cell? _ _ hcY)).trans hcY; obtain ⟨fn, tmps, assign, body, hy, hR⟩ := yield_any 0 l' (HY.out so (fr, p, en) w1 (hJ _ _ _ HJ'.out (Sub.of_below hB1)) (by rw [← HY2.out]; exact HSL.out)); simp only [encL] at hy; have HR := hide hR; have HB1 := hide hB1; clear hR hB1))
        refine HR.out.mono ?_
        rintro e W3 (⟨rfl, hJ3, hK3⟩ | ⟨rfl, hJx3, hK3⟩)
        · have hbF3 : Boxed W3 (W.heap.size + 1) 3 (.int .i64 (fr : Int)) := hK3.boxed (by omega) hHi (below_boxed HB1.out HBF.out)
          have hbY3 : Boxed W3 W.heap.size 106 (.func (.yield l) #[] #[]) := hK3.boxed (Nat.le_refl _) hHf (below_boxed HB1.out HBY.out)
          have hcs3 : W3.cell? ⟨Bs, 0, none⟩ = some (.string s) := hK3.cell hBs ((HB1.out.cell (p := ⟨Bs, 0, none⟩) (World.block_lt_of_cell? _ _ HCS.out)).trans HCS.out)
          have hcF3 := hbF3.cell
          have hfF3 := hbF3.frozen
          have HJ3 := hide hJ3
          have HK3 := hide hK3
          have HBF3 := hide hbF3
          have HBY3 := hide hbY3
          have HCS3 := hide hcs3
          clear hJ3 hK3 hbF3 hbY3 hcs3 hcF1 hcY1 hcF hcY hcs HR hy
          gi_wp2
          have hg3 : ¬ en = 0 := G3.out
          refine ⟨((Kp.of_below HB1.out).trans (HK3.out.up (by omega))).trans (Kp.set _ (fun h => by have := hN _ h; omega) (by omega)), ⟨?_, HBY3.out.other (by omega) _⟩, ?_, ?_⟩
          · rw [HN.out, if_neg hg3]
            simp only [stp]
            rw [HSO.out, HFR.out, HEN.out]
            exact hJ _ _ _ HJ3.out (Sub.set _ HBF3.out (by omega) hHi)
          · rw [HN.out, if_neg hg3]
            simp only [stp]
            rw [HEN.out]
            have h := HBF3.out.set (.int .i64 ((p : Int) + (en : Int)))
            simpa using h
          · exact (Kp.set (H := H) (N := N) (B := W.heap.size + 2) _ (fun h => by have := hN _ h; omega) (by omega)).cell hBs HCS3.out
        · have HJ3 := hide hJx3
          have HK3 := hide hK3
          clear hJx3 hK3 hcF1 hcY1 hcF hcY hcs HR hy
          gi_wp2
          exact ⟨(Kp.of_below HB1.out).trans (HK3.out.up (by omega)), rfl, _, by rw [← HY2.out]; exact HSL.out, HJ3.out⟩
  case hdone =>
    rintro D W2 hD ⟨⟨hJ2, hbY⟩, hbF, hcs⟩ hK
    rw [pl_fin] at hJ2 hbF
    obtain ⟨fn, tmps, assign, body, hy, hR⟩ := yield_out 2 (HY.out _ ((sofar (bl s) (bl s).length).1, (bl s).length, 0) W2 hJ2 (List.prefix_refl _))
    simp only [encL] at hy
    have hcF := hbF.cell
    have hcY := hbY.cell
    rw [bl_len] at hy hR hcF
    rw [show ((0 : Nat) : Int) = 0 from rfl] at hy
    have HR := hide hR
    have HK := hide hK
    clear hR hJ2 hbY hbF hK
    gi_wp2
    refine HR.out.mono ?_
    have hLs : (sofar (bl s) s.size).2 ++ [((sofar (bl s) s.size).1, s.size, 0)] = Ls (bl s) := by unfold Ls; rw [bl_len]
    rw [hLs]
    rintro e W3 (⟨rfl, hJ3, hK3⟩ | ⟨rfl, hJx3, hK3⟩)
    · have hK' : W3.heap[D]? = some (.deferred (some [])) := hK3.2 _ _ HK.out (.inr ⟨by omega, not_held rfl⟩)
      have hJ4 : J (Ls (bl s)) (W3.putObj D (.deferred none)) := hJ.put _ hJ3 (by omega) hK' rfl
      have HJ4 := hide hJ4
      clear hJ3 hJ4 hK3 HR hy hcF hcY hcs
      gi_wp2
      refine ⟨by simp, .inl ⟨_, _, rfl, run_takeDeferred hK', ?_⟩⟩
      exact ⟨_, results_none rfl _ _ _, ⟨_, rfl⟩, .inl HJ4.out⟩
    · have hK' : W3.heap[D]? = some (.deferred (some [])) := hK3.2 _ _ HK.out (.inr ⟨by omega, not_held rfl⟩)
      have hJ4 : Jx (Ls (bl s)) (W3.putObj D (.deferred none)) := hJx.put _ hJx3 (by omega) hK' rfl
      have HJ4 := hide hJ4
      clear hJx3 hJ4 hK3 HR hy hcF hcY hcs
      gi_wp2
      refine ⟨by simp, .inl ⟨_, _, rfl, run_takeDeferred hK', ?_⟩⟩
      exact ⟨_, results_none rfl _ _ _, ⟨_, rfl⟩, .inr ⟨_, List.prefix_refl _, HJ4.out⟩⟩
  case hstop =>
    rintro D c pre W2 hD _ ⟨rfl, p, hp, hJ2⟩ hK
    have hJ3 : Jx p (W2.putObj D (.deferred none)) := hJx.put _ hJ2 (by omega) hK rfl
    have HJ3 := hide hJ3
    clear hJ2 hJ3 HY
    gi_wp2
    refine ⟨by simp, .inl ⟨_, _, rfl, run_takeDeferred hK, ?_⟩⟩
    exact ⟨_, results_none rfl _ _ _, ⟨_, rfl⟩, .inr ⟨p, hp, HJ3.out⟩⟩

theorem lall_in (s : ByteArray) (w : World) :
    CallsIn Fence.wide 2 Tryd.prog 55 #[.string s] w fun e w' => e = .returned (.func (.func 66) #[] #[.pointer (some ⟨w.heap.size, 0, none⟩)]) ∧ w' = w.alloc (.cells #[.string s] 9) := by
  refine callsIn_of_wp Tryd.func55 rfl trivial ?_ rfl
  simp only [Tryd.ntmps55, List.size_toArray, List.length_cons, List.length_nil, Nat.reduceAdd, Nat.reduceSub, Array.replicate_succ, Array.replicate_zero, List.push_toArray, List.append_toArray, List.nil_append, List.cons_append]
  gi_wp2
  go_ret
  exact ⟨rfl, rfl⟩
end Go.Proofs.YtmhbhpjpnmggkaaDoor
