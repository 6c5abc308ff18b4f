/- The road of UtfFresh: for every text of bounded size it returns true, and writes nothing that was there. -/
import Derived.Test.YtmidlkjdjohbdaaURefR
import Derived.OneCell
import Derived.Maps.AppendAt
namespace Go.Proofs.Ytmidlkjdjohbdaa
open Go.RowKit
set_option linter.unusedVariables false

/-- A cell put behind a row that is full: the row moves, and what lay there stays. -/
theorem wpList_append_full {P : Program} (w : World) {ops : Array Oper} {rest : List Oper} {o : Oper} {a : Act} {Q : Exit → Act → World → Prop}
    (hg : o.guard = none) (s x : Operand) (t : TypeId) (hop : o.op = Op.call { callee := Callee.builtin Builtin.append, args := #[s, x], argTypes := #[t, t] })
    (base : Nat) (e : TypeId) (i : TypeInfo) (z : Value) (bytes : Nat) (ht : P.underlying t = some (.slice e)) (hi : P.info? e = some i) (hz : i.zero = some z) (hs1 : i.size = 1) (hby : i.bytes = bytes) (hzs : z.cells.size = 1)
    (g n : Nat) (xs : List Value) (hs : a.eval s = .slice (some ⟨g, 0, none⟩) n n) (hown : w.ownsRow base e 1 (.slice (some ⟨g, 0, none⟩) n n) n xs) (ad : Addr) (u : Value) (hx : a.eval x = .slice (some ad) 1 1)
    (hu : ∀ j v, [u][j]? = some v → w.cell? (ad.add j) = some v) (h63 : n + 1 ≤ maxLen) (hbytes : (n + 1) * bytes ≤ 140737488355328)
    (hK : ∀ v' w', w'.ownsRow w.heap.size e 1 v' (n + 1) (xs ++ [u]) → v'.ownBlock = some w.heap.size → w.grownBy w' none → wpList P ops Q rest (a.put o.dst v') w') :
    wpList P ops Q (o :: rest) a w := by
  refine wpList_plain hg fun K hK' => ?_
  have holds : ∀ j v, xs[j]? = some v → w.cell? ((⟨g, 0, none⟩ : Addr).add j) = some v := hown.cells (g := g) rfl
  have hxl : xs.length = n := by have := hown.1; omega
  have hr := run_append_grow (P := P) w t o.type e i z ht hi hz ⟨g, 0, none⟩ n n xs (by rw [hs1]; omega) holds ad 1 1 [u] (by rw [hs1]; rfl) hu (by omega) (by unfold maxLen at h63; omega) (growslice_fits (by omega) (by rw [hby]; exact hbytes))
  have hge := grownCap_ge w (n + 1) n e
  have hcm : grownCap w (n + 1) n e ≤ maxLen := grownCap_le_maxLen w (n + 1) n e h63
  have h1 : (w.drew.alloc (.cells (xs.toArray ++ [u].toArray ++ Builtin.zeroCells z.cells (grownCap w (n + 1) n e - (n + 1))) e)).ownsRow w.heap.size e 1 (.slice (some ⟨w.heap.size, 0, none⟩) (n + 1) (grownCap w (n + 1) n e)) (n + 1) (xs ++ [u]) := by
    refine ⟨by simp [hxl], .inr ⟨w.heap.size, _, _, rfl, Nat.le_refl _, heap_alloc_new w.drew _, hge, hcm, ?_, ?_⟩⟩
    · simp only [Array.size_append, List.size_toArray, size_zeroCells, hzs, hxl, List.length_cons, List.length_nil]
      omega
    · have hl : (n + 1) * 1 = (xs ++ [u]).length := by simp [hxl]
      simp only [Array.toList_append, List.append_assoc]
      rw [← List.append_assoc, hl]
      exact List.take_left
  have h2 : w.grownBy (w.drew.alloc (.cells (xs.toArray ++ [u].toArray ++ Builtin.zeroCells z.cells (grownCap w (n + 1) n e - (n + 1))) e)) none := ⟨rfl, rfl, rfl, by simp, fun k hk _ => Below.heap_alloc w.drew _ k hk⟩
  unfold Oper.wp
  simp only [execOp, hop, resolve, invoke, builtin, Sem.run_bind, Sem.run_pure, Result.andThen_ok, List.map_toArray, List.map_cons, List.map_nil, hs, hx, hr]
  exact hK' _ _ (hK _ _ h1 rfl h2)


theorem set_step {α : Type} (D : List α) (i : Nat) (u : α) (h : i < D.length) : (List.replicate i u ++ D.drop i).set i u = List.replicate (i + 1) u ++ D.drop (i + 1) := by
  rw [List.set_append_right _ _ (by simp)]
  simp only [List.length_replicate, Nat.sub_self]
  rw [List.drop_eq_getElem_cons h, List.set_cons_zero, List.replicate_succ', List.append_assoc]
  rfl
theorem rep_at {α : Type} (i : Nat) (u : α) (D : List α) (k : Nat) (h : k < i) : (List.replicate i u ++ D)[k]? = some u := by
  rw [List.getElem?_append_left (by simpa using h)]
  simp [h]
theorem rep_at2 {α : Type} (i j : Nat) (u v : α) (k : Nat) (h : i ≤ k) (h2 : k < i + j) : (List.replicate i u ++ List.replicate j v)[k]? = some v := by
  rw [List.getElem?_append_right (by simpa using h), List.getElem?_replicate, if_pos (by rw [List.length_replicate]; omega)]
theorem owns_slice {W : World} {base : Nat} {e : TypeId} {v : Value} {k : Nat} {xs : List Value} (h : W.ownsRow base e 1 v k xs) (hk : 0 < k) : ∃ g cap, v = .slice (some ⟨g, 0, none⟩) k cap ∧ base ≤ g ∧ g < W.heap.size := by
  rcases h.2 with ⟨_, h0⟩ | ⟨g, cap, cur, hv, hg, hh, _⟩
  · omega
  · exact ⟨g, cap, hv, hg, (Array.getElem?_eq_some_iff.1 hh).1⟩

theorem ne_own {a b n c n' c' : Nat} (h : a ≠ b) : (Value.slice (some ⟨a, 0, none⟩) n c).ownBlock ≠ (Value.slice (some ⟨b, 0, none⟩) n' c').ownBlock := fun e => h (Option.some.inj e)

namespace utfFresh
abbrev Row (W : World) (base : Nat) (v : Value) (k : Nat) (xs : List Value) : Prop := W.ownsRow base 21 1 v k xs

/-- What is known of the rows in the midst of the second loop. -/
def Two (P0 m : Nat) (ga gb : Nat) (j : Nat) (W : World) (p q : Value) : Prop :=
  (j = 0 ∧ p = .slice (some ⟨ga, 0, none⟩) m m ∧ q = .slice (some ⟨gb, 0, none⟩) m m) ∨
  (1 ≤ j ∧ Row W P0 p (m + j) (List.replicate m (R32 1) ++ List.replicate j (R32 3)) ∧ Row W P0 q (m + j) (List.replicate m (R32 2) ++ List.replicate j (R32 4)) ∧ p.ownBlock ≠ q.ownBlock)

set_option maxRecDepth 100000 in
set_option maxHeartbeats 4000000 in
theorem walk (s : ByteArray) (w : World) (hs : s.size ≤ 1048576) :
    Calls Try.prog 8 #[.string s] w fun e w' => e = .returned (.bool true) ∧ Below w.heap.size w w' := by
  obtain ⟨i0, hi, hz0, hz1, hz2⟩ := info_parts Try.info32
  have hcl := Cs_len_le (bl s)
  rw [bl_len] at hcl
  have k7 := fun w => runes_any s w (by omega)
  have k8 := fun w => refRunes_own s w hs
  have hrl := runesZ_len (bl s)
  generalize (Cs 0 (bl s)).length = m at *
  generalize runesZ (bl s) = Z at *
  have k8' : ∀ w, Calls Try.prog 17 #[.string s] w fun e w' => ∃ a cap, e = .returned (.slice a m cap) ∧ w'.ownsRow w.heap.size 21 1 (.slice a m cap) m (Z.map R32) ∧ SlU w' a Z ∧ Below w.heap.size w w' := fun w => (k8 w).mono (by
    rintro e w' ⟨v, rfl, ho, hB⟩
    have ho2 := ho
    rw [← hrl] at ho2
    obtain ⟨a, cap, rfl, hsl⟩ := slu_of_owns ho2
    rw [hrl] at ho ⊢
    exact ⟨a, cap, rfl, ho, hsl, hB⟩)
  have ks := fun (w : World) (a b : Option Addr) (c d : Nat) (h1 : SlU w a Z) (h2 : SlU w b Z) => same_yes a b c d Z m hrl w h1 h2 (by omega)
  have sl : ∀ (W : World) (base g : Nat), W.ownsRow base 21 1 (.slice (some ⟨g, 0, none⟩) m m) m (Z.map R32) → SlU W (some ⟨g, 0, none⟩) Z := by
    intro W base g h
    rw [← hrl] at h
    obtain ⟨a, cap, he, hsl⟩ := slu_of_owns h
    cases he
    exact hsl
  have hdl : (Z.map R32).length = m := by rw [List.length_map]; exact hrl
  have hm : m ≤ 1048576 := by omega
  have K7 := hide k7
  have K8 := hide k8'
  have KS := hide ks
  have SL := hide sl
  have HDL := hide hdl
  have hrl' := hide hrl
  clear k7 k8 k8' ks sl hrl hdl hcl
  have M1 := hide trivial
  have M2 := hide trivial
  go_enter Try.func8, Try.ntmps8
  go_wp2_with (first | (go_at_call 16; clear M1; refine (K7.out _).mono ?_; rintro e w1 ⟨ga, rfl, hoa, hB1⟩) | (go_at_call 16; refine (K7.out _).mono ?_; rintro e w2 ⟨gb, rfl, hob, hB2⟩) | (go_at_call 17; refine (K8.out _).mono ?_; rintro e w3 ⟨aw, cw, rfl, how, hsw, hB3⟩) | (go_at_call 15; clear M2; refine (KS.out _ _ _ _ _ (((SL.out _ _ _ hoa).below hB2).below hB3) hsw).mono ?_; rintro e w4 ⟨rfl, hB4⟩) | (go_at_call 15; refine (KS.out _ _ _ _ _ (((SL.out _ _ _ hob).below hB3).below hB4) (hsw.below hB4)).mono ?_; rintro e w5 ⟨rfl, hB5⟩))
  have RA := hide (ownsRow_below (ownsRow_below (ownsRow_below (ownsRow_below hoa hB2) hB3) hB4) hB5)
  have RB := hide (ownsRow_below (ownsRow_below (ownsRow_below hob hB3) hB4) hB5)
  have RW := hide (ownsRow_below (ownsRow_below how hB4) hB5)
  have HB0 := hide (bseq (bseq (bseq (bseq hB1 hB2) hB3) hB4) hB5)
  obtain ⟨la1, la2⟩ := hoa.lt ga rfl
  obtain ⟨lb1, lb2⟩ := hob.lt gb rfl
  have hwb : ∀ k, (Value.slice aw m cw).ownBlock = some k → w2.heap.size ≤ k := fun k e => (how.lt k e).1
  have HWB := hide hwb
  have hs12 := hB2.size
  have hs23 := hB3.size
  have hs34 := hB4.size
  have hs45 := hB5.size
  clear hoa hob how hsw hB1 hB2 hB3 hB4 hB5 hwb
  have hgab : ga ≠ gb := by omega
  generalize hA : (Value.slice (some ⟨ga, 0, none⟩) m m) = va at RA
  generalize hBv : (Value.slice (some ⟨gb, 0, none⟩) m m) = vb at RB
  subst hA hBv
  go_loopw [6] (fun q wr => ∃ i : Nat, i ≤ m ∧ q = .int .i64 i ∧ Row wr w.heap.size (.slice (some ⟨ga, 0, none⟩) m m) m (List.replicate i (R32 1) ++ (Z.map R32).drop i) ∧ Row wr w1.heap.size (.slice (some ⟨gb, 0, none⟩) m m) m (List.replicate i (R32 2) ++ (Z.map R32).drop i) ∧
      Row wr w2.heap.size (.slice aw m cw) m (Z.map R32) ∧ Below w.heap.size w wr ∧ w2.heap.size ≤ wr.heap.size) (fun q _ => m - (intOf q).toNat)
  case atStart => exact ⟨0, by omega, rfl, by simpa using RA.out, by simpa using RB.out, RW.out, HB0.out, by omega⟩
  case round =>
    clear RA RB RW HB0
    obtain ⟨i, him, rfl, ra, rb, rw', hB, hsz⟩ := hrel
    have RAi := hide ra
    have RBi := hide rb
    have RWi := hide rw'
    have HB := hide hB
    by_cases hlt : i < m
    · have hlt' : (i : Int) < (m : Int) := by omega
      have hxa : (List.replicate i (R32 1) ++ (Z.map R32).drop i)[i]? = some ((Z.map R32)[i]'(by rw [HDL.out]; exact hlt)) := by
        rw [List.getElem?_append_right (by simp)]
        simp only [List.length_replicate, Nat.sub_self]
        rw [List.getElem?_drop, Nat.add_zero, List.getElem?_eq_getElem (by rw [HDL.out]; exact hlt)]
      have hxb : (List.replicate i (R32 2) ++ (Z.map R32).drop i)[i]? = some ((Z.map R32)[i]'(by rw [HDL.out]; exact hlt)) := by
        rw [List.getElem?_append_right (by simp)]
        simp only [List.length_replicate, Nat.sub_self]
        rw [List.getElem?_drop, Nat.add_zero, List.getElem?_eq_getElem (by rw [HDL.out]; exact hlt)]
      generalize ((Z.map R32)[i]'(by rw [HDL.out]; exact hlt)) = z at hxa hxb
      have ca := (ra.cellAt i (by omega)).trans hxa
      have cb := (rb.cellAt i (by omega)).trans hxb
      have fa := ra.frozenAt i
      have fb := rb.frozenAt i
      have sa := (ra.stored i (R32 1)).1
      rw [set_step _ _ _ (by rw [HDL.out]; exact hlt)] at sa
      have sb0 := ownsRow_setCell_other rb (a := ⟨ga, i, none⟩) (by simp [Value.ownBlock]; omega) (R32 1)
      have sb := (sb0.stored i (R32 2)).1
      rw [set_step _ _ _ (by rw [HDL.out]; exact hlt)] at sb
      have sa2 := ownsRow_setCell_other sa (a := ⟨gb, i, none⟩) (by simp [Value.ownBlock]; omega) (R32 2)
      have sw0 := ownsRow_setCell_other rw' (a := ⟨ga, i, none⟩) (by intro e; have := HWB.out ga e; omega) (R32 1)
      have sw := ownsRow_setCell_other sw0 (a := ⟨gb, i, none⟩) (by intro e; have := HWB.out gb e; omega) (R32 2)
      have sB := (hB.setCell (p := ⟨ga, i, none⟩) (by show w.heap.size ≤ ga; omega) (R32 1)).setCell (p := ⟨gb, i, none⟩) (by show w.heap.size ≤ gb; omega) (R32 2)
      have SA := hide sa2
      have SB := hide sb
      have SW := hide sw
      have SBB := hide sB
      clear hxa hxb sa sb0 sb sa2 sw0 sw sB ra rb rw' hB
      go_wp2
      go_roundw
      case rel => exact ⟨i + 1, by omega, by go_num, SA.out, SB.out, SW.out, SBB.out, by simpa using hsz⟩
      case measure => simp [intOf]; omega
    · have hmm : m = i := by omega
      subst hmm
      have dn : (Z.map R32).drop m = [] := List.drop_eq_nil_of_le (by rw [HDL.out]; exact Nat.le_refl _)
      rw [dn, List.append_nil] at ra rb
      clear RAi RBi RWi HB dn
      have RA := hide ra
      have RB := hide rb
      have RW := hide rw'
      have HB := hide hB
      have P0a : ga < wr.heap.size := by omega
      have P0b : gb < wr.heap.size := by omega
      have hwk : ∀ k, (Value.slice aw m cw).ownBlock = some k → k < wr.heap.size := fun k e => (rw'.lt k e).2
      have HWK := hide hwk
      have hPw := hB.size
      clear ra rb rw' hB hwk
      obtain ⟨P0, hP0⟩ : ∃ P, P = wr.heap.size := ⟨_, rfl⟩
      have hP0' : P0 ≤ wr.heap.size := by omega
      rw [← hP0] at P0a P0b HWK hPw hsz
      clear hP0
      go_wp2
      go_loopw [7, 8, 9] (fun p q c W => ∃ j : Nat, j ≤ 60 ∧ c = .int .i64 j ∧ Row W w.heap.size (.slice (some ⟨ga, 0, none⟩) m m) m (List.replicate m (R32 1)) ∧ Row W w1.heap.size (.slice (some ⟨gb, 0, none⟩) m m) m (List.replicate m (R32 2)) ∧
          Row W w2.heap.size (.slice aw m cw) m (Z.map R32) ∧ Below w.heap.size w W ∧ P0 ≤ W.heap.size ∧ Two P0 m ga gb j W p q) (fun _ _ c _ => 60 - (intOf c).toNat)
      case atStart => exact ⟨0, by omega, rfl, RA.out, RB.out, RW.out, HB.out, hP0', .inl ⟨rfl, rfl, rfl⟩⟩
      case round =>
        clear RA RB RW HB hP0'
        obtain ⟨j, hj, rfl, ra, rb, rw', hB, hsz2, htwo⟩ := hrel
        by_cases hlt : j < 60
        · have hlt' : (j : Int) < 60 := by omega
          rcases htwo with ⟨rfl, rfl, rfl⟩ | ⟨hj1, rp, rq, hpq⟩
          · have RA := hide ra
            have RB := hide rb
            have RW := hide rw'
            have HB := hide hB
            clear hB
            have N1 := hide trivial
            go_wp2_with (first | (at_builtin; clear N1; refine wpList_append_full _ rfl _ _ 26 rfl w.heap.size 21 i0 (.int .i32 0) 4 Try.underlying26 hi hz0 hz1 hz2 rfl ga m _ rfl (ra.alloc _) ⟨_, 0, none⟩ (.int .i32 3) rfl (cell_one_new _ _ _) (by unfold maxLen; omega) (by omega) ?_; intro p' W1 hp hpb hgp; have rb1 := (rb.alloc (.cells #[.int .i32 3] 21)).kept hgp (Or.inr (by simp [Value.ownBlock])); have hW1 := hgp.size) | (at_builtin; refine wpList_append_full _ rfl _ _ 26 rfl w1.heap.size 21 i0 (.int .i32 0) 4 Try.underlying26 hi hz0 hz1 hz2 rfl gb m _ rfl (rb1.alloc _) ⟨_, 0, none⟩ (.int .i32 4) rfl (cell_one_new _ _ _) (by unfold maxLen; omega) (by omega) ?_; intro q' W2 hq hqb hgq))
            have hW2 := hgq.size
            rw [World.size_alloc] at hW1 hW2 hpb hqb hp hq
            go_roundw
            case rel =>
              refine ⟨0 + 1, by omega, by go_num, ?_, ?_, ?_, ?_, by omega, .inr ⟨by omega, ?_, ?_, ?_⟩⟩
              · exact (((RA.out.alloc _).kept hgp (Or.inr (by simp [Value.ownBlock]))).alloc _).kept hgq (Or.inr (by simp [Value.ownBlock]))
              · exact (rb1.alloc _).kept hgq (Or.inr (by simp [Value.ownBlock]))
              · have hh := (RW.out.alloc (.cells #[.int .i32 3] 21)).kept hgp (by cases (Value.slice aw m cw).ownBlock <;> simp)
                exact (hh.alloc _).kept hgq (by cases (Value.slice aw m cw).ownBlock <;> simp)
              · have b1 := (HB.out.alloc HB.out.size (.cells #[.int .i32 3] 21)).grown hgp (by have := HB.out.size; simp; omega) (fun k e => by cases e)
                exact (b1.alloc b1.size _).grown hgq (by have := b1.size; simp; omega) (fun k e => by cases e)
              · have hh := ((ownsRow_lower' hp (by omega : P0 ≤ _)).alloc (.cells #[.int .i32 4] 21)).kept hgq (by rw [hpb]; exact Or.inr (by simp))
                exact hh
              · exact ownsRow_lower' hq (by omega : P0 ≤ _)
              · rw [hpb, hqb]; simp; omega
            case measure => simp [intOf]
          · obtain ⟨gp, cp, rfl, lp1, lp2⟩ := owns_slice rp (by omega)
            obtain ⟨gq, cq, rfl, lq1, lq2⟩ := owns_slice rq (by omega)
            have hgpq : gp ≠ gq := fun e => hpq (by rw [e]; rfl)
            have RA := hide ra
            have RB := hide rb
            have RW := hide rw'
            have HB := hide hB
            have hBs := hB.size
            clear hB hpq
            have N1 := hide trivial
            have rq0 := rq.alloc (.cells #[.int .i32 3] 21)
            go_wp2_with (first | (at_builtin; clear N1; refine wpList_append_own_at _ rfl _ _ 26 rfl P0 21 i0 (.int .i32 0) 1 4 Try.underlying26 hi hz0 hz1 hz2 rfl (by omega) (.slice (some ⟨gp, 0, none⟩) (m + j) cp) (m + j) _ rfl (rp.alloc _) ⟨_, 0, none⟩ 1 1 [.int .i32 3] rfl rfl (cell_one_new _ _ _) (by simp [Value.oneCell']) (by unfold maxLen; omega) (by omega) (by simp; omega) ?_; intro p' W1 hp hgp _ hpb; have rq1 := rq0.kept hgp (Or.inr (ne_own (Ne.symm hgpq))); have hW1 := hgp.size; rw [World.size_alloc] at hW1) | (at_builtin; refine wpList_append_own_at _ rfl _ _ 26 rfl P0 21 i0 (.int .i32 0) 1 4 Try.underlying26 hi hz0 hz1 hz2 rfl (by omega) (.slice (some ⟨gq, 0, none⟩) (m + j) cq) (m + j) _ rfl (rq1.alloc _) ⟨_, 0, none⟩ 1 1 [.int .i32 4] rfl rfl (cell_one_new _ _ _) (by simp [Value.oneCell']) (by unfold maxLen; omega) (by omega) (by simp; omega) ?_; intro q' W2 hq hgq _ hqb))
            have hW2 := hgq.size
            rw [World.size_alloc] at hW2 hpb hqb
            obtain ⟨gp', cp', rfl, lp1', lp2'⟩ := owns_slice hp (by omega)
            have hpb' : gp' = gp ∨ gp' = wr.heap.size + 1 := by simpa [Value.ownBlock] using hpb
            have hqb' : q'.ownBlock = some gq ∨ q'.ownBlock = some (W1.heap.size + 1) := hqb
            have hpgq : gp' ≠ gq := by omega
            go_roundw
            case rel =>
              refine ⟨j + 1, by omega, by go_num, ?_, ?_, ?_, ?_, by omega, .inr ⟨by omega, ?_, ?_, ?_⟩⟩
              · exact (((RA.out.alloc _).kept hgp (Or.inr (by simp [Value.ownBlock]; omega))).alloc _).kept hgq (Or.inr (by simp [Value.ownBlock]; omega))
              · exact (((RB.out.alloc _).kept hgp (Or.inr (by simp [Value.ownBlock]; omega))).alloc _).kept hgq (Or.inr (by simp [Value.ownBlock]; omega))
              · refine (((RW.out.alloc _).kept hgp (Or.inr ?_)).alloc _).kept hgq (Or.inr ?_)
                · intro e; have := HWK.out gp e; omega
                · intro e; have := HWK.out gq e; omega
              · have b1 := (HB.out.alloc HB.out.size (.cells #[.int .i32 3] 21)).grown hgp (by simp; omega) (fun k e => by have e2 : gp = k := Option.some.inj e; omega)
                exact (b1.alloc b1.size _).grown hgq (by have := b1.size; simp; omega) (fun k e => by have e2 : gq = k := Option.some.inj e; omega)
              · have hh := (hp.alloc (.cells #[.int .i32 4] 21)).kept hgq (Or.inr (by simp [Value.ownBlock]; omega))
                have e : List.replicate m (R32 1) ++ List.replicate (j + 1) (R32 3) = List.replicate m (R32 1) ++ List.replicate j (R32 3) ++ [.int .i32 3] := by rw [List.replicate_succ', List.append_assoc]; rfl
                rw [e]
                exact hh
              · have e : List.replicate m (R32 2) ++ List.replicate (j + 1) (R32 4) = List.replicate m (R32 2) ++ List.replicate j (R32 4) ++ [.int .i32 4] := by rw [List.replicate_succ', List.append_assoc]; rfl
                rw [e]
                exact hq
              · rcases hqb' with e | e
                · rw [e]; exact fun h => hpgq (Option.some.inj h)
                · rw [e]; exact fun h => by have := Option.some.inj h; have h3 : gp' = W1.heap.size + 1 := this; omega
            case measure => simp [intOf]; omega
        · have hj60 : j = 60 := by omega
          subst hj60
          rcases htwo with ⟨h0, _⟩ | ⟨_, rp, rq, hpq⟩
          · omega
          obtain ⟨gp, cp, rfl, lp1, lp2⟩ := owns_slice rp (by omega)
          obtain ⟨gq, cq, rfl, lq1, lq2⟩ := owns_slice rq (by omega)
          have RW := hide rw'
          have HB := hide hB
          have RA := hide ra
          have RB := hide rb
          have RP := hide rp
          have RQ := hide rq
          clear hpq ra rb rp rq rw' hB
          go_wp2
          go_loop [10] (fun c => ∃ i : Nat, i ≤ m + 60 ∧ c = .int .i64 i) (fun c => m + 60 - (intOf c).toNat)
          case atStart => exact ⟨0, by omega, rfl⟩
          case round =>
            obtain ⟨i, hi60, rfl⟩ := hrel
            by_cases hlt3 : i < m + 60
            · have hl3 : (i : Int) < ((m + 60 : Nat) : Int) := by omega
              have hl3' : (i : Int) < (m : Int) + 60 := by omega
              by_cases him : i < m
              · have him' : (i : Int) < (m : Int) := by omega
                have ca := (RA.out.cellAt i (by omega)).trans (by have := rep_at m (R32 1) [] i him; simpa using this)
                have cb := (RB.out.cellAt i (by omega)).trans (by have := rep_at m (R32 2) [] i him; simpa using this)
                have cp1 := (RP.out.cellAt i (by omega)).trans (rep_at m (R32 1) _ i him)
                have cq1 := (RQ.out.cellAt i (by omega)).trans (rep_at m (R32 2) _ i him)
                unfold R32 at ca cb cp1 cq1
                go_wp2
                go_round
                case rel => exact ⟨i + 1, by omega, by go_num⟩
                case measure => simp [intOf]; omega
              · have him' : (m : Int) ≤ (i : Int) := by omega
                have cp1 := (RP.out.cellAt i (by omega)).trans (rep_at2 m 60 (R32 1) (R32 3) i (by omega) (by omega))
                have cq1 := (RQ.out.cellAt i (by omega)).trans (rep_at2 m 60 (R32 2) (R32 4) i (by omega) (by omega))
                unfold R32 at cp1 cq1
                go_wp2
                go_round
                case rel => exact ⟨i + 1, by omega, by go_num⟩
                case measure => simp [intOf]; omega
            · have hle3 : ((m + 60 : Nat) : Int) ≤ (i : Int) := by omega
              have hle3' : (m : Int) + 60 ≤ (i : Int) := by omega
              have hsw : SlU wr aw Z := by
                have h := RW.out
                rw [← hrl'.out] at h
                obtain ⟨a, cap, he, hsl⟩ := slu_of_owns h
                cases he
                exact hsl
              have HSW := hide hsw
              clear hsw
              go_wp2_with (first | (go_at_call 16; refine (K7.out _).mono ?_; rintro e w6 ⟨gn, rfl, hon, hB6⟩) | (go_at_call 15; refine (KS.out _ _ _ _ _ (SL.out _ _ _ hon) (HSW.out.below hB6)).mono ?_; rintro e w7 ⟨rfl, hB7⟩) | (go_at_call 25; refine (awake_any _).mono ?_; rintro e w8 ⟨rfl, hB8⟩))
              go_ret
              exact ⟨rfl, bseq (bseq (bseq HB.out hB6) hB7) hB8⟩
end utfFresh
end Go.Proofs.Ytmidlkjdjohbdaa
