/- ScanAgain, walked. -/
import Derived.Test.YtnodeapjgicclaaDoorSAgT
import Derived.Test.YtnodeapjgicclaaDoorSWrk
import Derived.Deep.DeepCutAuto
namespace Go.Proofs.YtnodeapjgicclaaDoor
open Go.RowKit Go.Shelf
set_option linter.unusedVariables false

set_option maxRecDepth 100000 in
set_option maxHeartbeats 4000000 in
theorem scan_over (s : ByteArray) (w : World) (hs : 16384 < s.size) :
    Calls Tryd.prog 5 #[.string s] w fun e w' => ScPost (.inr (4, 0)) w e w' := by
  go_enter Tryd.func5, Tryd.ntmps5
  go_wp2_with (fail)
  refine wp_scope_mixR 0 (fun _ _ => False) (fun _ _ => 0) rfl (fun _ _ h => h.elim) (fun _ => ?_)
  go_wp2_with (fail)
  rw [jumpA_ret]
  go_ret2
  exact ⟨w.heap.size, rfl, Nat.le_refl _, heap_alloc_new w _, (Below.refl _ w).alloc (Nat.le_refl _) _⟩
set_option maxRecDepth 100000 in
set_option maxHeartbeats 4000000 in
theorem again_err (s : ByteArray) (c : Int) (a : Nat) (w : World) (hk : Calls Tryd.prog 5 #[.string s] w fun e w' => ScPost (.inr (c, a)) w e w') (hL : LaidW w) (hZ : LaidZ w) :
    Calls Tryd.prog 3 #[.string s] w fun e w' => e = .returned (.bool true) ∧ Below w.heap.size w w' := by
  have KS := hide hk
  have HL := hide hL
  have HZ := hide hZ
  clear hk hL hZ
  go_enter Tryd.func3, Tryd.ntmps3
  go_wp2_with (first | (go_at_call 5; refine (KS.out).mono ?_; rintro e x ⟨k, rfl, hk1, hk2, hbx⟩; have HBX := hide hbx; clear hk1 hk2 hbx) | (go_at_call 6; refine (works_any _ (HL.out.below HBX.out) (HZ.out.below HBX.out)).mono ?_; rintro e q ⟨rfl, hq⟩))
  go_ret
  exact ⟨rfl, bseq HBX.out hq⟩
theorem cut_tok {W : World} {B C : Nat} {k1 a1 a2 n1 : Int} {tx : ByteArray} {tt : TypeId} (hne : B ≠ C) (hB : W.heap[B]? = some (.cells #[.int .i64 k1, .int .i64 a1, .string tx, .int .i64 n1] tt (0, 0))) (hC : W.heap[C]? = some (.cells #[.int .i64 k1, .int .i64 a2, .string tx, .int .i64 n1] tt (0, 0))) :
    W.cell? ⟨B, 1, none⟩ = some (.int .i64 a1) ∧ (W.setCell ⟨B, 1, none⟩ (.int .i64 0)).cell? ⟨C, 1, none⟩ = some (.int .i64 a2) ∧
    ((W.setCell ⟨B, 1, none⟩ (.int .i64 0)).setCell ⟨C, 1, none⟩ (.int .i64 0)).heap[B]? = some (.cells #[.int .i64 k1, .int .i64 0, .string tx, .int .i64 n1] tt (0, 0)) ∧
    ((W.setCell ⟨B, 1, none⟩ (.int .i64 0)).setCell ⟨C, 1, none⟩ (.int .i64 0)).heap[C]? = some (.cells #[.int .i64 k1, .int .i64 0, .string tx, .int .i64 n1] tt (0, 0)) := by
  have R1 := heap_setCell_same W B 1 _ _ (.int .i64 0) hB
  have R2 : (W.setCell ⟨B, 1, none⟩ (.int .i64 0)).heap[C]? = _ := (heap_setCell_other W ⟨B, 1, none⟩ C (.int .i64 0) (Ne.symm hne)).trans hC
  have R3 := heap_setCell_same _ C 1 _ _ (.int .i64 0) R2
  have R4 := (heap_setCell_other (W.setCell ⟨B, 1, none⟩ (.int .i64 0)) ⟨C, 1, none⟩ B (.int .i64 0) hne).trans R1
  exact ⟨celS hB 1 _ rfl, celS R2 1 _ rfl, R4, R3⟩
theorem two_new (W : World) (X Y : Array Value) (t : TypeId) : ((W.alloc (.cells X t)).alloc (.cells Y t)).drew.heap[W.heap.size]? = some (.cells X t (0, 0)) ∧ ((W.alloc (.cells X t)).alloc (.cells Y t)).drew.heap[W.heap.size + 1]? = some (.cells Y t (0, 0)) ∧ Below W.heap.size W ((W.alloc (.cells X t)).alloc (.cells Y t)).drew := by
  refine ⟨?_, heap_alloc2_new W _ _, (((Below.refl _ W).alloc (Nat.le_refl _) _).alloc (by simp) _).drew⟩
  show ((W.alloc (.cells X t)).alloc (.cells Y t)).heap[W.heap.size]? = _
  rw [Below.heap_alloc _ _ _ (by simp)]
  exact heap_alloc_new W _
theorem row_keepA {W W' : World} {B : Nat} {o : Obj} (h : W.heap[B]? = some o) (hB : Below W.heap.size W W') : W'.heap[B]? = some o := by
  rw [hB.block _ (Array.getElem?_eq_some_iff.1 h).1]
  exact h

set_option maxHeartbeats 1000000 in
theorem dn_heap (W : World) (n : Nat) : (W.drewN n).heap = W.heap := by
  induction n with
  | zero => rfl
  | succ n ih => exact ih
theorem keep_dn {W X : World} {n B : Nat} {o : Obj} (h : W.heap[B]? = some o) (hb : Below (W.drewN n).heap.size (W.drewN n) X) : X.heap[B]? = some o ∧ B < (W.drewN n).heap.size := by
  have h1 : (W.drewN n).heap[B]? = some o := by rw [dn_heap]; exact h
  exact ⟨row_keepA h1 hb, (Array.getElem?_eq_some_iff.1 h1).1⟩
theorem RowT.one {W : World} {base : Nat} {v : Value} {t : Tk} (h : RowT W base v [t]) : ∃ g cap, v = .slice (some ⟨g, 0, none⟩) 1 cap ∧ base ≤ g ∧ W.cell? ⟨g, 0, none⟩ = some (.int .i64 t.1) ∧ W.cell? ⟨g, 1, none⟩ = some (.int .i64 (t.2.1 : Int)) ∧ W.cell? ⟨g, 2, none⟩ = some (.string ⟨t.2.2.1.toArray⟩) ∧ W.cell? ⟨g, 3, none⟩ = some (.int .i64 t.2.2.2) := by
  obtain ⟨a, cap, hv, hs⟩ := h.slk
  obtain ⟨b, off, ha, c0, c1, c2, c3⟩ := tok_cells (k := 0) (x := toI t) hs rfl
  rcases h.2 with ⟨h1, h2⟩ | ⟨g, cap', cur, hv', hg, hh, hnc, hcap, hs', hc⟩
  · cases h2
  · rw [hv, ha] at hv'
    cases hv'
    simp only [Nat.zero_mul, Nat.add_zero, Nat.zero_add] at c0 c1 c2 c3
    exact ⟨b, cap, by rw [hv, ha]; rfl, hg, c0, c1, c2, c3⟩
set_option maxRecDepth 100000 in
set_option maxHeartbeats 8000000 in
theorem again_ok (s : ByteArray) (ts : List Tk) (w : World) (hs : s.size ≤ 16384) (hR : Sc (bl s) 0 [] = .inl ts) (hL : LaidW w) (hZ : LaidZ w) :
    Calls Tryd.prog 3 #[.string s] w fun e w' => e = .returned (.bool true) ∧ Below w.heap.size w w' := by
  have hG := Sc_good hR
  have hok := Gd_ok hG
  have hsm := Sc_small hR
  have hcnt := Gd_count hG
  have hat := Gd_at hG
  rw [bl_len] at hsm hcnt
  have hbd : ∀ x ∈ ts.map toI, x.2.2.1.size ≤ 17592186044416 ∧ -9223372036854775808 ≤ x.2.2.2 ∧ x.2.2.2 ≤ 9223372036854775807 := by
    intro x hx
    obtain ⟨t, ht, rfl⟩ := List.mem_map.1 hx
    have h1 := hsm t ht
    refine ⟨?_, ok_range (hok t ht)⟩
    show (⟨t.2.2.1.toArray⟩ : ByteArray).size ≤ _
    have : (⟨t.2.2.1.toArray⟩ : ByteArray).size = t.2.2.1.length := by simp [ByteArray.size]
    omega
  obtain ⟨us, hU, hst⟩ := Sc_printed ts hok
  obtain ⟨hul, hua⟩ := strip_at hst
  have ks := scan_any s w hs hL
  rw [hR] at ks
  have kp := fun a cap W h hL hZ => print_any a cap (ts.map toI) W h hL hZ (by rw [List.length_map]; omega) hbd
  rw [prV_ok hok, List.length_map] at kp
  have g0 := Tryd.noGuardTk
  have KS := hide ks
  have HL := hide hL
  have HZ := hide hZ
  have HAT := hide hat
  have HUA := hide hua
  have hcI : (ts.length : Int) ≤ 16384 := by omega
  by_cases hJ : 16384 < (prJ (ts.map toI)).length
  · rw [if_pos hJ] at kp
    have KP := hide kp
    clear ks kp hL hZ hat hua hG hok hsm hbd hU hst hul
    go_enter Tryd.func3, Tryd.ntmps3
    go_wp2_with (fail)
    refine (KS.out).mono ?_
    rintro e x ⟨v, rfl, hrow, hbx⟩
    obtain ⟨a, cap, rfl, hsl⟩ := hrow.slk
    have HSL := hide hsl
    have HBX := hide hbx
    clear hsl hbx hrow
    go_wp2_with (first | (go_at_call 7; refine (KP.out a cap _ HSL.out (HL.out.below HBX.out) (HZ.out.below HBX.out)).mono ?_; rintro e y ⟨rfl, hby⟩; have HBY := hide (bseq HBX.out hby); clear hby) | (go_at_call 6; refine (works_any _ (HL.out.below HBY.out) (HZ.out.below HBY.out)).mono ?_; rintro e q ⟨rfl, hq⟩))
    go_ret
    exact ⟨rfl, bseq HBY.out hq⟩
  rw [if_neg hJ] at kp
  have KP := hide kp
  have hps : (⟨(prJ (ts.map toI)).toArray⟩ : ByteArray).size ≤ 16384 := by
    have : (⟨(prJ (ts.map toI)).toArray⟩ : ByteArray).size = (prJ (ts.map toI)).length := by simp [ByteArray.size]
    omega
  have ks2 := fun W hL => scan_any ⟨(prJ (ts.map toI)).toArray⟩ W hps hL
  rw [show bl ⟨(prJ (ts.map toI)).toArray⟩ = prJ (ts.map toI) by simp [bl], hU] at ks2
  have KS2 := hide ks2
  have kone : ∀ (lo hi : Nat) (t : Tk), Sc ((((bl s).drop lo)).take (hi - lo)) 0 [] = .inl [strip0 t] → ∀ W, LaidW W → Calls Tryd.prog 5 #[.string (s.extract lo hi)] W fun e w' => ScPost (.inl [strip0 t]) W e w' := by
    intro lo hi t h W hL
    have h1 := scan_any (s.extract lo hi) W (by rw [ByteArray.size_extract]; omega) hL
    rw [bl_extract, h] at h1
    exact h1
  have KONE := hide kone
  clear ks kp hL hZ hat hua hG hok hsm hbd hU hst ks2 kone hps hJ hR
  generalize (⟨(prJ (ts.map toI)).toArray⟩ : ByteArray) = P at *
  go_enter Tryd.func3, Tryd.ntmps3
  go_wp2_with (fail)
  refine (KS.out).mono ?_
  rintro e x ⟨v, rfl, hrow, hbx⟩
  obtain ⟨a, cap, rfl, hsl⟩ := hrow.slk
  have HSL := hide hsl
  have HBX := hide hbx
  clear hsl hbx hrow
  go_wp2_with (go_at_call 7; refine (KP.out a cap _ HSL.out (HL.out.below HBX.out) (HZ.out.below HBX.out)).mono ?_; rintro e y ⟨rfl, hby⟩; have HSL1 := hide (HSL.out.below hby); have HBY := hide (bseq HBX.out hby); clear hby HSL)
  refine (KS2.out _ (HL.out.below HBY.out)).mono ?_
  rintro e z ⟨v, rfl, hrow, hbz⟩
  obtain ⟨a2, cap2, rfl, hsl2⟩ := hrow.slk
  have HA := hide (HSL1.out.below hbz)
  have HB := hide hsl2
  have HBZ := hide (bseq HBY.out hbz)
  rw [hul]
  clear hsl2 hbz hrow HSL1
  go_wp2_with (fail)
  go_loopw [8] (fun i wr => ∃ k : Nat, i = .int .i64 (k : Int) ∧ k ≤ ts.length ∧ Below z.heap.size z wr) (fun i _ => ts.length - (intOf i).toNat)
  case atStart => exact ⟨0, rfl, Nat.zero_le _, Below.refl _ _⟩
  case round =>
    obtain ⟨k, rfl, hk, hB⟩ := hrel
    by_cases hlt : k < ts.length
    · obtain ⟨t, ht⟩ : ∃ t, ts[k]? = some t := ⟨_, List.getElem?_eq_getElem hlt⟩
      obtain ⟨hN1, hN2, hN3⟩ := HAT.out k t ht
      obtain ⟨A2, hu⟩ := HUA.out k t ht
      have hnext : ∀ u, ts[k + 1]? = some u → u.2.1 = nextAt (bl s) (ts.drop (k + 1)) := fun u h => (next_some h).symm
      have hlast : ¬ k + 1 < ts.length → nextAt (bl s) (ts.drop (k + 1)) = s.size := fun h => (next_none (by omega)).trans (bl_len s)
      have hprev : ∀ u, 0 < k → ts[k - 1]? = some u → u.2.1 < t.2.1 := by
        intro u h0 h
        have h1 := (HAT.out (k - 1) u h).1
        rw [Nat.sub_add_cancel h0, next_some ht] at h1
        exact h1
      rw [bl_len] at hN2
      generalize nextAt (bl s) (ts.drop (k + 1)) = N at *
      have kone := KONE.out t.2.1 N t hN3
      have hxs : (ts.map toI)[k]? = some (toI t) := by rw [List.getElem?_map, ht]; rfl
      have hys : (us.map toI)[k]? = some (toI (t.1, A2, t.2.2.1, t.2.2.2)) := by rw [List.getElem?_map, hu]; rfl
      obtain ⟨b0, off, rfl, v0, v1, v2, v3⟩ := tok_cells (HA.out.below hB) hxs
      obtain ⟨b1, off1, rfl, u0, u1, u2, u3⟩ := tok_cells (HB.out.below hB) hys
      obtain ⟨k1, A1, tl, n1⟩ := t
      simp only [toI] at v0 v1 v2 v3 u0 u1 u2 u3 hN1 hprev kone
      obtain ⟨tx, htx⟩ : ∃ tx, (⟨tl.toArray⟩ : ByteArray) = tx := ⟨_, rfl⟩
      rw [htx] at v2 u2
      have HV := hide (And.intro v0 (And.intro v1 (And.intro v2 v3)))
      have HU := hide (And.intro u0 (And.intro u1 (And.intro u2 u3)))
      have HBW := hide hB
      have HNX := hide hnext
      have HLA := hide hlast
      have HPR := hide hprev
      have HK1 := hide kone
      have HTX := hide htx
      have HTK := hide ht
      have hltI : (k : Int) < (ts.length : Int) := by omega
      clear hnext hlast hprev kone htx ht hu hxs hys hN3 hB KONE KP KS2 KS
      go_wp2_with (fail)
      go_cut [9, 10] (fun p q wx => ∃ B C : Nat, p = .pointer (some ⟨B, 0, none⟩) ∧ q = .pointer (some ⟨C, 0, none⟩) ∧ B ≠ C ∧ wr.heap.size ≤ B ∧ wr.heap.size ≤ C ∧ wx.heap[B]? = some (.cells #[.int .i64 k1, .int .i64 (A1 : Int), .string tx, .int .i64 n1] 32 (0, 0)) ∧ wx.heap[C]? = some (.cells #[.int .i64 k1, .int .i64 (A2 : Int), .string tx, .int .i64 n1] 32 (0, 0)) ∧ Below wr.heap.size wr wx)
      case first =>
        have al1 : ∀ {p : Addr} {v : Value}, wr.cell? p = some v → ∀ X, (wr.alloc X).cell? p = some v := fun h X => cell_belowS h ((Below.refl _ wr).alloc (Nat.le_refl _) X)
        have al2 : ∀ {p : Addr} {v : Value}, wr.cell? p = some v → ∀ X Y, ((wr.alloc X).alloc Y).cell? p = some v := fun h X Y => cell_belowS h (((Below.refl _ wr).alloc (Nat.le_refl _) X).alloc (by simp) Y)
        have v01 := al1 v0
        have v11 := al1 v1
        have v21 := al1 v2
        have v31 := al1 v3
        have v02 := al2 v0
        have v12 := al2 v1
        have v22 := al2 v2
        have v32 := al2 v3
        have u01 := al1 u0
        have u11 := al1 u1
        have u21 := al1 u2
        have u31 := al1 u3
        have u02 := al2 u0
        have u12 := al2 u1
        have u22 := al2 u2
        have u32 := al2 u3
        clear al1 al2
        go_region
        · go_wp2
          go_meet
          obtain ⟨n1', n2', n3'⟩ := two_new wr #[.int .i64 k1, .int .i64 (A1 : Int), .string tx, .int .i64 n1] #[.int .i64 k1, .int .i64 (A2 : Int), .string tx, .int .i64 n1] 32
          exact ⟨_, _, rfl, rfl, by omega, Nat.le_refl _, Nat.le_succ _, n1', n2', n3'⟩
        · go_wp2
          go_meet
          obtain ⟨n1', n2', n3'⟩ := two_new wr #[.int .i64 k1, .int .i64 (A2 : Int), .string tx, .int .i64 n1] #[.int .i64 k1, .int .i64 (A1 : Int), .string tx, .int .i64 n1] 32
          exact ⟨_, _, rfl, rfl, by omega, Nat.le_succ _, Nat.le_refl _, n2', n1', n3'⟩
      case rest =>
        obtain ⟨B, C, rfl, rfl, hne, hB1, hC1, rB, rC, hbc⟩ := hcut
        have HRB := hide rB
        have HRC := hide rC
        have HBC := hide (bseq HBW.out hbc)
        have HWB : Hid (z.heap.size ≤ B ∧ z.heap.size ≤ C) := hide ⟨Nat.le_trans HBW.out.size hB1, Nat.le_trans HBW.out.size hC1⟩
        clear rB rC hbc hB1 hC1 v0 v1 v2 v3 u0 u1 u2 u3 HV HU HBW
        go_upto_if 73 with (fail)
        go_cut [11] (fun e wx => e = .int .i64 (N : Int) ∧ wx = wc)
        case first =>
          by_cases h1 : k + 1 < ts.length
          · obtain ⟨u, hu⟩ : ∃ u, ts[k + 1]? = some u := ⟨_, List.getElem?_eq_getElem h1⟩
            have hue := HNX.out u hu
            obtain ⟨b9, off9, h9, c0, c1, c2, c3⟩ := tok_cells (HA.out.below HBC.out) (show (ts.map toI)[k + 1]? = some (toI u) by rw [List.getElem?_map, hu]; rfl)
            cases h9
            simp only [toI] at c1
            rw [hue] at c1
            have h1I : (k : Int) + 1 < (ts.length : Int) := by omega
            have e1 : ((k : Int) + 1).toNat = k + 1 := by omega
            clear c0 c2 c3 hue hu
            go_wp2_with (fail)
            go_meet
            exact ⟨rfl, rfl⟩
          · have h1I : (ts.length : Int) ≤ (k : Int) + 1 := by omega
            have e1 := HLA.out h1
            go_wp2_with (fail)
            go_meet
            exact ⟨by rw [e1], rfl⟩
        case rest =>
          obtain ⟨rfl, hw⟩ := hcut
          subst hw
          go_wp2_with (fail)
          go_cut [103] (fun c wx => c = .bool false ∧ ∃ n, wx = wc.drewN n)
          case first =>
            obtain ⟨⟨x0, x1⟩, x2, x3⟩ := four_at HRB.out
            have hA0 : (0 : Int) ≤ (A1 : Int) := by omega
            have hAN : (A1 : Int) < (N : Int) := by omega
            by_cases h0 : 0 < k
            · obtain ⟨u, hu⟩ : ∃ u, ts[k - 1]? = some u := ⟨_, List.getElem?_eq_getElem (by omega)⟩
              have hue := HPR.out u h0 hu
              obtain ⟨b9, off9, h9, c0, c1, c2, c3⟩ := tok_cells (HA.out.below HBC.out) (show (ts.map toI)[k - 1]? = some (toI u) by rw [List.getElem?_map, hu]; rfl)
              cases h9
              simp only [toI] at c1
              have h0I : (0 : Int) < (k : Int) := by omega
              have e1 : ((k : Int) - 1).toNat = k - 1 := by omega
              have e2 : (0 : Int) ≤ (k : Int) - 1 := by omega
              have e3 : (k : Int) - 1 < (ts.length : Int) := by omega
              have huI : (u.2.1 : Int) < (A1 : Int) := by omega
              generalize u.2.1 = U at *
              clear c0 c2 c3 hue hu
              have d1 : decide ((A1 : Int) < 0) = false := decide_eq_false (by omega)
              have d2 : decide ((N : Int) ≤ (A1 : Int)) = false := decide_eq_false (by omega)
              have d3 : decide ((0 : Int) < (k : Int)) = true := decide_eq_true (by omega)
              have d4 : decide ((A1 : Int) ≤ (U : Int)) = false := decide_eq_false (by omega)
              have d5 : decide (0 < k) = true := decide_eq_true h0
              have d6 : decide (A1 ≤ U) = false := decide_eq_false (by omega)
              have d7 : decide (N ≤ A1) = false := decide_eq_false (by omega)
              clear hA0 hAN h0I huI
              go_quiet (fail)
              go_wp2_with (fail)
              go_meet
              exact ⟨rfl, _, rfl⟩
            · have h0I : (k : Int) ≤ 0 := by omega
              have d1 : decide ((A1 : Int) < 0) = false := decide_eq_false (by omega)
              have d2 : decide ((N : Int) ≤ (A1 : Int)) = false := decide_eq_false (by omega)
              have d3 : decide ((0 : Int) < (k : Int)) = false := decide_eq_false (by omega)
              have d5 : decide (0 < k) = false := decide_eq_false h0
              have d7 : decide (N ≤ A1) = false := decide_eq_false (by omega)
              clear hA0 hAN h0I
              go_quiet (fail)
              go_wp2_with (fail)
              go_meet
              exact ⟨rfl, _, rfl⟩
          case rest =>
            obtain ⟨rfl, n, hw⟩ := hcut
            subst hw
            have HLZ := hide (HL.out.below (below_drewN (bseq HBZ.out HBC.out) n))
            have hAI : (A1 : Int) ≤ (N : Int) := by omega
            have hNI : (N : Int) ≤ (s.size : Int) := by omega
            obtain ⟨⟨x0, x1⟩, x2, x3⟩ := four_at HRB.out
            go_wp2_with (fail)
            refine (HK1.out _ HLZ.out).mono ?_
            rintro e X ⟨v, rfl, hrow, hbX⟩
            obtain ⟨rB, hlB⟩ := keep_dn HRB.out hbX
            obtain ⟨rC, hlC⟩ := keep_dn HRC.out hbX
            obtain ⟨q1, q2, q3, q4⟩ := cut_tok hne rB rC
            have f1 := frzS rB 1
            have f2 := frzS rC 1
            have f3 : (X.setCell ⟨B, 1, none⟩ (.int .i64 0)).frozen? ⟨C, 1, none⟩ = false := frzS ((heap_setCell_other X ⟨B, 1, none⟩ C (.int .i64 0) (Ne.symm hne)).trans rC) 1
            have hrowZ := hrow.keep (W' := (X.setCell ⟨B, 1, none⟩ (.int .i64 0)).setCell ⟨C, 1, none⟩ (.int .i64 0)) (fun j hj _ => (heap_setCell_other _ _ _ _ (show j ≠ C by omega)).trans (heap_setCell_other _ _ _ _ (show j ≠ B by omega)))
            obtain ⟨g, cap3, rfl, hg, z0, z1, z2, z3⟩ := hrowZ.one
            replace z1 : _ = some (Value.int .i64 (0 : Int)) := z1
            simp only [strip0] at z0 z2 z3
            rw [HTX.out] at z2
            obtain ⟨⟨y0, y1⟩, y2, y3⟩ := four_at q3
            obtain ⟨⟨p0, p1⟩, p2, p3⟩ := four_at q4
            have g1 := fun W => eql_tk k1 0 tx n1 W
            have HBE := hide (((bseq (below_drewN HBC.out n) hbX).setCell (p := ⟨B, 1, none⟩) HWB.out.1 (.int .i64 0)).setCell (p := ⟨C, 1, none⟩) HWB.out.2 (.int .i64 0))
            clear rB rC q3 q4 hrowZ hrow hbX hlB hlC x0 x1 x2 x3 HLZ hg
            go_wp2_with (fail)
            go_quiet (fail)
            go_wp2_with (fail)
            go_roundw
            case rel => exact ⟨k + 1, by go_num, by omega, below_drewN HBE.out nq⟩
            case measure => simp [intOf]; omega
    · have hge : (ts.length : Int) ≤ (k : Int) := by omega
      have HBW := hide (bseq HBZ.out hB)
      clear hB
      go_wp2_with (go_at_call 6; refine (works_any _ (HL.out.below HBW.out) (HZ.out.below HBW.out)).mono ?_; rintro e q ⟨rfl, hq⟩)
      go_ret
      exact ⟨rfl, bseq HBW.out hq⟩
theorem again_road (s : ByteArray) (w : World) (hL : LaidW w) (hZ : LaidZ w) :
    Calls Tryd.prog 3 #[.string s] w fun e w' => e = .returned (.bool true) ∧ Below w.heap.size w w' := by
  by_cases hs : 16384 < s.size
  · exact again_err s 4 0 w (scan_over s w hs) hL hZ
  · have ks := scan_any s w (by omega) hL
    cases hR : Sc (bl s) 0 [] with
    | inl ts => exact again_ok s ts w (by omega) hR hL hZ
    | inr f =>
      rw [hR] at ks
      exact again_err s f.1 f.2 w ks hL hZ
end Go.Proofs.YtnodeapjgicclaaDoor
