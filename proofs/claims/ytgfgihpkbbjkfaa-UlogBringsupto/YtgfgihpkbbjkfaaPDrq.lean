/- Package pmem: the first contents of a line are dropped. -/
import Derived.Test.YtgfgihpkbbjkfaaPDrp
namespace Go.Proofs.Ytgfgihpkbbjkfaa
open Go.RowKit
set_option linter.unusedVariables false

theorem slice_runs (g i m cap : Nat) (hi : i ≤ m) (hm : m ≤ cap) (w : World) : (Instr.sliceAt 119 (.slice (some ⟨g, 0, none⟩) m cap) (some (.int .i64 (i : Int))) none none).run Try.prog w = .ok (.slice (some (if cap = i then ⟨g, 0, none⟩ else ⟨g, i * 65, none⟩)) (m - i) (cap - i)) w := by
  obtain ⟨it, h1, h2⟩ := info_of (t := 145) (n := 65) (by kernel_rfl)
  have hu : Try.prog.underlying 119 = some (.slice 145) := by kernel_rfl
  have h3 : (0 : Int) ≤ (i : Int) ∧ (i : Int) ≤ (m : Int) := by omega
  by_cases h4 : cap = i
  · simp only [Instr.sliceAt, Instr.slice, Sem.run_bind, run_underlying hu, Result.andThen_ok, Sem.run_pure, Instr.sliceBounds, Instr.sliceBound, asIntOf, h3, and_self, if_true, sizeOf, typeInfo, h1, h2, h4, Int.toNat_natCast, run_program]
  · simp only [Instr.sliceAt, Instr.slice, Sem.run_bind, run_underlying hu, Result.andThen_ok, Sem.run_pure, Instr.sliceBounds, Instr.sliceBound, asIntOf, h3, and_self, if_true, sizeOf, typeInfo, h1, h2, h4, if_false, Int.toNat_natCast, Addr.add_mid, run_program, Option.map_some, Nat.zero_add]
theorem drop_cell {rs : List (List Nat × Nat)} (i : Nat) : ∀ u ∈ (rs.drop i).flatMap runC, u.oneCell' = true := fun u hu => by
  obtain ⟨r, _, h⟩ := List.mem_flatMap.1 hu
  exact runC_cell r u h
theorem exR_cut (c : List Nat) (t : List (List Nat × Nat)) (n : Nat) : exR ((c, n) :: t) = List.replicate n c ++ exR t := by simp [exR]
theorem own_block {w : World} {base : Nat} {e : TypeId} {size : Nat} {v : Value} {n : Nat} {xs : List Value} (h : w.ownsRow base e size v n xs) {g : Nat} (hg : v.ownBlock = some g) : ∃ cap, v = .slice (some ⟨g, 0, none⟩) n cap := by
  rcases h.2 with ⟨rfl, rfl⟩ | ⟨g', cap, cur, rfl, _⟩
  · cases hg
  · cases hg; exact ⟨_, rfl⟩
theorem index_zero (g len cap : Nat) (h : 0 < len) (w : World) : (Instr.indexAt 119 (.slice (some ⟨g, 0, none⟩) len cap) (.int .i64 0)).run Try.prog w = .ok (.pointer (some ⟨g, 0, none⟩)) w := by
  have e := index_run g 0 len cap h w
  simpa using e
set_option maxRecDepth 100000 in
set_option maxHeartbeats 1000000 in
theorem pdrop_any (pb k : Nat) (v : Value) (cs : List (List Nat)) (w : World) (h : PastAt w pb v cs) (hk : k ≤ cs.length) (hcs : cs ≠ []) (hsm : cs.length ≤ 1400000000000) :
    Calls Try.prog 63 #[.pointer (some ⟨pb, 0, none⟩), .int .i64 (k : Int)] w fun e w' => e = .returned (.tuple #[]) ∧ ∃ v', PastAt w' pb v' (cs.drop k) ∧ (∃ g, v'.ownBlock = some g ∧ w.heap.size ≤ g) ∧ Gr (fun j => j = pb) w w' := by
  obtain ⟨rs, hR, hex⟩ := h.runs
  have hrl := exR_len rs hR.2.2
  rw [hex] at hrl
  have htl : ∀ r ∈ rs, r.2 ≤ 1400000000000 := fun r hr => by
    obtain ⟨a, b, e⟩ := List.append_of_mem hr
    have h1 : (exR rs).length = cs.length := by rw [hex]
    rw [e, exR_append, exR_cut r.1 b r.2] at h1
    simp at h1
    omega
  have hfd := find_drop rs k (by rw [hex]; exact hk)
  rw [hex] at hfd
  have kf := pfind_any pb cs.length k v rs w hR (by omega) (by omega) htl
  generalize (findR rs k).1 = i at *
  generalize (findR rs k).2 = wi at *
  obtain ⟨hi, hfd⟩ := hfd
  have hm0 : rs ≠ [] := fun e => by rw [e] at hex; exact hcs hex.symm
  obtain ⟨g, cap, cur, hv, hcap, hgc⟩ : ∃ g cap cur, v = .slice (some ⟨g, 0, none⟩) rs.length cap ∧ rs.length ≤ cap ∧ w.heap[g]? = some (.cells cur 145 (0, 0)) := by
    rcases hR.2.1.2 with ⟨e1, e2⟩ | ⟨g, cap, cur, e1, _, e3, e2, _⟩
    · exact absurd (List.eq_nil_of_length_eq_zero e2) hm0
    · exact ⟨g, cap, cur, e1, e2, e3⟩
  have l1 := fun X => slice_runs g i rs.length cap hi hcap X
  obtain ⟨ad, had⟩ : ∃ ad : Addr, ad = if cap = i then ⟨g, 0, none⟩ else ⟨g, i * 65, none⟩ := ⟨_, rfl⟩
  rw [← had] at l1
  have hnews : ∀ W : World, PastR W pb v cs.length rs → ∀ j u, ((rs.drop i).flatMap runC)[j]? = some u → W.cell? (ad.add j) = some u := fun W hW j u hu => by
    have hlt : j < ((rs.drop i).flatMap runC).length := (List.getElem?_eq_some_iff.1 hu).1
    rw [runs_len _ (fun r hr => hW.2.2 r (List.mem_of_mem_drop hr)), List.length_drop] at hlt
    rw [had, if_neg (by omega), Addr.add_mid]
    have h1 : (rs.flatMap runC)[i * 65 + j]? = some u := by
      have e := congrArg (fun l => (List.flatMap runC l)[i * 65 + j]?) (List.take_append_drop i rs)
      simp only [List.flatMap_append] at e
      rw [← e, List.getElem?_append_right (by rw [runs_len _ (fun r hr => hW.2.2 r (List.mem_of_mem_take hr)), List.length_take]; omega), runs_len _ (fun r hr => hW.2.2 r (List.mem_of_mem_take hr)), List.length_take, Nat.min_eq_left hi, Nat.add_sub_cancel_left]
      exact hu
    have ho := hW.2.1
    rw [hv] at ho
    rcases ho.2 with ⟨e1, _⟩ | ⟨g', cap', cur', e1, _, hg', _, _, _, htk⟩
    · cases e1
    · cases e1
      rw [← htk, List.getElem?_take] at h1
      split at h1
      · rw [cell8 hg']
        simpa using h1
      · cases h1
  have kcl := fun W (hW : PastR W pb v cs.length rs) => pclone_any ad (rs.length - i) (cap - i) ((rs.drop i).flatMap runC) W (by rw [runs_len _ (fun r hr => hR.2.2 r (List.mem_of_mem_drop hr)), List.length_drop]) (hnews W hW) (drop_cell i) (by omega)
  have KF := hide kf
  have KCL := hide kcl
  have HR := hide hR
  have HV := hide hv
  have HFD := hide hfd
  have HTL := hide htl
  have hkI : (k : Int) ≤ (cs.length : Int) := by omega
  have hsI : (cs.length : Int) ≤ 1400000000000 := by omega
  clear h hR hex htl kf hfd hv hm0 hgc had hnews kcl hcs
  by_cases hwz : wi = 0
  · have WZ := hide hwz
    have hwI : (wi : Int) = 0 := by omega
    have hd : decide (0 < wi) = false := decide_eq_false (by omega)
    clear hwz
    go_enter Try.func63, Try.ntmps63
    go_wp2_with (first | (go_at_call 79; refine (KF.out).mono ?_; rintro e W ⟨rfl, hB⟩; have hw := HR.out.below hB; have cw : W.cell? ⟨pb, 0, none⟩ = some (.slice (some ⟨g, 0, none⟩) rs.length cap) := (by rw [← HV.out]; exact cell8 hw.1 0); have KC := hide (KCL.out W hw); have HW := hide hw; have HB := hide hB; clear hw hB) | (go_at_call 80; refine (KC.out).mono ?_; rintro e X ⟨v1, rfl, ho1, ⟨g1, hb1, hge⟩, hx1⟩; have hpx := (hx1.block pb (lt_of_heap HW.out.1)).trans HW.out.1; have cx0 : X.cell? ⟨pb, 0, none⟩ = some v := cell8 hpx 0; have cx1 : X.cell? ⟨pb, 1, none⟩ = some (.int .i64 (cs.length : Int)) := cell8 hpx 1; have fx0 := froz8 hpx 0; have fx1 := froz8 hpx 1; obtain ⟨q1, rfl⟩ := own_block ho1 hb1; have HO1 := hide ho1; have HX1 := hide hx1; have HPX := hide hpx; have HGE := hide hge; have HB1 := hide hb1; clear ho1 hx1 hpx hge hb1))
    go_end0
    have hpb := lt_of_heap HR.out.1
    have hgp : g1 ≠ pb := by have := HGE.out; have := HB.out.size; omega
    have e1 : ((cs.length : Int) - (k : Int)) = ((cs.length - k : Nat) : Int) := by omega
    rw [e1]
    have hp1 : ((X.setCell ⟨pb, 0, none⟩ (.slice (some ⟨g1, 0, none⟩) (rs.length - i) q1)).setCell ⟨pb, 1, none⟩ (.int .i64 ((cs.length - k : Nat) : Int))).heap[pb]? = some (.cells #[.slice (some ⟨g1, 0, none⟩) (rs.length - i) q1, .int .i64 ((cs.length - k : Nat) : Int)] 121 (0, 0)) := heap_set1 _ pb 1 _ _ _ (heap_set1 X pb 0 _ _ _ HPX.out)
    have ho2 : ((X.setCell ⟨pb, 0, none⟩ (.slice (some ⟨g1, 0, none⟩) (rs.length - i) q1)).setCell ⟨pb, 1, none⟩ (.int .i64 ((cs.length - k : Nat) : Int))).ownsRow 0 145 65 (.slice (some ⟨g1, 0, none⟩) (rs.length - i) q1) (rs.length - i) ((rs.drop i).flatMap runC) := ownsRow_of_block HO1.out (fun g2 hg2 => by
      cases hg2
      exact (heap_set_ne _ pb 1 g1 _ hgp).trans (heap_set_ne X pb 0 g1 _ hgp))
    refine ⟨rfl, _, ⟨by rw [List.length_drop]; exact hp1, rs.drop i, by rw [List.length_drop]; exact ho2, ?_, fun r hr => HR.out.2.2 r (List.mem_of_mem_drop hr)⟩, ⟨g1, rfl, Nat.le_trans HB.out.size HGE.out⟩, ?_⟩
    · rcases HFD.out with ⟨h1, _, h3⟩ | ⟨r, t, h1, h2, h3⟩
      · rw [h1, h3]; rfl
      · rw [h3, h1, WZ.out]; rfl
    · exact (((Gr.of_below HB.out).trans (Gr.of_below HX1.out : Gr (fun j => j = pb) W X) (fun i h => .inl h)).trans (Gr.set X pb 0 _ (X := fun j => j = pb) rfl) (fun i h => .inl h)).trans (Gr.set _ pb 1 _ (X := fun j => j = pb) rfl) (fun i h => .inl h)
  · obtain ⟨r, t, hdr, hd2, hd3⟩ : ∃ r t, rs.drop i = r :: t ∧ wi < r.2 ∧ cs.drop k = exR ((r.1, r.2 - wi) :: t) := by
      rcases HFD.out with ⟨_, h2, _⟩ | h
      · exact absurd h2 hwz
      · exact h
    have hrm : r ∈ rs := List.mem_of_mem_drop (by rw [hdr]; simp)
    have HR64 := hide (HR.out.2.2 r hrm).1
    have hpos : 0 < rs.length - i := by
      have h5 := congrArg List.length hdr
      rw [List.length_drop] at h5
      simp at h5
      omega
    have hr2 := HTL.out r hrm
    have HDR := hide hdr
    have HD2 := hide hd2
    have HD3 := hide hd3
    have HPOS := hide hpos
    have hw0 : (0 : Int) < (wi : Int) := by omega
    have hwr : (wi : Int) < (r.2 : Int) := by omega
    have hrI : (r.2 : Int) ≤ 1400000000000 := by omega
    have hd : decide (0 < wi) = true := decide_eq_true (by omega)
    clear hdr hd3 hpos hrm hwz
    go_enter Try.func63, Try.ntmps63
    go_wp2_with (first | (go_at_call 79; refine (KF.out).mono ?_; rintro e W ⟨rfl, hB⟩; have hw := HR.out.below hB; have cw : W.cell? ⟨pb, 0, none⟩ = some (.slice (some ⟨g, 0, none⟩) rs.length cap) := (by rw [← HV.out]; exact cell8 hw.1 0); have KC := hide (KCL.out W hw); have HW := hide hw; have HB := hide hB; clear hw hB) | (go_at_call 80; refine (KC.out).mono ?_; rintro e X ⟨v1, rfl, ho1, ⟨g1, hb1, hge⟩, hx1⟩; have hpx := (hx1.block pb (lt_of_heap HW.out.1)).trans HW.out.1; have cx0 : X.cell? ⟨pb, 0, none⟩ = some v := cell8 hpx 0; have cx1 : X.cell? ⟨pb, 1, none⟩ = some (.int .i64 (cs.length : Int)) := cell8 hpx 1; have fx0 := froz8 hpx 0; have fx1 := froz8 hpx 1; obtain ⟨q1, rfl⟩ := own_block ho1 hb1; have hrg := row_range (rs := rs.drop i) (j := 0) (r := r) (by rw [List.length_drop]; exact ho1) (fun x hx => HR.out.2.2 x (List.mem_of_mem_drop hx)) (by rw [HDR.out]; rfl); have ct : X.cell? ⟨g1, 64, none⟩ = some (.int .i64 (r.2 : Int)) := (by have h5 := hrg 64 (.int .i64 (r.2 : Int)) (by simp [runC, HR64.out]); simpa using h5); obtain ⟨cg, hcg⟩ := own_type ho1 rfl; have fg := froz8 hcg 64; have hgp0 : g1 ≠ pb := (by have h5 := lt_of_heap HW.out.1; omega); have l2 := fun Y => index_zero g1 (rs.length - i) q1 HPOS.out Y; clear hrg hcg; have HO1 := hide ho1; have HX1 := hide hx1; have HPX := hide hpx; have HGE := hide hge; have HB1 := hide hb1; clear ho1 hx1 hpx hge hb1))
    go_end0
    have hpb := lt_of_heap HR.out.1
    have hgp : g1 ≠ pb := by have := HGE.out; have := HB.out.size; omega
    have e1 : ((cs.length : Int) - (k : Int)) = ((cs.length - k : Nat) : Int) := by omega
    have e2 : ((r.2 : Int) - (wi : Int)) = ((r.2 - wi : Nat) : Int) := by omega
    rw [e1, e2]
    have hp1 : ((X.setCell ⟨pb, 0, none⟩ (.slice (some ⟨g1, 0, none⟩) (rs.length - i) q1)).setCell ⟨pb, 1, none⟩ (.int .i64 ((cs.length - k : Nat) : Int))).heap[pb]? = some (.cells #[.slice (some ⟨g1, 0, none⟩) (rs.length - i) q1, .int .i64 ((cs.length - k : Nat) : Int)] 121 (0, 0)) := heap_set1 _ pb 1 _ _ _ (heap_set1 X pb 0 _ _ _ HPX.out)
    have ho2 : ((X.setCell ⟨pb, 0, none⟩ (.slice (some ⟨g1, 0, none⟩) (rs.length - i) q1)).setCell ⟨pb, 1, none⟩ (.int .i64 ((cs.length - k : Nat) : Int))).ownsRow 0 145 65 (.slice (some ⟨g1, 0, none⟩) (rs.length - i) q1) (rs.length - i) ((rs.drop i).flatMap runC) := ownsRow_of_block HO1.out (fun g2 hg2 => by
      cases hg2
      exact (heap_set_ne _ pb 1 g1 _ hgp).trans (heap_set_ne X pb 0 g1 _ hgp))
    have ho3 := (ho2.stored 64 (.int .i64 ((r.2 - wi : Nat) : Int))).1
    have hls : ((rs.drop i).flatMap runC).set 64 (.int .i64 ((r.2 - wi : Nat) : Int)) = ((r.1, r.2 - wi) :: t).flatMap runC := by
      rw [HDR.out, List.flatMap_cons, List.flatMap_cons, List.set_append_left _ _ (by rw [runC_len r HR64.out]; omega)]
      congr 1
      simp only [runC]
      rw [List.set_append_right _ _ (by rw [List.length_map, HR64.out]; omega), List.length_map, HR64.out]
      rfl
    rw [hls] at ho3
    have hlen : rs.length - i = ((r.1, r.2 - wi) :: t).length := by
      have h5 := congrArg List.length HDR.out
      rw [List.length_drop] at h5
      rw [h5]; rfl
    refine ⟨rfl, _, ⟨by rw [List.length_drop]; exact (heap_set_ne _ g1 64 pb _ hgp.symm).trans hp1, (r.1, r.2 - wi) :: t, by rw [← hlen]; exact ho3, HD3.out.symm, fun x hx => ?_⟩, ⟨g1, rfl, Nat.le_trans HB.out.size HGE.out⟩, ?_⟩
    · rcases List.mem_cons.1 hx with rfl | hx
      · exact ⟨HR64.out, by have := HD2.out; omega⟩
      · exact HR.out.2.2 x (List.mem_of_mem_drop (by rw [HDR.out]; exact List.mem_cons_of_mem _ hx))
    · exact ((((Gr.of_below HB.out).trans (Gr.of_below HX1.out : Gr (fun j => j = pb) W X) (fun i h => .inl h)).trans (Gr.set X pb 0 _ (X := fun j => j = pb) rfl) (fun i h => .inl h)).trans (Gr.set _ pb 1 _ (X := fun j => j = pb) rfl) (fun i h => .inl h)).trans (Gr.set _ g1 64 _ (X := fun j => j = g1) rfl) (fun i h => .inr (by rw [h]; exact Nat.le_trans HB.out.size HGE.out))
end Go.Proofs.Ytgfgihpkbbjkfaa
