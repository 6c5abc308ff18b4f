/- PmemFresh answers true for all numbers of lines, scripts and numbers of a line: images, contents and bytes loaded share no memory, and a copy shares none with its device. -/
import Derived.Test.YtmgeokmgidnneaaPFrBM
import Derived.BigQuiet
import Derived.Deep.QuietTactic
import Derived.Test.YtmgeokmgidnneaaROpenM
namespace Go.Proofs.Ytmgeokmgidnneaa
open Go.RowKit Go.Shelf
set_option linter.unusedVariables false

theorem index_bytes2 (g o i len cap : Nat) (hi : i < len) (w : World) : (Instr.indexAt 40 (.slice (some ⟨g, o, none⟩) len cap) (.int .i64 (i : Int))).run Try.prog w = .ok (.pointer (some ⟨g, o + i, none⟩)) w := by
  have h := index_at (t := 40) (e := 36) (sz := 1) Try.underlying40 (by kernel_rfl) g o i len cap hi w
  rwa [Nat.mul_one] at h
set_option maxRecDepth 100000 in
set_option maxHeartbeats 4000000 in
theorem pmemFresh_walk (w : World) (li ni : Int) (a : Option Addr) (c ns : Nat) (xs : List StpR) (hli : -9223372036854775808 ≤ li ∧ li ≤ 9223372036854775807) (hni : -9223372036854775808 ≤ ni ∧ ni ≤ 9223372036854775807) (hx : ScrP w a ns xs) :
    Calls Try.prog 3 #[.int .i64 li, .slice a ns c, .int .i64 ni] w fun e w' => e = .returned (.bool true) ∧ Below w.heap.size w w' := by
  have HX := hide hx
  clear hx
  go_enter Try.func3, Try.ntmps3
  go_upto_region 6 with (first
    | (go_at_call 4; refine (awake_any w).mono ?_; rintro e W1 ⟨rfl, hB⟩; have HB1 := hide hB; have hx1 := HX.out.below hB; have KBG := hide (begun_any W1 li a c ns xs hli hx1.row hx1.ok hx1.len hx1.few); clear hB hx1)
    | (go_at_call 5; refine (KBG.out).mono ?_; rintro e W2 ⟨p, b, m, K, L, B, σ, rfl, hpd, hst, hn, hmm, hm4, hops, hcap, hz9⟩; have HPD := hide hpd; have HST := hide hst; have HN := hide hn; have HOPS := hide hops; clear hpd hst hn hcap hz9 hops))
  have hm1 : 1 ≤ m := by omega
  have rr := HST.out.rel
  obtain ⟨sg, sc, lg0, lc0, ug, uc, mg, mc, hli2⟩ := HPD.out.pl.lies (N := 8 * m) (m := m) (by rw [rr.ls, HN.out]) (by rw [rr.ll, HN.out]) (by rw [rr.lu, HN.out]) (by rw [rr.lm, HN.out]) (by omega) (by omega)
  have hmk : K.mv = .slice (some ⟨mg, 0, none⟩) m mc := hli2.m
  have c5 : W2.cell? ⟨p, 5, none⟩ = some (.slice (some ⟨mg, 0, none⟩) m mc) := by rw [← hmk]; exact HPD.out.pl.c 5
  obtain ⟨r, hr, hrm⟩ : ∃ r : Nat, ni % (m : Int) = (r : Int) ∧ r < m := ⟨(ni % (m : Int)).toNat, by have := Int.emod_nonneg ni (show (m : Int) ≠ 0 by omega); omega, by have := Int.emod_lt_of_pos ni (show (0 : Int) < (m : Int) by omega); have := Int.emod_nonneg ni (show (m : Int) ≠ 0 by omega); omega⟩
  have kw := pwithin_any W2 ni (m : Int) (by omega) (by omega) hni.1 hni.2
  rw [hr] at kw
  have KW := hide kw
  have mI : (m : Int) ≤ 4 := by omega
  have rI : (r : Int) < (m : Int) := by omega
  have HMM := hide hmm
  clear rr hli2 hmm KBG kw hr hmk
  go_upto_region 7 with (go_at_call 6; refine (KW.out).mono ?_; rintro e w' ⟨rfl, hw⟩; obtain rfl := hw.symm)
  have c0 : W2.cell? ⟨p, 0, none⟩ = some (.pointer (some ⟨b, 0, none⟩)) := HPD.out.pl.c 0
  have KCP := hide (fr_copy HPD.out HST.out)
  clear c5
  go_upto_region 8 with (go_at_call 7; refine (KCP.out).mono ?_; rintro e W3 ⟨d, L', rfl, hfr, hB3⟩; have HF3 := hide hfr; have HB3 := hide hB3; clear hfr hB3)
  have hs13 := HF3.out.pd.bel.size
  have d0 : W3.cell? ⟨p, 0, none⟩ = some (.pointer (some ⟨b, 0, none⟩)) := HF3.out.pd.pl.c 0
  have KL1 := hide (fr_load (r := r) HF3.out HST.out (by rw [HN.out]; exact hrm))
  clear c0
  go_upto_region 9 with (go_at_call 8; refine (KL1.out).mono ?_; rintro e W4 ⟨R1, rfl, hR1, ho1, hB4⟩; have HO1 := hide ho1; have HB4 := hide hB4; clear ho1 hB4)
  have HF4 := hide (HF3.out.below HB4.out)
  have e0 : W4.cell? ⟨p, 0, none⟩ = some (.pointer (some ⟨b, 0, none⟩)) := HF4.out.pd.pl.c 0
  have KL2 := hide (fr_load (r := r) HF4.out HST.out (by rw [HN.out]; exact hrm))
  clear d0
  go_upto_region 10 with (go_at_call 8; refine (KL2.out).mono ?_; rintro e W5 ⟨R2, rfl, hR2, ho2, hB5⟩; have HO2 := hide ho2; have HB5 := hide hB5; clear ho2 hB5)
  have HFR := hide (HF4.out.below HB5.out)
  have HR1 := hide (HO1.out.below HB5.out HO1.out.lt)
  have hlt1 := HO1.out.lt
  have hlt2 := HO2.out.lt
  have hsz5 := HB5.out.size
  obtain ⟨n, hn⟩ : ∃ n, n = (σ.past r ++ [σ.line r]).length := ⟨_, rfl⟩
  have hn1 : 1 ≤ n := by rw [hn]; simp
  have hn2 : n ≤ 1353300000001 := by
    have h5 := HST.out.ok.few r
    have h6 := HOPS.out
    have h7 := HX.out.few
    rw [hn, List.length_append, List.length_singleton]
    omega
  have KC := hide (fun X (hX : Below W5.heap.size W5 X) => fr_con (r := r) (HFR.out.below hX) HST.out (by rw [HN.out]; exact hrm) hn)
  clear hn e0 KW KCP KL1 KL2 HPD HF3 HF4 HO1 HB3
  go_cut [14, 15] from 64 (fun x y wx => ∃ bx cx gx0 gxl cx0 cxl by_ cy gy0 gyl cy0 cyl, x = .slice (some ⟨bx, 0, none⟩) n cx ∧ y = .slice (some ⟨by_, 0, none⟩) n cy ∧ n ≤ cx ∧ ConP wx bx gx0 gxl n cx0 cxl ∧ ConP wx by_ gy0 gyl n cy0 cyl ∧ (cx0.length = 64 ∧ cxl.length = 64 ∧ cy0.length = 64) ∧ (W5.heap.size ≤ gx0 ∧ W5.heap.size ≤ gxl ∧ W5.heap.size ≤ gy0) ∧ gx0 ≠ gy0 ∧ gxl ≠ gy0 ∧ Below W5.heap.size W5 wx)
  case first =>
    have s0 : W5.drew.cell? ⟨p, 0, none⟩ = some (.pointer (some ⟨b, 0, none⟩)) := HFR.out.pd.pl.c 0
    refine wp_region_held_drew (S := fun Y => Y.cell? ⟨p, 0, none⟩ = some (.pointer (some ⟨b, 0, none⟩))) (by kernel_rfl) s0 (fun hS => ?_)
    refine wpAnyH_take (i := 0) (v := (Value.pointer (some ⟨p, 0, none⟩))) rfl (by kernel_rfl) (by kernel_rfl) (by kernel_rfl) (fun _ _ _ h => h) (Or.inl ⟨by kernel_rfl, fun w' hw => by (go_simp)⟩) hS ?_
    refine wpAnyH_take (i := 1) (v := (Value.pointer (some ⟨p, 0, none⟩))) rfl (by kernel_rfl) (by kernel_rfl) (by kernel_rfl) (fun _ _ _ h => h) (Or.inl ⟨by kernel_rfl, fun w' hw => by (go_simp)⟩) hS ?_
    refine wpAnyH_take (i := 2) (v := (Value.pointer (some ⟨p, 0, none⟩))) rfl (by kernel_rfl) (by kernel_rfl) (by kernel_rfl) (fun _ _ _ h => h) (Or.inl ⟨by kernel_rfl, fun w' hw => by (go_simp)⟩) hS ?_
    refine wpAnyH_take (i := 3) (v := (Value.pointer (some ⟨b, 0, none⟩))) rfl (by kernel_rfl) (by kernel_rfl) (by kernel_rfl) (fun _ _ _ h => h) (Or.inl ⟨by kernel_rfl, fun w' hw => by (go_simp)⟩) hS ?_
    refine wpAnyH_take (i := 4) (v := (Value.int .i64 (r : Int))) rfl (by kernel_rfl) (by kernel_rfl) (by kernel_rfl) (fun _ _ _ h => h) (Or.inl ⟨by kernel_rfl, fun w' hw => by (go_simp)⟩) hS ?_
    refine wpAnyH_take (i := 6) (v := (Value.pointer (some ⟨p, 0, none⟩))) rfl (by kernel_rfl) (by kernel_rfl) (by kernel_rfl) (fun _ _ _ h => h) (Or.inl ⟨by kernel_rfl, fun w' hw => by (go_simp)⟩) hS ?_
    refine wpAnyH_take (i := 7) (v := (Value.pointer (some ⟨p, 0, none⟩))) rfl (by kernel_rfl) (by kernel_rfl) (by kernel_rfl) (fun _ _ _ h => h) (Or.inl ⟨by kernel_rfl, fun w' hw => by (go_simp)⟩) hS ?_
    refine wpAnyH_take (i := 8) (v := (Value.pointer (some ⟨p, 0, none⟩))) rfl (by kernel_rfl) (by kernel_rfl) (by kernel_rfl) (fun _ _ _ h => h) (Or.inl ⟨by kernel_rfl, fun w' hw => by (go_simp)⟩) hS ?_
    refine wpAnyH_take (i := 9) (v := (Value.pointer (some ⟨b, 0, none⟩))) rfl (by kernel_rfl) (by kernel_rfl) (by kernel_rfl) (fun _ _ _ h => h) (Or.inl ⟨by kernel_rfl, fun w' hw => by (go_simp)⟩) hS ?_
    refine wpAnyH_take (i := 10) (v := (Value.int .i64 (r : Int))) rfl (by kernel_rfl) (by kernel_rfl) (by kernel_rfl) (fun _ _ _ h => h) (Or.inl ⟨by kernel_rfl, fun w' hw => by (go_simp)⟩) hS ?_
    refine wpAnyH_goS (i := 5) (by kernel_rfl) rfl (by kernel_rfl) (fun K hK => ?_)
    go_wp2_with (go_at_call 9; refine (KC.out _ (Below.refl _ _ |>.drew)).mono ?_; rintro e Y1 ⟨bx, cx, gx0, gxl, cx0, cxl, rfl, hlex, hcx, hlx0, hlxl, hgx0, hgxl, hb1⟩; have HCx := hide hcx; have HB1 := hide (bseq (Below.refl _ W5).drew hb1 : Below W5.heap.size W5 Y1); clear hcx hb1)
    replace hgx0 : W5.heap.size ≤ gx0 := hgx0
    replace hgxl : W5.heap.size ≤ gxl := hgxl
    have hs1 : Y1.cell? ⟨p, 0, none⟩ = some (.pointer (some ⟨b, 0, none⟩)) := (HFR.out.below HB1.out).pd.pl.c 0
    refine hK.out _ _ hs1 ?_
    clear hK K
    refine wpAnyH_goS (i := 11) (by kernel_rfl) rfl (by kernel_rfl) (fun K hK => ?_)
    go_wp2_with (go_at_call 9; refine (KC.out _ HB1.out).mono ?_; rintro e Y2 ⟨by_, cy, gy0, gyl, cy0, cyl, rfl, hley, hcy, hly0, hlyl, hgy0, hgyl, hb2⟩; have HCy := hide hcy; have HB2 := hide hb2; clear hcy hb2)
    have hs2 : Y2.cell? ⟨p, 0, none⟩ = some (.pointer (some ⟨b, 0, none⟩)) := ((HFR.out.below HB1.out).below HB2.out).pd.pl.c 0
    refine hK.out _ _ hs2 ?_
    clear hK K
    refine wpAnyH_take (i := 12) (v := (Value.slice (some ⟨bx, 0, none⟩) n cx)) rfl (by kernel_rfl) (by kernel_rfl) (by kernel_rfl) (fun _ _ _ h => h) (Or.inl ⟨by kernel_rfl, fun w' hw => by (go_simp)⟩) hs2 ?_
    refine wpAnyH_take (i := 13) (v := (Value.slice (some ⟨by_, 0, none⟩) n cy)) rfl (by kernel_rfl) (by kernel_rfl) (by kernel_rfl) (fun _ _ _ h => h) (Or.inl ⟨by kernel_rfl, fun w' hw => by (go_simp)⟩) hs2 ?_
    refine wpAnyH_done (by kernel_rfl) ?_ _
    simp only [Act.put, List.getElem_toArray, List.getElem_cons_zero, List.getElem_cons_succ, List.setIfInBounds_toArray, List.set_cons_zero, List.set_cons_succ]
    go_wp2_with (fail)
    go_meet
    have hCx2 := HCx.out.below HB2.out
    have hlt0 := HCx.out.o0.lt
    have hltl := HCx.out.ol.lt
    have hsz1 := HB1.out.size
    exact ⟨bx, cx, gx0, gxl, cx0, cxl, by_, cy, gy0, gyl, cy0, cyl, rfl, rfl, hlex, hCx2, HCy.out, ⟨hlx0, hlxl, hly0⟩, ⟨by omega, by omega, by omega⟩, by omega, by omega, bseq HB1.out HB2.out⟩
  case rest =>
    obtain ⟨bx, cx, gx0, gxl, cx0, cxl, by_, cy, gy0, gyl, cy0, cyl, rfl, rfl, hcx, hpx, hpy, ⟨hlx0, hlxl, hly0⟩, ⟨hgx0, hgxl, hgy0⟩, hxy, hxly, hB6⟩ := hcut
    obtain ⟨W6, hW6⟩ : ∃ W6, W6 = wc := ⟨_, rfl⟩
    subst hW6
    have HB6 := hide hB6
    have HPX := hide hpx
    have HPY := hide hpy
    have HF6 := hide (HFR.out.below hB6)
    clear hB6 hpx hpy KC
    have KI := hide (fun X (hX : Below W6.heap.size W6 X) => fr_img (HF6.out.below hX) HST.out HN.out)
    go_upto_region 11 with (fail)
    go_cut [16, 17] from 76 (fun x y wx => ∃ I1 I2, x = .slice (some ⟨I1, 0, none⟩) (64 * m) (64 * m) ∧ y = .slice (some ⟨I2, 0, none⟩) (64 * m) (64 * m) ∧ OwnB wx I1 σ.bytes ∧ OwnB wx I2 σ.bytes ∧ W6.heap.size ≤ I1 ∧ W6.heap.size ≤ I2 ∧ I1 ≠ I2 ∧ Below W6.heap.size W6 wx)
    case first =>
      have s0 : W6.drew.cell? ⟨p, 0, none⟩ = some (.pointer (some ⟨b, 0, none⟩)) := HF6.out.pd.pl.c 0
      refine wp_region_held_drew (S := fun Y => Y.cell? ⟨p, 0, none⟩ = some (.pointer (some ⟨b, 0, none⟩))) (by kernel_rfl) s0 (fun hS => ?_)
      refine wpAnyH_take (i := 0) (v := (Value.pointer (some ⟨p, 0, none⟩))) rfl (by kernel_rfl) (by kernel_rfl) (by kernel_rfl) (fun _ _ _ h => h) (Or.inl ⟨by kernel_rfl, fun w' hw => by (go_simp)⟩) hS ?_
      refine wpAnyH_take (i := 1) (v := (Value.pointer (some ⟨p, 0, none⟩))) rfl (by kernel_rfl) (by kernel_rfl) (by kernel_rfl) (fun _ _ _ h => h) (Or.inl ⟨by kernel_rfl, fun w' hw => by (go_simp)⟩) hS ?_
      refine wpAnyH_take (i := 2) (v := (Value.pointer (some ⟨p, 0, none⟩))) rfl (by kernel_rfl) (by kernel_rfl) (by kernel_rfl) (fun _ _ _ h => h) (Or.inl ⟨by kernel_rfl, fun w' hw => by (go_simp)⟩) hS ?_
      refine wpAnyH_take (i := 3) (v := (Value.pointer (some ⟨b, 0, none⟩))) rfl (by kernel_rfl) (by kernel_rfl) (by kernel_rfl) (fun _ _ _ h => h) (Or.inl ⟨by kernel_rfl, fun w' hw => by (go_simp)⟩) hS ?_
      refine wpAnyH_take (i := 5) (v := (Value.pointer (some ⟨p, 0, none⟩))) rfl (by kernel_rfl) (by kernel_rfl) (by kernel_rfl) (fun _ _ _ h => h) (Or.inl ⟨by kernel_rfl, fun w' hw => by (go_simp)⟩) hS ?_
      refine wpAnyH_take (i := 6) (v := (Value.pointer (some ⟨p, 0, none⟩))) rfl (by kernel_rfl) (by kernel_rfl) (by kernel_rfl) (fun _ _ _ h => h) (Or.inl ⟨by kernel_rfl, fun w' hw => by (go_simp)⟩) hS ?_
      refine wpAnyH_take (i := 7) (v := (Value.pointer (some ⟨p, 0, none⟩))) rfl (by kernel_rfl) (by kernel_rfl) (by kernel_rfl) (fun _ _ _ h => h) (Or.inl ⟨by kernel_rfl, fun w' hw => by (go_simp)⟩) hS ?_
      refine wpAnyH_take (i := 8) (v := (Value.pointer (some ⟨b, 0, none⟩))) rfl (by kernel_rfl) (by kernel_rfl) (by kernel_rfl) (fun _ _ _ h => h) (Or.inl ⟨by kernel_rfl, fun w' hw => by (go_simp)⟩) hS ?_
      refine wpAnyH_goS (i := 4) (by kernel_rfl) rfl (by kernel_rfl) (fun K hK => ?_)
      go_wp2_with (go_at_call 10; refine (KI.out _ (Below.refl _ _ |>.drew)).mono ?_; rintro e Y1 ⟨rfl, hi1, hb1⟩; replace hi1 : OwnB Y1 W6.heap.size σ.bytes := hi1; have HI1 := hide hi1; have HY1 := hide (bseq (Below.refl _ W6).drew hb1 : Below W6.heap.size W6 Y1); clear hi1 hb1)
      have hs1 : Y1.cell? ⟨p, 0, none⟩ = some (.pointer (some ⟨b, 0, none⟩)) := (HF6.out.below HY1.out).pd.pl.c 0
      refine hK.out _ _ hs1 ?_
      clear hK K
      refine wpAnyH_goS (i := 9) (by kernel_rfl) rfl (by kernel_rfl) (fun K hK => ?_)
      go_wp2_with (go_at_call 10; refine (KI.out _ HY1.out).mono ?_; rintro e Y2 ⟨rfl, hi2, hb2⟩; have HI2 := hide hi2; have HY2 := hide hb2; clear hi2 hb2)
      have hs2 : Y2.cell? ⟨p, 0, none⟩ = some (.pointer (some ⟨b, 0, none⟩)) := ((HF6.out.below HY1.out).below HY2.out).pd.pl.c 0
      refine hK.out _ _ hs2 ?_
      clear hK K
      refine wpAnyH_take (i := 10) (v := (Value.slice (some ⟨W6.heap.size, 0, none⟩) (64 * m) (64 * m))) rfl (by kernel_rfl) (by kernel_rfl) (by kernel_rfl) (fun _ _ _ h => h) (Or.inl ⟨by kernel_rfl, fun w' hw => by (go_simp)⟩) hs2 ?_
      refine wpAnyH_take (i := 11) (v := (Value.slice (some ⟨Y1.heap.size, 0, none⟩) (64 * m) (64 * m))) rfl (by kernel_rfl) (by kernel_rfl) (by kernel_rfl) (fun _ _ _ h => h) (Or.inl ⟨by kernel_rfl, fun w' hw => by (go_simp)⟩) hs2 ?_
      refine wpAnyH_done (by kernel_rfl) ?_ _
      simp only [Act.put, List.getElem_toArray, List.getElem_cons_zero, List.getElem_cons_succ, List.setIfInBounds_toArray, List.set_cons_zero, List.set_cons_succ]
      go_wp2_with (fail)
      go_meet
      have hlt0 := HI1.out.lt
      have hsz1 := HY1.out.size
      exact ⟨_, _, rfl, rfl, HI1.out.below HY2.out HI1.out.lt, HI2.out, Nat.le_refl _, hsz1, by omega, bseq HY1.out HY2.out⟩
    case rest =>
      obtain ⟨I1, I2, rfl, rfl, hi1, hi2, hg1, hg2, hi12, hB7⟩ := hcut
      obtain ⟨W7, hW7⟩ : ∃ W7, W7 = wc := ⟨_, rfl⟩
      subst hW7
      have HF7 := hide (HF6.out.below hB7)
      have HPX7 := hide (HPX.out.below hB7)
      have HPY7 := hide (HPY.out.below hB7)
      have HI1 := hide hi1
      have HI2 := hide hi2
      have h57 := bseq HB6.out hB7
      have HR17 := hide (HR1.out.below h57 HR1.out.lt)
      have HR27 := hide (HO2.out.below h57 HO2.out.lt)
      have hpxl := HPX.out.o0.lt
      have hpxm := HPX.out.ol.lt
      have hpyl := HPY.out.o0.lt
      have hs6 := HB6.out.size
      have hs7 := hB7.size
      have H57 := hide h57
      have HB7 := hide hB7
      have hlb := line_len HST.out.ok (show r < σ.n by rw [HN.out]; exact hrm)
      have hbb : ∀ x ∈ σ.line r, x < 256 := fun x hx => HST.out.ok.byte x (line_mem hx)
      have hbl : σ.bytes.length = 64 * m := by rw [HST.out.ok.len, HN.out]
      have KE1 := hide (fun X (hX : Below W7.heap.size W7 X) => eqBytes_any (some ⟨R1, 0, none⟩) (some ⟨R2, 0, none⟩) 64 64 (σ.line r) (σ.line r) X ((HR17.out.below hX HR17.out.lt).sl hbb) ((HR27.out.below hX HR27.out.lt).sl hbb) (by rw [hlb]; omega))
      have KE2 := hide (fun X (hX : Below W7.heap.size W7 X) => eqBytes_any (some ⟨I1, 0, none⟩) (some ⟨I2, 0, none⟩) (64 * m) (64 * m) σ.bytes σ.bytes X ((HI1.out.below hX HI1.out.lt).sl HST.out.ok.byte) ((HI2.out.below hX HI2.out.lt).sl HST.out.ok.byte) (by rw [hbl]; omega))
      rw [hlb, decide_eq_true rfl] at KE1
      rw [hbl, decide_eq_true rfl] at KE2
      have nI : (1 : Int) ≤ (n : Int) := by omega
      clear hi1 hi2 h57 hB7 hlb hbb KI HB6 HPX HPY HR1 HO2
      go_upto_region 14 with (first
        | (go_at_call 11; refine (KE1.out W7 (Below.refl _ _)).mono ?_; clear KE1; rintro e Y1 ⟨rfl, nq, rfl⟩)
        | (go_at_call 11; refine (KE2.out (W7.drewN nq) (below_drewN (Below.refl _ _) _)).mono ?_; clear KE2; rintro e Y1 ⟨rfl, nq', rfl⟩))
      have hB7d : Below W7.heap.size W7 (W7.drewN (nq + nq')) := below_drewN (Below.refl _ _) _
      generalize W7.drewN (nq + nq') = V7 at *
      have hs7d := hB7d.size
      have kcp := copyBytes_any (some ⟨I1, 0, none⟩) (64 * m) σ.bytes V7 ((HI1.out.below hB7d HI1.out.lt).sl HST.out.ok.byte) (by rw [hbl]; omega)
      rw [hbl] at kcp
      have KCB := hide kcp
      have HB7D := hide hB7d
      clear kcp hB7d
      go_upto_region 15 with (go_at_call 12; refine (KCB.out).mono ?_; rintro e W8 ⟨rfl, how, hB8⟩; have HOW := hide how; have HB8 := hide hB8; clear how hB8)
      have h78 := bseq HB7D.out HB8.out
      have HF8 := hide (HF7.out.below h78)
      have HPX8 := hide (HPX7.out.below h78)
      have HPY8 := hide (HPY7.out.below h78)
      have HI18 := hide (HI1.out.below h78 HI1.out.lt)
      have HI28 := hide (HI2.out.below h78 HI2.out.lt)
      have HR18 := hide (HR17.out.below h78 HR17.out.lt)
      have HR28 := hide (HR27.out.below h78 HR27.out.lt)
      have H78 := hide h78
      have hi1l := HI1.out.lt
      have hi2l := HI2.out.lt
      have hwl := HOW.out.lt
      have hs8 := HB8.out.size
      obtain ⟨G, hG⟩ : ∃ G, G = V7.heap.size := ⟨_, rfl⟩
      rw [← hG] at HOW hwl ⊢
      have hGv : V7.heap.size ≤ G := by omega
      clear hG
      have x0 := HPX8.out.first
      have xl := HPX8.out.last
      have y0 := HPY8.out.first
      have j0 := fun X => index_bytes2 bx 0 0 n cx (by omega) X
      have j1 := fun X => index_bytes2 by_ 0 0 n cy (by omega) X
      have j2 := fun X => index_bytes2 bx 0 (n - 1) n cx (by omega) X
      rw [show ((n - 1 : Nat) : Int) = (n : Int) - 1 by omega] at j2
      simp only [Nat.zero_add] at j0 j1 j2
      have nI2 : (n : Int) ≤ 1353300000001 := by omega
      have s0 : W8.drew.cell? ⟨bx, 0, none⟩ = some (.slice (some ⟨gx0, 0, none⟩) 64 64) ∧ W8.drew.cell? ⟨bx, n - 1, none⟩ = some (.slice (some ⟨gxl, 0, none⟩) 64 64) ∧ W8.drew.cell? ⟨by_, 0, none⟩ = some (.slice (some ⟨gy0, 0, none⟩) 64 64) := ⟨x0, xl, y0⟩
      have S0 := hide s0
      have J0 := hide j0
      have J1 := hide j1
      have J2 := hide j2
      have WN : Hid (IntKind.i64.wrap ((n : Int) - 1) = (n : Int) - 1) := by show IntKind.i64.wrap _ = _; rw [IntKind.wrap_i64]; omega
      clear x0 xl y0 j0 j1 j2 s0 h78 HI1 HI2 HR17 HR27 HPX7 HPY7 HF7 KCB
      go_cut [19] from 119 (fun v wx => ∃ ab, v = .slice (some ⟨ab, 0, none⟩) 7 7 ∧ W8.heap.size ≤ ab ∧ wx.heap[ab]? = some (.cells #[.slice (some ⟨R1, 0, none⟩) 64 64, .slice (some ⟨R2, 0, none⟩) 64 64, .slice (some ⟨I1, 0, none⟩) (64 * m) (64 * m), .slice (some ⟨I2, 0, none⟩) (64 * m) (64 * m), .slice (some ⟨gx0, 0, none⟩) 64 64, .slice (some ⟨gy0, 0, none⟩) 64 64, .slice (some ⟨gxl, 0, none⟩) 64 64] 36 (0, 0)) ∧ Below W8.heap.size W8 wx)
      case first =>
        refine wp_region_held_drew (S := fun Y => Y.cell? ⟨bx, 0, none⟩ = some (.slice (some ⟨gx0, 0, none⟩) 64 64) ∧ Y.cell? ⟨bx, n - 1, none⟩ = some (.slice (some ⟨gxl, 0, none⟩) 64 64) ∧ Y.cell? ⟨by_, 0, none⟩ = some (.slice (some ⟨gy0, 0, none⟩) 64 64)) (by kernel_rfl) S0.out (fun hS => ?_)
        refine wpAnyH_take (i := 0) (v := (Value.slice (some ⟨R1, 0, none⟩) 64 64)) rfl (by kernel_rfl) (by kernel_rfl) (by kernel_rfl) (fun _ _ _ h => h) (Or.inl ⟨by kernel_rfl, fun w' hw => by (go_simp)⟩) hS ?_
        refine wpAnyH_take (i := 1) (v := (Value.slice (some ⟨R2, 0, none⟩) 64 64)) rfl (by kernel_rfl) (by kernel_rfl) (by kernel_rfl) (fun _ _ _ h => h) (Or.inl ⟨by kernel_rfl, fun w' hw => by (go_simp)⟩) hS ?_
        refine wpAnyH_take (i := 2) (v := (Value.slice (some ⟨I1, 0, none⟩) (64 * m) (64 * m))) rfl (by kernel_rfl) (by kernel_rfl) (by kernel_rfl) (fun _ _ _ h => h) (Or.inl ⟨by kernel_rfl, fun w' hw => by (go_simp)⟩) hS ?_
        refine wpAnyH_take (i := 3) (v := (Value.slice (some ⟨I2, 0, none⟩) (64 * m) (64 * m))) rfl (by kernel_rfl) (by kernel_rfl) (by kernel_rfl) (fun _ _ _ h => h) (Or.inl ⟨by kernel_rfl, fun w' hw => by (go_simp)⟩) hS ?_
        refine wpAnyH_take (i := 4) (v := (Value.slice (some ⟨bx, 0, none⟩) n cx)) rfl (by kernel_rfl) (by kernel_rfl) (by kernel_rfl) (fun _ _ _ h => h) (Or.inl ⟨by kernel_rfl, fun w' hw => by (go_simp)⟩) hS ?_
        refine wpAnyH_take (i := 5) (v := (Value.pointer (some ⟨bx, 0, none⟩))) rfl (by kernel_rfl) (by kernel_rfl) (by kernel_rfl) (fun _ _ _ h => h) (Or.inl ⟨by kernel_rfl, fun w' hw => by (have e := J0.out w'; go_simp)⟩) hS ?_
        refine wpAnyH_take (i := 6) (v := (Value.slice (some ⟨gx0, 0, none⟩) 64 64)) rfl (by kernel_rfl) (by kernel_rfl) (by kernel_rfl) (fun _ _ _ h => h) (Or.inl ⟨by kernel_rfl, fun w' hw => by (obtain ⟨z0, z1, z2⟩ := hw; go_simp)⟩) hS ?_
        refine wpAnyH_take (i := 7) (v := (Value.slice (some ⟨by_, 0, none⟩) n cy)) rfl (by kernel_rfl) (by kernel_rfl) (by kernel_rfl) (fun _ _ _ h => h) (Or.inl ⟨by kernel_rfl, fun w' hw => by (go_simp)⟩) hS ?_
        refine wpAnyH_take (i := 8) (v := (Value.pointer (some ⟨by_, 0, none⟩))) rfl (by kernel_rfl) (by kernel_rfl) (by kernel_rfl) (fun _ _ _ h => h) (Or.inl ⟨by kernel_rfl, fun w' hw => by (have e := J1.out w'; go_simp)⟩) hS ?_
        refine wpAnyH_take (i := 9) (v := (Value.slice (some ⟨gy0, 0, none⟩) 64 64)) rfl (by kernel_rfl) (by kernel_rfl) (by kernel_rfl) (fun _ _ _ h => h) (Or.inl ⟨by kernel_rfl, fun w' hw => by (obtain ⟨z0, z1, z2⟩ := hw; go_simp)⟩) hS ?_
        refine wpAnyH_take (i := 10) (v := (Value.slice (some ⟨bx, 0, none⟩) n cx)) rfl (by kernel_rfl) (by kernel_rfl) (by kernel_rfl) (fun _ _ _ h => h) (Or.inl ⟨by kernel_rfl, fun w' hw => by (go_simp)⟩) hS ?_
        refine wpAnyH_take (i := 11) (v := (Value.slice (some ⟨bx, 0, none⟩) n cx)) rfl (by kernel_rfl) (by kernel_rfl) (by kernel_rfl) (fun _ _ _ h => h) (Or.inl ⟨by kernel_rfl, fun w' hw => by (go_simp)⟩) hS ?_
        refine wpAnyH_take (i := 12) (v := (Value.int .i64 (n : Int))) rfl (by kernel_rfl) (by kernel_rfl) (by kernel_rfl) (fun _ _ _ h => h) (Or.inl ⟨by kernel_rfl, fun w' hw => by (go_simp)⟩) hS ?_
        refine wpAnyH_take (i := 13) (v := (Value.int .i64 ((n : Int) - 1))) rfl (by kernel_rfl) (by kernel_rfl) (by kernel_rfl) (fun _ _ _ h => h) (Or.inl ⟨by kernel_rfl, fun w' hw => by (have wn := WN.out; go_simp)⟩) hS ?_
        refine wpAnyH_take (i := 14) (v := (Value.pointer (some ⟨bx, n - 1, none⟩))) rfl (by kernel_rfl) (by kernel_rfl) (by kernel_rfl) (fun _ _ _ h => h) (Or.inl ⟨by kernel_rfl, fun w' hw => by (have e := J2.out w'; go_simp)⟩) hS ?_
        refine wpAnyH_take (i := 15) (v := (Value.slice (some ⟨gxl, 0, none⟩) 64 64)) rfl (by kernel_rfl) (by kernel_rfl) (by kernel_rfl) (fun _ _ _ h => h) (Or.inl ⟨by kernel_rfl, fun w' hw => by (obtain ⟨z0, z1, z2⟩ := hw; go_simp)⟩) hS ?_
        refine wpAnyH_goS (i := 16) (by kernel_rfl) rfl (by kernel_rfl) (fun K hK => ?_)
        go_wp2_with (fail)
        have hB9 : Below W8.heap.size W8 (W8.alloc (.cells #[.slice (some ⟨R1, 0, none⟩) 64 64, .slice (some ⟨R2, 0, none⟩) 64 64, .slice (some ⟨I1, 0, none⟩) (64 * m) (64 * m), .slice (some ⟨I2, 0, none⟩) (64 * m) (64 * m), .slice (some ⟨gx0, 0, none⟩) 64 64, .slice (some ⟨gy0, 0, none⟩) 64 64, .slice (some ⟨gxl, 0, none⟩) 64 64] 36)).drew := ((Below.refl _ W8).alloc (Nat.le_refl _) _).drew
        have hn9 : (W8.alloc (.cells #[.slice (some ⟨R1, 0, none⟩) 64 64, .slice (some ⟨R2, 0, none⟩) 64 64, .slice (some ⟨I1, 0, none⟩) (64 * m) (64 * m), .slice (some ⟨I2, 0, none⟩) (64 * m) (64 * m), .slice (some ⟨gx0, 0, none⟩) 64 64, .slice (some ⟨gy0, 0, none⟩) 64 64, .slice (some ⟨gxl, 0, none⟩) 64 64] 36)).drew.heap[W8.heap.size]? = _ := heapNew W8 (.cells #[.slice (some ⟨R1, 0, none⟩) 64 64, .slice (some ⟨R2, 0, none⟩) 64 64, .slice (some ⟨I1, 0, none⟩) (64 * m) (64 * m), .slice (some ⟨I2, 0, none⟩) (64 * m) (64 * m), .slice (some ⟨gx0, 0, none⟩) 64 64, .slice (some ⟨gy0, 0, none⟩) 64 64, .slice (some ⟨gxl, 0, none⟩) 64 64] 36)
        have hs9 : (W8.alloc (.cells #[.slice (some ⟨R1, 0, none⟩) 64 64, .slice (some ⟨R2, 0, none⟩) 64 64, .slice (some ⟨I1, 0, none⟩) (64 * m) (64 * m), .slice (some ⟨I2, 0, none⟩) (64 * m) (64 * m), .slice (some ⟨gx0, 0, none⟩) 64 64, .slice (some ⟨gy0, 0, none⟩) 64 64, .slice (some ⟨gxl, 0, none⟩) 64 64] 36)).drew.cell? ⟨bx, 0, none⟩ = some (.slice (some ⟨gx0, 0, none⟩) 64 64) ∧ (W8.alloc (.cells #[.slice (some ⟨R1, 0, none⟩) 64 64, .slice (some ⟨R2, 0, none⟩) 64 64, .slice (some ⟨I1, 0, none⟩) (64 * m) (64 * m), .slice (some ⟨I2, 0, none⟩) (64 * m) (64 * m), .slice (some ⟨gx0, 0, none⟩) 64 64, .slice (some ⟨gy0, 0, none⟩) 64 64, .slice (some ⟨gxl, 0, none⟩) 64 64] 36)).drew.cell? ⟨bx, n - 1, none⟩ = some (.slice (some ⟨gxl, 0, none⟩) 64 64) ∧ (W8.alloc (.cells #[.slice (some ⟨R1, 0, none⟩) 64 64, .slice (some ⟨R2, 0, none⟩) 64 64, .slice (some ⟨I1, 0, none⟩) (64 * m) (64 * m), .slice (some ⟨I2, 0, none⟩) (64 * m) (64 * m), .slice (some ⟨gx0, 0, none⟩) 64 64, .slice (some ⟨gy0, 0, none⟩) 64 64, .slice (some ⟨gxl, 0, none⟩) 64 64] 36)).drew.cell? ⟨by_, 0, none⟩ = some (.slice (some ⟨gy0, 0, none⟩) 64 64) := ⟨(HPX8.out.below hB9).first, (HPX8.out.below hB9).last, (HPY8.out.below hB9).first⟩
        refine hK.out _ _ hs9 ?_
        clear hK K
        refine wpAnyH_take (i := 17) (v := (Value.slice (some ⟨W8.heap.size, 0, none⟩) 7 7)) rfl (by kernel_rfl) (by kernel_rfl) (by kernel_rfl) (fun _ _ _ h => h) (Or.inl ⟨by kernel_rfl, fun w' hw => by (go_simp)⟩) hs9 ?_
        refine wpAnyH_done (by kernel_rfl) ?_ _
        simp only [Act.put, List.getElem_toArray, List.getElem_cons_zero, List.getElem_cons_succ, List.setIfInBounds_toArray, List.set_cons_zero, List.set_cons_succ]
        go_wp2_with (fail)
        go_meet
        exact ⟨W8.heap.size, rfl, Nat.le_refl _, hn9, hB9⟩
      case rest =>
        obtain ⟨ab, rfl, hab, hall, hB9⟩ := hcut
        obtain ⟨W9, hW9⟩ : ∃ W9, W9 = wc := ⟨_, rfl⟩
        subst hW9
        have HALL := hide hall
        have HB9 := hide hB9
        clear hall hB9 S0 J0 J1 J2 WN
        go_upto_if 138 with (fail)
        go_cut [19] from 139 (fun v wx => ∃ N, v = .slice (some ⟨ab, 0, none⟩) N 7 ∧ (N = 6 ∨ N = 7 ∧ 2 ≤ n) ∧ wx = W9)
        case first =>
          by_cases h1 : n = 1
          · have n1 : (n : Int) = 1 := by omega
            go_wp2
            go_meet
            exact ⟨6, rfl, .inl rfl, rfl⟩
          · have n1 : ¬ (n : Int) = 1 := by omega
            go_wp2
            go_meet
            exact ⟨7, rfl, .inr ⟨rfl, by omega⟩, rfl⟩
        case rest =>
          obtain ⟨N, rfl, hN, hw⟩ := hcut
          obtain rfl := hw.symm
          have b89 := HB9.out
          have hdist := seven_apart (a := R1) (b := R2) (c := I1) (d := I2) (x := gx0) (y := gy0) (z := gxl) (N := N) (by omega) (by omega) (by omega) (by omega) (by omega) (by omega) (by omega) (by omega) (by omega) (by omega) hi12 hxy hxly (hN.imp id (fun h => ⟨h.1, HPX8.out.ne h.2⟩))
          have hlb := line_len HST.out.ok (show r < σ.n by rw [HN.out]; exact hrm)
          have o1 := HR18.out.below b89 HR18.out.lt
          have o2 := HR28.out.below b89 HR28.out.lt
          have o3 := HI18.out.below b89 HI18.out.lt
          have o4 := HI28.out.below b89 HI28.out.lt
          have ox := HPX8.out.below b89
          have oy := HPY8.out.below b89
          have KA := hide (fr_apart HALL.out hm4 (hN.imp id (fun h => h.1)) o1 o2 o3 o4 ox.o0 oy.o0 ox.ol hlb hlb hbl hbl hlx0 hly0 hlxl hdist)
          have hf9 := HF8.out.below b89
          have how9 := HOW.out.below b89 HOW.out.lt
          have h15 := HFR.out.pd.bel.size
          have post : ∀ W10, Gr (among [R1, R2, I1, I2, gx0, gy0, gxl]) W9 W10 → W10.cell? ⟨p, 0, none⟩ = some (.pointer (some ⟨b, 0, none⟩)) ∧ Fr W1 W10 p b d K L L' B σ σ ∧ OwnB W10 G σ.bytes := fun W10 hg => by
            have hfr := hf9.bytes hg (fun k hk => by
              simp only [among, List.mem_cons, List.not_mem_nil, or_false] at hk
              rcases hk with e | e | e | e | e | e | e <;> rw [e]
              · exact ⟨_, _, o1⟩
              · exact ⟨_, _, o2⟩
              · exact ⟨_, _, o3⟩
              · exact ⟨_, _, o4⟩
              · exact ⟨_, _, ox.o0⟩
              · exact ⟨_, _, oy.o0⟩
              · exact ⟨_, _, ox.ol⟩) (fun k hk => by
              simp only [among, List.mem_cons, List.not_mem_nil, or_false] at hk
              omega)
            refine ⟨hfr.pd.pl.c 0, hfr, how9.of_block (hg.block how9.lt (fun hk => ?_))⟩
            simp only [among, List.mem_cons, List.not_mem_nil, or_false] at hk
            omega
          have POST := hide post
          have hops9 : σ.ops + 600000 ≤ 1400000000000 := by
            have h6 := HOPS.out
            have h7 := HX.out.few
            omega
          have HOPS9 := hide hops9
          clear b89 hdist hlb o1 o2 o3 o4 ox oy hf9 how9 post hops9 HALL HB9 HPX8 HPY8 HR18 HR28 HI18 HI28 HOW HF8 HF6 HFR H57 H78 HB7 HB7D HB8 hN hlx0 hly0 hlxl hxy hxly hi12 hgx0 hgxl hgy0 hg1 hg2
          go_upto_region 20 with (first
            | (go_at_call 13; refine (KA.out).mono ?_; clear KA; rintro e W10 ⟨rfl, hg10⟩; obtain ⟨p0, hfr10, how10⟩ := POST.out W10 hg10; have HC1 := hide (fr_images hfr10 HST.out HN.out hm4 how10); clear hg10 hfr10 how10 POST)
            | (go_at_call 10; refine (HC1.out).mono ?_; clear HC1; rintro e WA ⟨rfl, hc2⟩; have HC2 := hide hc2; clear hc2)
            | (go_at_call 11; refine (HC2.out).mono ?_; clear HC2; rintro e WB ⟨rfl, hc3⟩; have HC3 := hide hc3; clear hc3)
            | (go_at_call 10; refine (HC3.out).mono ?_; clear HC3; rintro e WC ⟨rfl, hc4⟩; have HC4 := hide hc4; clear hc4)
            | (go_at_call 11; refine (HC4.out).mono ?_; clear HC4; rintro e WD ⟨rfl, hfrD, howD⟩; have HS1 := hide (fr_stores hfrD HST.out HOPS9.out HN.out howD); clear hfrD howD))
          go_upto_region 23 with (first
            | (go_at_call 14; refine (HS1.out).mono ?_; clear HS1; rintro e WE ⟨rfl, pE, hs2⟩; have HS2 := hide hs2; clear hs2)
            | (go_at_call 14; refine (HS2.out).mono ?_; clear HS2; rintro e WF ⟨rfl, pF, hs3⟩; have HS3 := hide hs3; clear hs3)
            | (go_at_call 10; refine (HS3.out).mono ?_; clear HS3; rintro e WG ⟨rfl, hs4⟩; have HS4 := hide hs4; clear hs4)
            | (go_at_call 10; refine (HS4.out).mono ?_; clear HS4; rintro e WH ⟨rfl, hfe⟩; have HFE := hide hfe; clear hfe))
          obtain ⟨u, v, t1, t2, t3, t4, t5, t6, x, t7, t8⟩ := HFE.out.told HST.out HN.out hm1
          have hc0 := HFE.out.c0
          have HBE := hide HFE.out.bel
          generalize WF.heap.size = O1 at *
          generalize WG.heap.size = O2 at *
          have q1 := fun X => slice_bytes O1 0 8 (64 * m) (64 * m) (by omega) (Nat.le_refl _) X
          have q2 := fun X => slice_bytes O2 0 8 (64 * m) (64 * m) (by omega) (Nat.le_refl _) X
          have q3 := fun X => slice_bytes G 0 8 (64 * m) (64 * m) (by omega) (Nat.le_refl _) X
          simp only [Nat.zero_add, Int.cast_ofNat_Int] at q1 q2 q3
          clear HFE pE pF p0
          go_wp2_with (fail)
          go_quiet (first
            | (go_at_call 15; refine Calls.quiet_of_same (NumP.at_ (by assumption) _))
            | (go_at_call 16; refine Calls.quiet_of_same (OpsP.at_ (by assumption) _)))
          go_wp2
          go_ret
          refine ⟨rfl, ?_⟩
          exact below_drewN ((HB1.out).trans (HBE.out.mono HB1.out.size)) _
end Go.Proofs.Ytmgeokmgidnneaa
namespace Go.Proofs.Ytmgeokmgidnneaa
open Go.ChangeShapes Go.WideShapes Go.ChangeAt Go.RowKit
set_option linter.unusedVariables false
set_option maxRecDepth 100000

theorem Try.cellsSt : Try.prog.cellsOf 59 = 7 := by kernel_rfl
theorem Try.cellsI : Try.prog.cellsOf 3 = 1 := by kernel_rfl
theorem Try.cellsU : Try.prog.cellsOf 47 = 1 := by kernel_rfl
theorem Try.cellsY : Try.prog.cellsOf 36 = 1 := by kernel_rfl
theorem Try.cellsN : Try.prog.cellsOf 32 = 1 := by kernel_rfl
theorem Try.cellsA : Try.prog.cellsOf 57 = 1 := by kernel_rfl
theorem slice_form {H : Type} {enc : TypeId × Value → H} {W : World} {fuel : Nat} {t e : TypeId} {c : Value} {x : DataW H × List MemPlace} (ht : Try.prog.underlying t = some (.slice e)) (h : DataW.trod enc Try.prog W 0 (fun _ => true) true fuel t [c] = some x) : ∃ a l k, c = .slice a l k := by
  rcases Go.Deep.open_slice ht h with ⟨e, _⟩ | ⟨a, l, c, _, _, _, _, e, _⟩
  · simp at e; exact ⟨_, _, _, e⟩
  · simp at e; exact ⟨_, _, _, e⟩
/-- The seven cells of a step. -/
theorem step_cells {H : Type} {enc : TypeId × Value → H} {W : World} (fuel : Nat) (cs : List Value) (x : DataW H × List MemPlace)
    (h : DataW.trod enc Try.prog W 0 (fun _ => true) true fuel 59 cs = some x) :
    ∃ s : StpR, cs = s.vals.toList ∧ s.Ok ∧ 8 ≤ Rows.uptoBulk x.1 := by
  obtain ⟨xs, n, _, hx, hl, hlen, hf⟩ := DataW.trod_struct Try.underlying59 h
  rw [Try.cellsSt] at hl
  match cs, hl with
  | [c0, c1, c2, c3, c4, c5, c6], _ =>
    match xs, hlen with
    | [y0, y1, y2, y3, y4, y5, y6], _ =>
      have h0 := hf 0 _ rfl
      have h1 := hf 1 _ rfl
      have h2 := hf 2 _ rfl
      have h3 := hf 3 _ rfl
      have h4 := hf 4 _ rfl
      have h5 := hf 5 _ rfl
      have h6 := hf 6 _ rfl
      simp [Try.cellsI, Try.cellsU, Try.cellsY, Try.cellsN, Try.cellsA] at h0 h1 h2 h3 h4 h5 h6
      obtain ⟨da, dl, dc, rfl⟩ := slice_form Try.underlying36 h4
      obtain ⟨ka, kl, kc, rfl⟩ := slice_form Try.underlying32 h5
      obtain ⟨aa, al, ac, rfl⟩ := slice_form Try.underlying57 h6
      obtain ⟨z0, e0, _, w0⟩ := DataW.trod_int Try.underlying3 h0
      obtain ⟨z1, e1, _, w1⟩ := DataW.trod_int Try.underlying3 h1
      obtain ⟨z2, e2, _, w2⟩ := DataW.trod_int Try.underlying3 h2
      obtain ⟨z3, e3, _, w3⟩ := DataW.trod_int Try.underlying47 h3
      simp at e0 e1 e2 e3
      subst e0 e1 e2 e3
      have b1 := bounds_i64 w1
      have b3 := bounds_u64 w3
      obtain ⟨v, rfl⟩ : ∃ v : Nat, z3 = (v : Int) := ⟨z3.toNat, by omega⟩
      refine ⟨⟨z0, z1, z2, v, da, dl, dc, ka, kl, kc, aa, al, ac⟩, rfl, ⟨b1.1, b1.2, by show v < _; omega⟩, ?_⟩
      have p0 := bulk_pos y0.1
      have p1 := bulk_pos y1.1
      have p2 := bulk_pos y2.1
      have p3 := bulk_pos y3.1
      have p4 := bulk_pos y4.1
      have p5 := bulk_pos y5.1
      have p6 := bulk_pos y6.1
      subst hx
      simp only [List.map_cons, List.map_nil, Rows.uptoBulk, Rows.uptoBulkAll]
      omega
theorem sum_const {α : Type} (l : List α) (k : Nat) : (l.map (fun _ => k)).sum = k * l.length := by
  induction l with
  | nil => simp
  | cons a r ih => simp only [List.map_cons, List.sum_cons, List.length_cons, ih]; rw [Nat.mul_add]; omega
theorem open_script {H : Type} {enc : TypeId × Value → H} {W : World} {v : Value} {d : DataW H} {p : List MemPlace} (h : DataW.Trod enc Try.prog W 0 (fun _ => true) true 22 v d p) (hv : ∃ a l c, v = .slice a l c) :
    ∃ (a : Option Addr) (ns c : Nat) (xs : List StpR), v = .slice a ns c ∧ RowC 7 (fun s : StpR => s.vals.toList) W a xs ∧ (∀ s ∈ xs, s.Ok) ∧ xs.length = ns ∧ 8 * ns ≤ Rows.uptoBulk d := by
  obtain ⟨a, l, c, rfl⟩ := hv
  obtain ⟨fuel, hf⟩ := h
  have hf : DataW.trod enc Try.prog W 0 (fun _ => true) true fuel 22 [.slice a l c] = some (d, p) := by simpa [Value.cells] using hf
  obtain ⟨xs, rfl, h1, h2, h3, _⟩ := open_row (fun s : StpR => s.vals.toList) (fun s _ => s.Ok) (fun _ => 8) Try.underlying22 Try.cellsSt (by omega) (fun s => rfl) (fun fuel cs x h => by obtain ⟨s, q1, q2, q3⟩ := step_cells fuel cs x h; exact ⟨s, q1, q2, q3⟩) hf
  rw [sum_const] at h3
  exact ⟨a, xs.length, c, xs, rfl, h1, fun s hs => by obtain ⟨d, hd⟩ := h2 s hs; exact hd, rfl, by have h3 : 8 * xs.length + 1 ≤ Rows.uptoBulk d := h3; omega⟩
theorem open_keep {H : Type} {enc : TypeId × Value → H} {W : World} {v : Value} {d : DataW H} {p : List MemPlace} (h : DataW.Trod enc Try.prog W 0 (fun _ => true) true 32 v d p) (hv : ∃ a l c, v = .slice a l c) :
    ∃ (a : Option Addr) (nk c : Nat) (zs : List Int), v = .slice a nk c ∧ IntsP W a zs ∧ zs.length = nk ∧ nk ≤ c ∧ nk ≤ Rows.uptoBulk d := by
  obtain ⟨a, l, c, rfl⟩ := hv
  obtain ⟨fuel, hf⟩ := h
  have hf : DataW.trod enc Try.prog W 0 (fun _ => true) true fuel 32 [.slice a l c] = some (d, p) := by simpa [Value.cells] using hf
  rcases open_ints Try.underlying32 Try.underlying3 (by kernel_rfl) hf with ⟨hcs, hx0⟩ | ⟨ad, l', cap, zs, hcs, _, hl, hm, hzl, hx, hcell, hwz⟩
  · simp at hcs
    obtain ⟨rfl, rfl, rfl⟩ := hcs
    exact ⟨none, 0, 0, [], rfl, ⟨by simp, .inl rfl⟩, rfl, Nat.le_refl _, Nat.zero_le _⟩
  · simp at hcs
    obtain ⟨rfl, rfl, rfl⟩ := hcs
    simp only [if_true] at hzl
    have htl : (zs.take l).length = l := by rw [List.length_take]; omega
    refine ⟨some ad, l, c, zs.take l, rfl, ⟨fun z hz => bounds_i64 (hwz z (List.mem_of_mem_take hz)), ?_⟩, htl, hl, ?_⟩
    · by_cases h0 : l = 0
      · subst h0; exact .inl (by simp)
      · obtain ⟨b, off, spot⟩ := ad
        have hc := hcell 0 (by omega)
        have hspot : spot = none := by simpa [Addr.add] using World.cell?_spot hc
        subst hspot
        refine .inr ⟨b, off, rfl, World.block_lt_of_cell? _ _ hc, fun i y hy => ?_⟩
        have hi : i < l := by
          have := (List.getElem?_eq_some_iff.1 hy).1
          omega
        rw [List.getElem?_take, if_pos hi] at hy
        have h1 := hcell i (by omega)
        have e : (⟨b, off, none⟩ : Addr).add i = ⟨b, off + i, none⟩ := by simp [Addr.add]
        rw [e] at h1
        rw [h1, List.getD_eq_getElem?_getD, hy]
        rfl
    · simp only [Prod.mk.injEq] at hx
      rw [hx.1]
      have h5 := bulk_len (H := H) (lits .i64 (zs.take l))
      have h6 : (lits (H := H) .i64 (zs.take l)).length = l := by simp [lits]; omega
      simp only [Rows.uptoBulk]
      omega
end Go.Proofs.Ytmgeokmgidnneaa
namespace Go.Proofs.Ytmgeokmgidnneaa
open Go.ChangeShapes Go.WideShapes Go.ChangeAt Go.RowKit
set_option linter.unusedVariables false
theorem trod_len {H : Type} {enc : TypeId × Value → H} {W : World} {t e : TypeId} {a : Option Addr} {l c : Nat} {d : DataW H} {p : List MemPlace} (ht : Try.prog.underlying t = some (.slice e)) (h : DataW.Trod enc Try.prog W 0 (fun _ => true) true t (.slice a l c) d p)
    (hz : ∀ el sp, d = .slice el sp → (el.length + sp.length) * Try.prog.bytesOf e ≤ reachBytes) : l * Try.prog.bytesOf e ≤ reachBytes := by
  obtain ⟨fuel, hf⟩ := h
  have hf : DataW.trod enc Try.prog W 0 (fun _ => true) true fuel t [.slice a l c] = some (d, p) := by simpa [Value.cells] using hf
  rcases Go.Deep.open_slice ht hf with ⟨hcs, hx0⟩ | ⟨ad, l', c', m, n, D, Pl, hcs, _, hl, hm, hmm, hx, hele⟩
  · simp at hcs
    obtain ⟨rfl, rfl, rfl⟩ := hcs
    simp
  · simp at hcs
    obtain ⟨rfl, rfl, rfl⟩ := hcs
    simp only [Prod.mk.injEq] at hx
    have h5 := hz _ _ hx.1
    simp only [List.length_map, List.length_range] at h5
    exact Nat.le_trans (Nat.mul_le_mul_right _ (Nat.le_add_right _ _)) h5
theorem len_steps {l : Nat} (h : l * Try.prog.bytesOf 59 ≤ reachBytes) : l ≤ 1353300000000 := by
  have e : Try.prog.bytesOf 59 = 104 := by kernel_rfl
  have e2 : reachBytes = 140737488351232 := by decide
  rw [e, e2] at h; omega
theorem len_nums {l : Nat} (h : l * Try.prog.bytesOf 3 ≤ reachBytes) : l ≤ 17592186043904 := by
  have e : Try.prog.bytesOf 3 = 8 := by kernel_rfl
  have e2 : reachBytes = 140737488351232 := by decide
  rw [e, e2] at h; omega
end Go.Proofs.Ytmgeokmgidnneaa
namespace Go.Proofs.Ytmgeokmgidnneaa.pmemFresh
open Go.ChangeShapes Go.WideShapes Go.ChangeAt Go.RowKit Go.Proofs.Ytmgeokmgidnneaa
set_option linter.unusedVariables false

set_option maxRecDepth 100000 in
theorem lifted (os : Os) (started : os.Started) (H : Type) (enc : TypeId × Value → H) :
    ReturnsInHanded {} Try.checked os 3 .any (Rows.pmemFreshSpec.pre6 enc Try.prog Try.f3 Rows.pmemFreshRow.domain false) (Rows.pmemFreshSpec.post enc Try.prog Try.f3 false true false false) := by
  refine returnsInHanded_of_change_sized (C := Try.checked) own started (by kernel_rfl) Try.func3
    (ChangeSpec.witness6 (enc := enc) (C := Try.checked) false ⟨#[], #[.int .i64 0, .slice none 0 0, .int .i64 0], []⟩ 8 (by kernel_rfl) (by kernel_rfl) (by kernel_rfl) (by kernel_rfl)) ?_
  intro W base args ds gs before hval0 hW hcnd hsz0 _
  have hval : ∀ (j : Nat) t v, Try.f3.params[j]? = some t → args[j]? = some v → Value.okWide Try.prog W .any base t v := hval0
  have hsz : (DataW.weightsEach Try.prog (Try.f3.params.toList ++ Rows.pmemFreshSpec.plain.varTypes Try.prog) (ds ++ gs)).all (· ≤ reachBytes) = true := hsz0
  have hW' := hW
  obtain ⟨p, q, hA0, hV, rfl, hfz, hnd⟩ := hW
  have hA : DataW.TrodAll enc Try.prog W 0 (fun _ => true) true Try.f3.params.toList args.toList ds p := hA0
  rw [Try.params3] at hA hval hsz
  obtain ⟨v0, vs0, d0, ds0, p0, q0, hargs, rfl, rfl, h0, r0⟩ := trodAll_cons hA
  obtain ⟨v1, vs1, d1, ds1, p1, q1, rfl, rfl, rfl, h1, r1⟩ := trodAll_cons r0
  obtain ⟨v2, vs2, d2, ds2, p2, q2, rfl, rfl, rfl, h2, r2⟩ := trodAll_cons r1
  obtain ⟨rfl, rfl, rfl⟩ := trodAll_nil r2
  obtain rfl : args = #[v0, v1, v2] := by cases args; simp_all
  obtain ⟨rfl, rfl⟩ := trodVars_none hV
  obtain ⟨a0, rfl, rfl, rfl, w0⟩ := open_int Try.underlying3 (hval 0 3 v0 rfl rfl) h0
  have b0 := bounds_i64 w0
  have k1 := h1
  have lt1 : ∀ x ∈ p1, x.block < W.heap.size := by obtain ⟨m, hm⟩ := k1; exact DataW.trod_lt m _ _ _ hm
  obtain ⟨sa1, ns1, sc1, xs1, rfl, row1, sok1, sln1, sbk1⟩ := open_script h1 (by obtain ⟨a, l, c, e⟩ := okWide_slice Try.underlying22 (hval 1 22 v1 rfl rfl); exact ⟨a, l, c, e⟩)
  have z1 := len_steps (trod_len Try.underlying22 k1 (fun el sp hd => by subst hd; exact sized_slice hsz (j := 1) (t := 22) (e := 59) rfl rfl Try.underlying22))
  obtain ⟨a2, rfl, rfl, rfl, w2⟩ := open_int Try.underlying3 (hval 2 3 v2 rfl rfl) h2
  have b2 := bounds_i64 w2
  clear hval0
  clear hA0
  refine (pmemFresh_walk W a0 a2 sa1 sc1 ns1 xs1 b0 b2 ⟨row1, sok1, sln1, z1⟩).mono fun e W' ⟨he, bel⟩ => ?_
  subst he
  exact ⟨_, rfl, _, _, _, [], _, [], hW', trodAll_mk1 (shut_bool Try.underlying4 _), (trodAll_cons_mk (shut_int Try.underlying3 w0) (trodAll_cons_mk (Below.trod laidOut (by kernel_rfl) (of_decide_eq_true (by kernel_rfl)) k1 bel lt1) (trodAll_cons_mk (shut_int Try.underlying3 w2) trodAll_mk0))), rfl, bel.frame _, fun h => by cases h⟩

theorem over : Rows.pmemFreshRow.holds Try.pinned (OpenSpec.ofChange Rows.pmemFreshSpec) :=
  OpenClaim.holds_of_wide 3 Try.f3 rfl rfl rfl rfl rfl rfl rfl ⟨rfl, rfl, rfl, rfl, rfl⟩ rfl rfl rfl rfl rfl (by kernel_rfl) Try.func3 (by kernel_rfl)
    (of_decide_eq_true (by kernel_rfl)) (by unfold Func.isWrapper; first | (rw [if_pos (by decide +kernel)]; kernel_rfl) | (rw [if_neg (by decide +kernel)]; exact ⟨rfl, rfl⟩))
    (fun os started H enc _ => lifted os started H enc)

end Go.Proofs.Ytmgeokmgidnneaa.pmemFresh

namespace Go.Proofs.Ytmgeokmgidnneaa
/-- PmemFresh, as it is stated. -/
theorem pmemFresh_holds : Rows.PmemFreshSaid := pmemFresh.over
#print axioms pmemFresh_holds
end Go.Proofs.Ytmgeokmgidnneaa
