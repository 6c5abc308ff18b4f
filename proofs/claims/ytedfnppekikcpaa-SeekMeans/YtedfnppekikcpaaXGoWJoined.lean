/- Package seek, the statements' own: goes. -/
import Derived.Test.YtedfnppekikcpaaXGoAJoined
import Derived.Deep.DeepCutAuto
namespace Go.Proofs.Ytedfnppekikcpaa
open Go.RowKit Go.Shelf
set_option linter.unusedVariables false
set_option linter.unusedSimpArgs false

theorem goR_cons (b : Bt) (bs : List Bt) (cs : List (Nat × Nat × Nat)) (i n k : Nat) : goR (b :: bs) cs i n k = nxR b.2.2 (fun m => fitE b (cs.getD (i + m) (0, 0, 0))) (goR bs cs i n) (n - k) k := rfl
theorem nx_last {how : Nat} {ft row : Nat → Bool} (k : Nat) : nxR how ft row 0 k = if how = 1 ∨ how = 2 then row k else false := by rw [nxR]
theorem nx_step {how : Nat} {ft row : Nat → Bool} {n k : Nat} (h : k < n) : nxR how ft row (n - k) k = (if how = 0 then ft k && row (k + 1) else if how = 1 then row k || (ft k && row (k + 1)) else if how = 2 then row k || (ft k && nxR how ft row (n - (k + 1)) (k + 1)) else ft k && (row (k + 1) || nxR how ft row (n - (k + 1)) (k + 1))) := by
  have : n - k = (n - (k + 1)) + 1 := by omega
  rw [this, nxR]
set_option maxRecDepth 100000 in
set_option maxHeartbeats 4000000 in
theorem goes_any (bs : List Bt) (ga : Option Addr) (gc : Nat) (cs : List (Nat × Nat × Nat)) (ca : Option Addr) (cc : Nat) (w : World) (hb : SlBt w ga bs) (hc : SlC w ca cs) (i j : Nat) (hij : i ≤ j) (hj : j ≤ cs.length) (hcs : cs.length ≤ 1000) (hbs : bs.length ≤ 20) (hhow : ∀ b ∈ bs, b.2.2 < 4) :
    Calls Try.prog 9 #[.slice ga bs.length gc, .slice ca cs.length cc, .int .i64 (i : Int), .int .i64 (j : Int)] w fun e w' => e = .returned (.bool (goV bs cs i j)) ∧ Below w.heap.size w w' := by
  obtain ⟨n, hn⟩ : ∃ n, j - i = n := ⟨_, rfl⟩
  have hji : (j : Int) - (i : Int) = (n : Int) := by omega
  have mk : ∀ W : World, (Instr.makeSlice 60 (.int .i64 ((n : Int) + 1)) (.int .i64 ((n : Int) + 1))).run Try.prog W = .ok (.slice (some ⟨W.heap.size, 0, none⟩) (n + 1) (n + 1)) (W.alloc (.cells (madeCells #[.bool false] (n + 1)) 4)) := fun W => by
    have k := run_make_row' (P := Try.prog) 60 4 (.bool false) 1 Try.underlying60 Try.infoBool rfl .i64 .i64 (n + 1) (by omega) (by omega) W
    rwa [show ((n + 1 : Nat) : Int) = (n : Int) + 1 by omega] at k
  have HBT := hide hb
  have HCT := hide hc
  have HOW := hide hhow
  have hnI : (n : Int) ≤ 1000 := by omega
  have hnn : (0 : Int) ≤ (n : Int) := by omega
  have hbI : (bs.length : Int) ≤ 20 := by omega
  have HN := hide hn
  have r0 := (RowB.make w n).set (Nat.le_refl n) true
  have f0 := (RowB.make w n).frz n
  have c0 := (RowB.make w n).cell (Nat.le_refl n)
  have hB0 : Below w.heap.size w (w.alloc (.cells (madeCells #[.bool false] (n + 1)) 4)) := (Below.refl _ w).alloc (Nat.le_refl _) _
  have R0 := hide r0
  have HB0 := hide hB0
  have MK := hide mk
  have HIN : Hid (i + n ≤ cs.length) := by show _ ≤ _; omega
  clear hb hc hhow hn r0 hB0 hij hj
  go_enter Try.func9, Try.ntmps9
  go_upto_region 3 with (fail)
  generalize w.alloc (.cells (madeCells #[.bool false] (n + 1)) 4) = X0 at *
  go_upto_region 4 with (fail)
  have hBX : Below w.heap.size w (X0.setCell ⟨w.heap.size, n, none⟩ (.bool true)) := HB0.out.setCell (p := ⟨w.heap.size, n, none⟩) (Nat.le_refl _) _
  have hRX : RowB (X0.setCell ⟨w.heap.size, n, none⟩ (.bool true)) w.heap.size n (goR (bs.drop bs.length) cs i n) := R0.out.congr fun m hm => by
    rw [List.drop_length]
    show _ = decide (m = n)
    by_cases e : m = n
    · rw [if_pos e, decide_eq_true e]
    · rw [if_neg e, decide_eq_false e]
  have HBX := hide hBX
  have HRX := hide hRX
  clear hBX hRX f0 c0 HB0 R0
  generalize X0.setCell ⟨w.heap.size, n, none⟩ (.bool true) = X at *
  go_wp2_with (fail)
  go_loopw [10, 11] (fun rv pv wr => ∃ R t : Nat, pv = .int .i64 ((t : Int) - 1) ∧ rv = .slice (some ⟨R, 0, none⟩) (n + 1) (n + 1) ∧ t ≤ bs.length ∧ w.heap.size ≤ R ∧ RowB wr R n (goR (bs.drop t) cs i n) ∧ Below w.heap.size w wr) (fun _ pv _ => (intOf pv + 1).toNat)
  case atStart => exact ⟨w.heap.size, bs.length, by first | rfl | simp, rfl, Nat.le_refl _, Nat.le_refl _, HRX.out, HBX.out⟩
  case round =>
    obtain ⟨R, t, rfl, rfl, ht, hRw, hrow, hB⟩ := hrel
    have HROW := hide hrow
    have HB := hide hB
    have HRW := hide hRw
    have HT := hide ht
    clear hrow hB HBX HRX
    by_cases h0 : t = 0
    · subst h0
      have hneg : ((0 : Nat) : Int) - 1 < 0 := by omega
      have c0 := HROW.out.cell (Nat.zero_le n)
      go_wp2_with (fail)
      go_ret
      refine ⟨?_, HB.out⟩
      have : goV bs cs i j = goR (bs.drop 0) cs i n 0 := by unfold goV; rw [HN.out, List.drop_zero]
      rw [this]
      rfl
    · obtain ⟨p, hp⟩ : ∃ p, t = p + 1 := ⟨t - 1, by omega⟩
      subst hp
      have hpp : ((p + 1 : Nat) : Int) - 1 = (p : Int) := by omega
      rw [hpp]
      obtain ⟨b, hbp⟩ : ∃ b, bs[p]? = some b := ⟨_, List.getElem?_eq_getElem (by omega)⟩
      have hdrop : bs.drop p = b :: bs.drop (p + 1) := by
        have hl : p < bs.length := by omega
        rw [List.drop_eq_getElem_cons hl]
        congr 1
        have := List.getElem?_eq_getElem hl
        rw [hbp] at this
        exact (Option.some.inj this).symm
      have hbh := HOW.out b (List.mem_of_getElem? hbp)
      obtain ⟨g, rfl, hgl, hgc⟩ : ∃ g, ga = some ⟨g, 0, none⟩ ∧ g < w.heap.size ∧ (w.cell? ⟨g, p * 3, none⟩ = some (.int .i32 b.1) ∧ w.cell? ⟨g, p * 3 + 1, none⟩ = some (.bool b.2.1) ∧ w.cell? ⟨g, p * 3 + 2, none⟩ = some (.int .i64 (b.2.2 : Int))) := by
        rcases HBT.out with h | ⟨g, ha, hl, hs⟩
        · rw [h] at hbp; simp at hbp
        · exact ⟨g, ha, hl, hs p b hbp⟩
      obtain ⟨f, hf⟩ : ∃ f, f = goR (bs.drop (p + 1)) cs i n := ⟨_, rfl⟩
      have hnx : ∀ k, goR (bs.drop p) cs i n k = nxR b.2.2 (fun m => fitE b (cs.getD (i + m) (0, 0, 0))) f (n - k) k := fun k => by rw [hdrop, goR_cons, hf]
      rw [← hf] at HROW
      have HNX := hide hnx
      have HGC := hide hgc
      have HPB : Hid (p < bs.length) := by show _ < _; omega
      have hpI : (p : Int) < (bs.length : Int) := by omega
      have hM0 : ¬ ((p : Int) < 0) := by omega
      clear hnx hdrop hf hbp hpp hgc
      obtain ⟨ft, hft⟩ : ∃ ft : Nat → Bool, ft = fun m => fitE b (cs.getD (i + m) (0, 0, 0)) := ⟨_, rfl⟩
      rw [← hft] at HNX
      have HFT := hide hft
      clear hft
      go_upto_region 8 with (fail)
      have hbM := HB.out.alloc HB.out.size (.cells (madeCells #[.bool false] (n + 1)) 4)
      have hrM := RowB.make wr n
      have hrR := HROW.out.below ((Below.refl _ wr).alloc (Nat.le_refl _) (.cells (madeCells #[.bool false] (n + 1)) 4))
      have hRM := HROW.out.lt
      have HMW := hide (HB.out.size)
      obtain ⟨M, hM⟩ : ∃ M, wr.heap.size = M := ⟨_, rfl⟩
      rw [hM] at hrM hRM HMW ⊢
      have HRM := hide hRM
      have HBM := hide hbM
      have HM := hide hrM
      have HR := hide hrR
      clear hbM hrM hrR hRM hM HB HROW
      generalize wr.alloc (.cells (madeCells #[.bool false] (n + 1)) 4) = X1 at *
      go_wp2_with (fail)
      go_loopw [13] (fun kv wr => ∃ K : Nat, kv = .int .i64 ((K : Int) - 1) ∧ K ≤ n + 1 ∧ RowB wr M n (fun m => decide (K ≤ m) && nxR b.2.2 ft f (n - m) m) ∧ RowB wr R n f ∧ Below w.heap.size w wr) (fun kv _ => (intOf kv + 1).toNat)
      case atStart =>
        refine ⟨n + 1, by rw [show (((n + 1 : Nat) : Int) - 1) = (n : Int) by omega], Nat.le_refl _, HM.out.congr fun m hm => ?_, HR.out, HBM.out⟩
        have h9 : decide (n + 1 ≤ m) = false := decide_eq_false (by omega)
        simp [h9]
      case round =>
        obtain ⟨K, rfl, hK, hm, hr, hB⟩ := hrel
        replace HM := hide hm
        replace HR := hide hr
        replace HBM := hide hB
        clear hm hr hB
        by_cases hK0 : K = 0
        · subst hK0
          have hneg : ((0 : Nat) : Int) - 1 < 0 := by omega
          go_wp2_with (fail)
          go_roundw
          case rel =>
            refine ⟨M, p, by go_num, rfl, by have := HPB.out; omega, HMW.out, HM.out.congr fun m hm => ?_, HBM.out⟩
            rw [HNX.out m, decide_eq_true (Nat.zero_le m), Bool.true_and]
          case measure => (simp [intOf]) <;> omega
        · obtain ⟨k, hk⟩ : ∃ k, K = k + 1 := ⟨K - 1, by omega⟩
          subst hk
          have hkk : ((k + 1 : Nat) : Int) - 1 = (k : Int) := by omega
          rw [hkk]
          have hkn : k ≤ n := by omega
          have hknI : (k : Int) ≤ (n : Int) := by omega
          have hkp : ¬ ((k : Int) < 0) := by omega
          obtain ⟨e0, e1, e2⟩ := HGC.out
          have l0 := (HBM.out.cell (p := ⟨g, p * 3, none⟩) hgl).trans e0
          have l1 := (HBM.out.cell (p := ⟨g, p * 3 + 1, none⟩) hgl).trans e1
          have l2 := (HBM.out.cell (p := ⟨g, p * 3 + 2, none⟩) hgl).trans e2
          clear e0 e1 e2
          obtain ⟨br, ba, bh⟩ := b
          simp only at l0 l1 l2 hbh
          go_upto_region 12 with (fail)
          have hbB := HBM.out.alloc HBM.out.size (.cells #[.int .i32 br, .bool ba, .int .i64 (bh : Int)] 42)
          have bsub : Below wr.heap.size wr (wr.alloc (.cells #[.int .i32 br, .bool ba, .int .i64 (bh : Int)] 42)) := (Below.refl _ wr).alloc (Nat.le_refl _) _
          have hmB := HM.out.below bsub
          have hrB := HR.out.below bsub
          have h1 := heap_alloc_new wr (.cells #[.int .i32 br, .bool ba, .int .i64 (bh : Int)] 42)
          have hMlt := HM.out.lt
          obtain ⟨B, hBq⟩ : ∃ B, wr.heap.size = B := ⟨_, rfl⟩
          rw [hBq] at h1 hMlt ⊢
          obtain ⟨d0, d1, d2, df⟩ := box3_facts h1
          have H1 := hide h1
          replace HBM := hide hbB
          replace HM := hide hmB
          replace HR := hide hrB
          have HMB : Hid (M ≠ B) := by show _ ≠ _; omega
          clear hbB bsub hmB hrB h1 hMlt hBq l0 l1 l2
          generalize wr.alloc (.cells #[.int .i32 br, .bool ba, .int .i64 (bh : Int)] 42) = Y at *
          by_cases hlt : k < n
          · have hltI : (k : Int) < (n : Int) := by omega
            have hcl : i + k < cs.length := by have := HIN.out; omega
            obtain ⟨e, he⟩ : ∃ e, cs[i + k]? = some e := ⟨_, List.getElem?_eq_getElem hcl⟩
            have hge : cs.getD (i + k) (0, 0, 0) = e := by simp [List.getD, he]
            have hfk : ft k = fitE (br, ba, bh) e := by rw [HFT.out]; show fitE _ (cs.getD (i + k) (0, 0, 0)) = _; rw [hge]
            obtain ⟨cb, rfl, hcbl, q0, q1, q2, q3⟩ : ∃ cb, ca = some ⟨cb, 0, none⟩ ∧ cb < w.heap.size ∧ w.cell? ⟨cb, (i + k) * 4, none⟩ = some (.int .i64 (e.1 : Int)) ∧ w.cell? ⟨cb, (i + k) * 4 + 1, none⟩ = some (.int .i32 (e.2.1 : Int)) ∧ w.cell? ⟨cb, (i + k) * 4 + 2, none⟩ = some (.int .i64 (e.2.2 : Int)) ∧ w.cell? ⟨cb, (i + k) * 4 + 3, none⟩ = some (.bool (rightE e)) := by
              rcases HCT.out with h | ⟨cb, ha, hl, hs⟩
              · rw [h] at he; simp at he
              · exact ⟨cb, ha, hl, hs (i + k) e he⟩
            have kf := fun W => fits_any (br, ba, bh) e W
            rw [← hfk] at kf
            simp only at kf
            generalize rightE e = re at *
            obtain ⟨ea, er, ew⟩ := e
            simp only at kf q0 q1 q2
            have KF := hide kf
            have hik : (i : Int) + (k : Int) = ((i + k : Nat) : Int) := by push_cast; rfl
            have hikI : ((i + k : Nat) : Int) < (cs.length : Int) := by omega
            have l0 := (HBM.out.cell (p := ⟨cb, (i + k) * 4, none⟩) hcbl).trans q0
            have l1 := (HBM.out.cell (p := ⟨cb, (i + k) * 4 + 1, none⟩) hcbl).trans q1
            have l2 := (HBM.out.cell (p := ⟨cb, (i + k) * 4 + 2, none⟩) hcbl).trans q2
            have l3 := (HBM.out.cell (p := ⟨cb, (i + k) * 4 + 3, none⟩) hcbl).trans q3
            clear he hge hfk kf q0 q1 q2 q3
            have hBl : B < Y.heap.size := (Array.getElem?_eq_some_iff.1 H1.out).1
            have hcY : cb < Y.heap.size := Nat.lt_of_lt_of_le hcbl HBM.out.size
            have mkS : ∀ W : World, Below Y.heap.size Y W → (Below Y.heap.size Y W ∧ W.cell? ⟨B, 0, none⟩ = some (.int .i32 br) ∧ W.cell? ⟨B, 1, none⟩ = some (.bool ba) ∧ W.cell? ⟨B, 2, none⟩ = some (.int .i64 (bh : Int)) ∧ W.cell? ⟨cb, (i + k) * 4, none⟩ = some (.int .i64 (ea : Int)) ∧ W.cell? ⟨cb, (i + k) * 4 + 1, none⟩ = some (.int .i32 (er : Int)) ∧ W.cell? ⟨cb, (i + k) * 4 + 2, none⟩ = some (.int .i64 (ew : Int)) ∧ W.cell? ⟨cb, (i + k) * 4 + 3, none⟩ = some (.bool re)) := fun W hW => ⟨hW, (hW.cell (p := ⟨B, 0, none⟩) hBl).trans d0, (hW.cell (p := ⟨B, 1, none⟩) hBl).trans d1, (hW.cell (p := ⟨B, 2, none⟩) hBl).trans d2, (hW.cell (p := ⟨cb, (i + k) * 4, none⟩) hcY).trans l0, (hW.cell (p := ⟨cb, (i + k) * 4 + 1, none⟩) hcY).trans l1, (hW.cell (p := ⟨cb, (i + k) * 4 + 2, none⟩) hcY).trans l2, (hW.cell (p := ⟨cb, (i + k) * 4 + 3, none⟩) hcY).trans l3⟩
            have MKS := hide mkS
            have hik0 : (0 : Int) ≤ (i : Int) + (k : Int) := by omega
            have hik1 : (i : Int) + (k : Int) < (cs.length : Int) := by omega
            have hikN : ((i : Int) + (k : Int)).toNat = i + k := by omega
            have hcsI : (cs.length : Int) ≤ 1000 := by omega
            clear mkS l0 l1 l2 l3 d0 d1 d2 hik hikI hBl hcY
            refine wp_region_held_drew (S := fun W => Below Y.heap.size Y W ∧ W.cell? ⟨B, 0, none⟩ = some (.int .i32 br) ∧ W.cell? ⟨B, 1, none⟩ = some (.bool ba) ∧ W.cell? ⟨B, 2, none⟩ = some (.int .i64 (bh : Int)) ∧ W.cell? ⟨cb, (i + k) * 4, none⟩ = some (.int .i64 (ea : Int)) ∧ W.cell? ⟨cb, (i + k) * 4 + 1, none⟩ = some (.int .i32 (er : Int)) ∧ W.cell? ⟨cb, (i + k) * 4 + 2, none⟩ = some (.int .i64 (ew : Int)) ∧ W.cell? ⟨cb, (i + k) * 4 + 3, none⟩ = some (.bool re)) (by kernel_rfl) (MKS.out _ (Below.refl _ Y).drew) (fun hS => ?_)
            refine wpAnyH_take (i := 0) (v := (.int .i64 (k : Int))) rfl (by kernel_rfl) (by kernel_rfl) (by kernel_rfl) (fun _ _ _ h => h) (Or.inl ⟨by kernel_rfl, fun w' hw => by (obtain ⟨_, z0, z1, z2, z3, z4, z5, z6⟩ := hw; go_simp)⟩) hS ?_
            refine wpAnyH_take (i := 1) (v := (.int .i64 (n : Int))) rfl (by kernel_rfl) (by kernel_rfl) (by kernel_rfl) (fun _ _ _ h => h) (Or.inl ⟨by kernel_rfl, fun w' hw => by (obtain ⟨_, z0, z1, z2, z3, z4, z5, z6⟩ := hw; go_simp)⟩) hS ?_
            refine wpAnyH_take (i := 2) (v := (.bool true)) rfl (by kernel_rfl) (by kernel_rfl) (by kernel_rfl) (fun _ _ _ h => h) (Or.inl ⟨by kernel_rfl, fun w' hw => by (obtain ⟨_, z0, z1, z2, z3, z4, z5, z6⟩ := hw; go_simp)⟩) hS ?_
            refine wpAnyH_take (i := 3) (v := (.bool true)) rfl (by kernel_rfl) (by kernel_rfl) (by kernel_rfl) (fun _ _ _ h => h) (Or.inl ⟨by kernel_rfl, fun w' hw => by (obtain ⟨_, z0, z1, z2, z3, z4, z5, z6⟩ := hw; go_simp)⟩) hS ?_
            refine wpAnyH_take (i := 4) (v := (.agg #[.int .i32 br, .bool ba, .int .i64 (bh : Int)])) rfl (by kernel_rfl) (by kernel_rfl) (by kernel_rfl) (fun _ _ _ h => h) (Or.inl ⟨by kernel_rfl, fun w' hw => by (obtain ⟨_, z0, z1, z2, z3, z4, z5, z6⟩ := hw; go_simp)⟩) hS ?_
            refine wpAnyH_take (i := 5) (v := (.slice (some ⟨cb, 0, none⟩) cs.length cc)) rfl (by kernel_rfl) (by kernel_rfl) (by kernel_rfl) (fun _ _ _ h => h) (Or.inl ⟨by kernel_rfl, fun w' hw => by (obtain ⟨_, z0, z1, z2, z3, z4, z5, z6⟩ := hw; go_simp)⟩) hS ?_
            refine wpAnyH_take (i := 6) (v := (.int .i64 (i : Int))) rfl (by kernel_rfl) (by kernel_rfl) (by kernel_rfl) (fun _ _ _ h => h) (Or.inl ⟨by kernel_rfl, fun w' hw => by (obtain ⟨_, z0, z1, z2, z3, z4, z5, z6⟩ := hw; go_simp)⟩) hS ?_
            refine wpAnyH_take (i := 7) (v := (.int .i64 (k : Int))) rfl (by kernel_rfl) (by kernel_rfl) (by kernel_rfl) (fun _ _ _ h => h) (Or.inl ⟨by kernel_rfl, fun w' hw => by (obtain ⟨_, z0, z1, z2, z3, z4, z5, z6⟩ := hw; go_simp)⟩) hS ?_
            refine wpAnyH_take (i := 8) (v := (.int .i64 ((i : Int) + (k : Int)))) rfl (by kernel_rfl) (by kernel_rfl) (by kernel_rfl) (fun _ _ _ h => h) (Or.inl ⟨by kernel_rfl, fun w' hw => by (obtain ⟨_, z0, z1, z2, z3, z4, z5, z6⟩ := hw; go_simp; rw [IntKind.wrap_i64]; omega)⟩) hS ?_
            refine wpAnyH_take (i := 9) (v := (.pointer (some ⟨cb, (i + k) * 4, none⟩))) rfl (by kernel_rfl) (by kernel_rfl) (by kernel_rfl) (fun _ _ _ h => h) (Or.inl ⟨by kernel_rfl, fun w' hw => by (obtain ⟨_, z0, z1, z2, z3, z4, z5, z6⟩ := hw; go_simp)⟩) hS ?_
            refine wpAnyH_take (i := 10) (v := (.agg #[.int .i64 (ea : Int), .int .i32 (er : Int), .int .i64 (ew : Int), .bool re])) rfl (by kernel_rfl) (by kernel_rfl) (by kernel_rfl) (fun _ _ _ h => h) (Or.inl ⟨by kernel_rfl, fun w' hw => by (obtain ⟨_, z0, z1, z2, z3, z4, z5, z6⟩ := hw; go_simp)⟩) hS ?_
            refine wpAnyH_ready (rs := [11]) (by kernel_rfl) (by simp) ?_
            refine AllReadyH.cons rfl (fun K hK => ?_) AllReadyH.nil
            rw [if_pos (by kernel_rfl)]
            go_simp
            go_wp2_with (go_at_call 18; refine (KF.out _).mono ?_; rintro e' x1 ⟨rfl, hb⟩; have HX := hide (bseq (Below.refl _ Y).drew hb : Below Y.heap.size Y x1); clear hb)
            refine hK.out _ _ (MKS.out _ HX.out) (fun hS2 => ?_)
            clear hK K
            refine wpAnyH_take (i := 12) (v := (.bool (ft k))) rfl (by kernel_rfl) (by kernel_rfl) (by kernel_rfl) (fun _ _ _ h => h) (Or.inl ⟨by kernel_rfl, fun w' hw => by (obtain ⟨_, z0, z1, z2, z3, z4, z5, z6⟩ := hw; go_simp)⟩) hS2 ?_
            refine wpAnyH_take (i := 13) (v := (.bool (ft k))) rfl (by kernel_rfl) (by kernel_rfl) (by kernel_rfl) (fun _ _ _ h => h) (Or.inl ⟨by kernel_rfl, fun w' hw => by (obtain ⟨_, z0, z1, z2, z3, z4, z5, z6⟩ := hw; go_simp)⟩) hS2 ?_
            refine wpAnyH_done (by kernel_rfl) ?_ _
            simp only [Act.put, List.getElem_toArray, List.getElem_cons_zero, List.getElem_cons_succ, List.setIfInBounds_toArray, List.set_cons_zero, List.set_cons_succ]
            have h1x := (HX.out.block B (Array.getElem?_eq_some_iff.1 H1.out).1).trans H1.out
            obtain ⟨d0, d1, d2, df⟩ := box3_facts h1x
            replace HM := hide (HM.out.below HX.out)
            replace HR := hide (HR.out.below HX.out)
            replace HBM := hide (bseq HBM.out HX.out)
            clear hS hS2 h1x d0 d1 df HX MKS hik0 hik1 hikN KF
            have m0 := HM.out.cell hkn
            have m1 := HM.out.cell (show k + 1 ≤ n by omega)
            have mz := HM.out.frz k
            have r0 := HR.out.cell hkn
            have r1 := HR.out.cell (show k + 1 ≤ n by omega)
            have hd1 : decide (k + 1 ≤ k + 1) = true := decide_eq_true (Nat.le_refl _)
            simp only [hd1, Bool.true_and] at m1
            obtain ⟨N1, hN1⟩ : ∃ N1, N1 = nxR bh ft f (n - (k + 1)) (k + 1) := ⟨_, rfl⟩
            rw [← hN1] at m1
            obtain ⟨F0, hF0⟩ : ∃ F0, F0 = f k := ⟨_, rfl⟩
            obtain ⟨F1, hF1⟩ : ∃ F1, F1 = f (k + 1) := ⟨_, rfl⟩
            obtain ⟨V0, hV0⟩ : ∃ V0, V0 = ft k := ⟨_, rfl⟩
            rw [← hF0] at r0
            rw [← hF1] at r1
            rw [← hV0]
            have hst : nxR bh ft f (n - k) k = (if bh = 0 then V0 && F1 else if bh = 1 then F0 || (V0 && F1) else if bh = 2 then F0 || (V0 && N1) else V0 && (F1 || N1)) := by rw [nx_step hlt, hN1, hF0, hF1, hV0]
            have HST := hide hst
            clear hN1 hF0 hF1 hV0 hst hd1
            have hk1I : (k : Int) + 1 < (n : Int) + 1 := by omega
            rcases (show bh = 0 ∨ bh = 1 ∨ bh = 2 ∨ bh = 3 by omega) with rfl | rfl | rfl | rfl
            · cases V0
              all_goals (
                go_wp2_with (fail)
                go_roundw
                case rel =>
                  refine ⟨k, by go_num, by omega, (HM.out.set hkn _).congr fun m hm => ?_, HR.out.other (by have := HRM.out; omega), HBM.out.setCell (p := ⟨M, k, none⟩) HMW.out _⟩
                  by_cases em : m = k
                  · subst em
                    rw [if_pos rfl, HST.out, decide_eq_true (Nat.le_refl _)]
                    simp
                  · rw [if_neg em]
                    by_cases e2 : k ≤ m
                    · rw [decide_eq_true (by omega : k + 1 ≤ m), decide_eq_true e2]
                    · rw [decide_eq_false (by omega : ¬ k + 1 ≤ m), decide_eq_false e2]
                case measure => (simp [intOf]) <;> omega)
            · cases V0 <;> cases F0
              all_goals (
                go_wp2_with (fail)
                go_roundw
                case rel =>
                  refine ⟨k, by go_num, by omega, (HM.out.set hkn _).congr fun m hm => ?_, HR.out.other (by have := HRM.out; omega), HBM.out.setCell (p := ⟨M, k, none⟩) HMW.out _⟩
                  by_cases em : m = k
                  · subst em
                    rw [if_pos rfl, HST.out, decide_eq_true (Nat.le_refl _)]
                    simp
                  · rw [if_neg em]
                    by_cases e2 : k ≤ m
                    · rw [decide_eq_true (by omega : k + 1 ≤ m), decide_eq_true e2]
                    · rw [decide_eq_false (by omega : ¬ k + 1 ≤ m), decide_eq_false e2]
                case measure => (simp [intOf]) <;> omega)
            · cases V0 <;> cases F0
              all_goals (
                go_wp2_with (fail)
                go_roundw
                case rel =>
                  refine ⟨k, by go_num, by omega, (HM.out.set hkn _).congr fun m hm => ?_, HR.out.other (by have := HRM.out; omega), HBM.out.setCell (p := ⟨M, k, none⟩) HMW.out _⟩
                  by_cases em : m = k
                  · subst em
                    rw [if_pos rfl, HST.out, decide_eq_true (Nat.le_refl _)]
                    simp
                  · rw [if_neg em]
                    by_cases e2 : k ≤ m
                    · rw [decide_eq_true (by omega : k + 1 ≤ m), decide_eq_true e2]
                    · rw [decide_eq_false (by omega : ¬ k + 1 ≤ m), decide_eq_false e2]
                case measure => (simp [intOf]) <;> omega)
            · cases V0 <;> cases F1
              all_goals (
                go_wp2_with (fail)
                go_roundw
                case rel =>
                  refine ⟨k, by go_num, by omega, (HM.out.set hkn _).congr fun m hm => ?_, HR.out.other (by have := HRM.out; omega), HBM.out.setCell (p := ⟨M, k, none⟩) HMW.out _⟩
                  by_cases em : m = k
                  · subst em
                    rw [if_pos rfl, HST.out, decide_eq_true (Nat.le_refl _)]
                    simp
                  · rw [if_neg em]
                    by_cases e2 : k ≤ m
                    · rw [decide_eq_true (by omega : k + 1 ≤ m), decide_eq_true e2]
                    · rw [decide_eq_false (by omega : ¬ k + 1 ≤ m), decide_eq_false e2]
                case measure => (simp [intOf]) <;> omega)
          · obtain rfl : k = n := by omega
            have hd0 : decide ((k : Int) < (k : Int)) = false := decide_eq_false (by omega)
            go_quiet (fail)
            replace HBM := hide (below_drewN HBM.out nq)
            replace HM := hide (show RowB (Y.drewN nq) M k _ from HM.out)
            replace HR := hide (show RowB (Y.drewN nq) R k f from HR.out)
            go_upto_region 13 with (fail)
            have m0 := HM.out.cell hkn
            have mz := HM.out.frz k
            have r0 := HR.out.cell hkn
            obtain ⟨F0, hF0⟩ : ∃ F0, F0 = f k := ⟨_, rfl⟩
            rw [← hF0] at r0
            have hst : nxR bh ft f (k - k) k = (if bh = 1 ∨ bh = 2 then F0 else false) := by rw [Nat.sub_self, nx_last, hF0]
            have HST := hide hst
            clear hst hF0
            rcases (show bh = 0 ∨ bh = 1 ∨ bh = 2 ∨ bh = 3 by omega) with rfl | rfl | rfl | rfl
            · cases F0
              all_goals (
                go_wp2_with (fail)
                go_roundw
                case rel =>
                  refine ⟨k, by go_num, by omega, (HM.out.set hkn _).congr fun m hm => ?_, HR.out.other (by have := HRM.out; omega), HBM.out.setCell (p := ⟨M, k, none⟩) HMW.out _⟩
                  by_cases em : m = k
                  · subst em
                    rw [if_pos rfl, HST.out, decide_eq_true (Nat.le_refl _)]
                    simp
                  · rw [if_neg em]
                    by_cases e2 : k ≤ m
                    · rw [decide_eq_true (by omega : k + 1 ≤ m), decide_eq_true e2]
                    · rw [decide_eq_false (by omega : ¬ k + 1 ≤ m), decide_eq_false e2]
                case measure => (simp [intOf]) <;> omega)
            · cases F0
              all_goals (
                go_wp2_with (fail)
                go_roundw
                case rel =>
                  refine ⟨k, by go_num, by omega, (HM.out.set hkn _).congr fun m hm => ?_, HR.out.other (by have := HRM.out; omega), HBM.out.setCell (p := ⟨M, k, none⟩) HMW.out _⟩
                  by_cases em : m = k
                  · subst em
                    rw [if_pos rfl, HST.out, decide_eq_true (Nat.le_refl _)]
                    simp
                  · rw [if_neg em]
                    by_cases e2 : k ≤ m
                    · rw [decide_eq_true (by omega : k + 1 ≤ m), decide_eq_true e2]
                    · rw [decide_eq_false (by omega : ¬ k + 1 ≤ m), decide_eq_false e2]
                case measure => (simp [intOf]) <;> omega)
            · cases F0
              all_goals (
                go_wp2_with (fail)
                go_roundw
                case rel =>
                  refine ⟨k, by go_num, by omega, (HM.out.set hkn _).congr fun m hm => ?_, HR.out.other (by have := HRM.out; omega), HBM.out.setCell (p := ⟨M, k, none⟩) HMW.out _⟩
                  by_cases em : m = k
                  · subst em
                    rw [if_pos rfl, HST.out, decide_eq_true (Nat.le_refl _)]
                    simp
                  · rw [if_neg em]
                    by_cases e2 : k ≤ m
                    · rw [decide_eq_true (by omega : k + 1 ≤ m), decide_eq_true e2]
                    · rw [decide_eq_false (by omega : ¬ k + 1 ≤ m), decide_eq_false e2]
                case measure => (simp [intOf]) <;> omega)
            · cases F0
              all_goals (
                go_wp2_with (fail)
                go_roundw
                case rel =>
                  refine ⟨k, by go_num, by omega, (HM.out.set hkn _).congr fun m hm => ?_, HR.out.other (by have := HRM.out; omega), HBM.out.setCell (p := ⟨M, k, none⟩) HMW.out _⟩
                  by_cases em : m = k
                  · subst em
                    rw [if_pos rfl, HST.out, decide_eq_true (Nat.le_refl _)]
                    simp
                  · rw [if_neg em]
                    by_cases e2 : k ≤ m
                    · rw [decide_eq_true (by omega : k + 1 ≤ m), decide_eq_true e2]
                    · rw [decide_eq_false (by omega : ¬ k + 1 ≤ m), decide_eq_false e2]
                case measure => (simp [intOf]) <;> omega)
end Go.Proofs.Ytedfnppekikcpaa
