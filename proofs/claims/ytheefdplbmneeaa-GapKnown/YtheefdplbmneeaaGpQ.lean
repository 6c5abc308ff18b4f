/- GapPlays. -/
import Derived.Test.YtheefdplbmneeaaGpP
import Derived.Test.YtheefdplbmneeaaGpO
namespace Go.Proofs.Ytheefdplbmneeaa
open Go.RowKit
set_option linter.unusedVariables false
set_option linter.unusedSimpArgs false

set_option maxRecDepth 100000 in
set_option maxHeartbeats 8000000 in
theorem plays_walk (sA sB : ByteArray) (a : Option Addr) (c : Nat) (b : Option Addr) (kk : Nat) (xs ys : List GSt) (w : World) (hx : GStR w a xs) (hy : GStR w b ys) (hn : xs.length ≤ 3518437208780) (hm : ys.length ≤ 3518437208780) :
    Calls Try.prog 4 #[.agg #[.string sA, .string sB, .slice a xs.length c, .slice b ys.length kk]] w fun e w' => e = .returned (.bool true) ∧ Below w.heap.size w w' := by
  have hA0 := (Below.refl w.heap.size w).alloc (Nat.le_refl _) (.cells #[.string sA, .string sB, .slice a xs.length c, .slice b ys.length kk] 29)
  have h0 := heap_alloc_new w (.cells #[.string sA, .string sB, .slice a xs.length c, .slice b ys.length kk] 29)
  have HA0 := hide hA0
  have HXS : Hid (GStR (w.alloc (.cells #[.string sA, .string sB, .slice a xs.length c, .slice b ys.length kk] 29)) a xs) := ⟨hx.1.below hA0, hx.2⟩
  have HYS : Hid (GStR (w.alloc (.cells #[.string sA, .string sB, .slice a xs.length c, .slice b ys.length kk] 29)) b ys) := ⟨hy.1.below hA0, hy.2⟩
  have H0 := hide h0
  have hnI : (xs.length : Int) ≤ 3518437208780 := by omega
  have hmI : (ys.length : Int) ≤ 3518437208780 := by omega
  clear hA0 h0 hx hy hn hm
  go_enter Try.func4, Try.ntmps4
  go_upto_region 1 with (fail)
  generalize w.alloc (.cells #[.string sA, .string sB, .slice a xs.length c, .slice b ys.length kk] 29) = W0 at *
  obtain ⟨X, hX⟩ : ∃ X, X = w.heap.size := ⟨_, rfl⟩
  rw [← hX] at H0 ⊢
  clear hX
  have CF : Hid (∀ W, Below W0.heap.size W0 W → W.cell? ⟨X, 0, none⟩ = some (.string sA) ∧ W.cell? ⟨X, 1, none⟩ = some (.string sB) ∧ W.cell? ⟨X, 2, none⟩ = some (.slice a xs.length c) ∧ W.cell? ⟨X, 3, none⟩ = some (.slice b ys.length kk)) := fun W hW => by
    have e := (hW.block X (heap_ltK H0.out)).trans H0.out
    refine ⟨?_, ?_, ?_, ?_⟩ <;> simp [World.cell?, e]
  by_cases hA : sA.size ≤ 252
  · by_cases hB : sB.size ≤ 252
    · have KM := hide (fun W => make_yes (w := W) sA hA)
      have KR := hide (fun W => rmake_yes (w := W) sA hA)
      have LM := hide (fun W => make_yes (w := W) sB hB)
      have LR := hide (fun W => rmake_yes (w := W) sB hB)
      clear hA hB
      obtain ⟨c0, c1, c2, c3⟩ := CF.out _ (Below.refl _ W0)
      go_wp2_with (first
        | (go_at_call 11; refine (KM.out _).mono ?_; rintro e W1 ⟨g, rfl, hx, hn, hb⟩; have G1 := hide hx; have NG : Hid (W0.heap.size ≤ g) := hn; have B1 := hide (hb); obtain ⟨c0, c1, c2, c3⟩ := CF.out _ B1.out; clear hb KM hx hn)
        | (go_at_call 12; refine (KR.out _).mono ?_; rintro e W2 ⟨r, rfl, hx, hn, hb⟩; have R2 := hide hx; have NR : Hid (W0.heap.size ≤ r) := Nat.le_trans B1.out.size hn; have G2 := hide (G1.out.below hb); have B2 := hide (bseq B1.out hb); obtain ⟨c0, c1, c2, c3⟩ := CF.out _ B2.out; clear hb KR hx hn)
        | (go_at_call 11; refine (LM.out _).mono ?_; rintro e W3 ⟨h, rfl, hx, hn, hb⟩; have H3 := hide hx; have NH : Hid (W0.heap.size ≤ h) := Nat.le_trans B2.out.size hn; have G3 := hide (G2.out.below hb); have R3 := hide (R2.out.below hb); have NE : Hid (g ≠ h) := (by have := G2.out.lt; show g ≠ h; omega); have B3 := hide (bseq B2.out hb); obtain ⟨c0, c1, c2, c3⟩ := CF.out _ B3.out; clear hb LM hx hn)
        | (go_at_call 12; refine (LR.out _).mono ?_; rintro e W4 ⟨q, rfl, hx, hn, hb⟩; have Q4 := hide hx; have NQ : Hid (W0.heap.size ≤ q) := Nat.le_trans B3.out.size hn; have G4 := hide (G3.out.below hb); have R4 := hide (R3.out.below hb); have H4 := hide (H3.out.below hb); have NRQ : Hid (r ≠ q) := (by have := R3.out.lt; show r ≠ q; omega); have B4 := hide (bseq B3.out hb); obtain ⟨c0, c1, c2, c3⟩ := CF.out _ B4.out; clear hb LR hx hn))
      go_loopw [3, 7, 12] (fun gv hv iv wr => ∃ (k : Nat) (g : Nat) (S : ByteArray) (p : Nat) (h : Nat) (T : ByteArray) (t : Nat), gv = .pointer (some ⟨g, 0, none⟩) ∧ hv = .pointer (some ⟨h, 0, none⟩) ∧ iv = .int .i64 (k : Int) ∧ k ≤ xs.length + ys.length ∧ GapL wr g S p ∧ RefG wr r S p ∧ W0.heap.size ≤ g ∧ GapL wr h T t ∧ RefG wr q T t ∧ W0.heap.size ≤ h ∧ g ≠ h ∧ Below W0.heap.size W0 wr) (fun _ _ iv _ => ((xs.length : Int) + (ys.length : Int) - intOf iv).toNat)
      case atStart => exact ⟨0, _, _, _, _, _, _, rfl, rfl, rfl, Nat.zero_le _, G4.out, R4.out, NG.out, H4.out, Q4.out, NH.out, NE.out, B4.out⟩
      case round =>
        clear NG G1 G2 G3 G4 R2 R3 R4 NH H3 H4 Q4 NE B1 B2 B3 B4
        obtain ⟨k, g, S, p, h, T, t, rfl, rfl, rfl, hk, hg, hr, hng, hh, hq, hnh, hne, hb⟩ := hrel
        have G2 := hide hg
        have R2 := hide hr
        have NG := hide hng
        have H2 := hide hh
        have Q2 := hide hq
        have NH := hide hnh
        have NE := hide hne
        have B2 := hide hb
        clear hg hr hng hh hq hnh hne hb
        by_cases h1 : k < xs.length
        · by_cases h2 : k < ys.length
          · have hk1I : (k : Int) < (xs.length : Int) := by omega
            have hk2I : (k : Int) < (ys.length : Int) := by omega
            obtain ⟨y1, hy1⟩ : ∃ y, xs[k]? = some y := ⟨_, List.getElem?_eq_getElem (by omega)⟩
            obtain ⟨b1, n1, rfl, hbl1, hc1⟩ := HXS.out.1.at hy1
            have o1 := HXS.out.2 y1 (List.mem_of_getElem? hy1)
            obtain ⟨d1, f1, t1, x1⟩ := y1
            unfold GSt.Ok at o1
            simp only at o1
            obtain ⟨y2, hy2⟩ : ∃ y, ys[k]? = some y := ⟨_, List.getElem?_eq_getElem (by omega)⟩
            obtain ⟨b2, n2, rfl, hbl2, hc2⟩ := HYS.out.1.at hy2
            have o2 := HYS.out.2 y2 (List.mem_of_getElem? hy2)
            obtain ⟨d2, f2, t2, x2⟩ := y2
            unfold GSt.Ok at o2
            simp only at o2
            have FX : Hid (∀ W, Below W0.heap.size W0 W → (W.cell? ⟨X, 0, none⟩ = some (.string sA) ∧ W.cell? ⟨X, 1, none⟩ = some (.string sB) ∧ W.cell? ⟨X, 2, none⟩ = some (.slice (some ⟨b1, n1, none⟩) xs.length c) ∧ W.cell? ⟨X, 3, none⟩ = some (.slice (some ⟨b2, n2, none⟩) ys.length kk)) ∧ (W.cell? ⟨b1, n1 + k * 4, none⟩ = some (.int .i64 d1) ∧ W.cell? ⟨b1, n1 + k * 4 + 1, none⟩ = some (.int .i64 f1) ∧ W.cell? ⟨b1, n1 + k * 4 + 2, none⟩ = some (.int .i64 t1) ∧ W.cell? ⟨b1, n1 + k * 4 + 3, none⟩ = some (.string x1)) ∧ (W.cell? ⟨b2, n2 + k * 4, none⟩ = some (.int .i64 d2) ∧ W.cell? ⟨b2, n2 + k * 4 + 1, none⟩ = some (.int .i64 f2) ∧ W.cell? ⟨b2, n2 + k * 4 + 2, none⟩ = some (.int .i64 t2) ∧ W.cell? ⟨b2, n2 + k * 4 + 3, none⟩ = some (.string x2))) := fun W hW => ⟨CF.out W hW, ⟨(hW.cell hbl1).trans (hc1 0 _ rfl), (hW.cell hbl1).trans (hc1 1 _ rfl), (hW.cell hbl1).trans (hc1 2 _ rfl), (hW.cell hbl1).trans (hc1 3 _ rfl)⟩, ⟨(hW.cell hbl2).trans (hc2 0 _ rfl), (hW.cell hbl2).trans (hc2 1 _ rfl), (hW.cell hbl2).trans (hc2 2 _ rfl), (hW.cell hbl2).trans (hc2 3 _ rfl)⟩⟩
            obtain ⟨⟨c0, c1, c2, c3⟩, fa, fb⟩ := FX.out _ B2.out
            have KS := hide (step_any G2.out R2.out d1 f1 t1 x1 o1.1 o1.2.1 o1.2.2)
            go_wp2_with (first
              | (go_at_call 13; refine (KS.out).mono ?_; rintro e W6 ⟨g6, S6, p6, rfl, hg6, hr6, hk6, hg7⟩; have G6 := hide hg6; have R6 := hide hr6; have H6 := hide (H2.out.keep hk6 (fun e => e.elim (fun e => NE.out e.symm) (fun e => (ref_ne R2.out H2.out) e))); have Q6 := hide (Q2.out.keep hk6 (fun e => e.elim (fun e => (ref_ne Q2.out G2.out) e.symm) (fun e => NRQ.out e.symm))); have NE6 : Hid (g6 ≠ h) := (hg7.elim (fun e => e ▸ NE.out) (fun e => by have := H2.out.lt; show g6 ≠ h; omega)); have N6 : Hid (W0.heap.size ≤ g6) := (hg7.elim (fun e => e ▸ NG.out) (fun e => Nat.le_trans B2.out.size e)); have B6 := hide (B2.out.trans (hk6.below (B := W0.heap.size) B2.out.size (fun i hi => hi.elim (fun e => by have := NG.out; omega) (fun e => by have := NR.out; omega)))); obtain ⟨⟨c0, c1, c2, c3⟩, fa, fb⟩ := FX.out _ B6.out; clear hg6 hr6 hk6 hg7 KS; have KT := hide (tells_any G6.out R6.out))
              | (go_at_call 14; refine (KT.out).mono ?_; rintro e W7 ⟨rfl, hb7⟩; have G7 := hide (G6.out.below hb7); have R7 := hide (R6.out.below hb7); have H7 := hide (H6.out.below hb7); have Q7 := hide (Q6.out.below hb7); have B7 := hide (bseq B6.out hb7); obtain ⟨⟨c0, c1, c2, c3⟩, fa, fb⟩ := FX.out _ B7.out; clear hb7 KT; have KS2 := hide (step_any H7.out Q7.out d2 f2 t2 x2 o2.1 o2.2.1 o2.2.2))
              | (go_at_call 13; refine (KS2.out).mono ?_; rintro e W8 ⟨h8, T8, t8, rfl, hh8, hq8, hk8, hh9⟩; have H8 := hide hh8; have Q8 := hide hq8; have G8 := hide (G7.out.keep hk8 (fun e => e.elim (fun e => NE6.out e) (fun e => (ref_ne Q7.out G7.out) e))); have R8 := hide (R7.out.keep hk8 (fun e => e.elim (fun e => (ref_ne R7.out H7.out) e.symm) (fun e => NRQ.out e))); have NE8 : Hid (g6 ≠ h8) := (hh9.elim (fun e => e ▸ NE6.out) (fun e => by have := G7.out.lt; show g6 ≠ h8; omega)); have N8 : Hid (W0.heap.size ≤ h8) := (hh9.elim (fun e => e ▸ NH.out) (fun e => Nat.le_trans B7.out.size e)); have B8 := hide (B7.out.trans (hk8.below (B := W0.heap.size) B7.out.size (fun i hi => hi.elim (fun e => by have := NH.out; omega) (fun e => by have := NQ.out; omega)))); obtain ⟨⟨c0, c1, c2, c3⟩, fa, fb⟩ := FX.out _ B8.out; clear hh8 hq8 hk8 hh9 KS2; have KT2 := hide (tells_any H8.out Q8.out))
              | (go_at_call 14; refine (KT2.out).mono ?_; rintro e W9 ⟨rfl, hb9⟩; have H9 := hide (H8.out.below hb9); have Q9 := hide (Q8.out.below hb9); have G9 := hide (G8.out.below hb9); have R9 := hide (R8.out.below hb9); have B9 := hide (bseq B8.out hb9); obtain ⟨⟨c0, c1, c2, c3⟩, fa, fb⟩ := FX.out _ B9.out; clear hb9 KT2))
            go_roundw
            case rel => exact ⟨k + 1, g6, S6, p6, h8, T8, t8, rfl, rfl, by go_num, by omega, G9.out, R9.out, N6.out, H9.out, Q9.out, N8.out, NE8.out, B9.out⟩
            case measure => simp [intOf]; omega
          · have hk1I : (k : Int) < (xs.length : Int) := by omega
            have hk2I : ¬ ((k : Int) < (ys.length : Int)) := by omega
            obtain ⟨y1, hy1⟩ : ∃ y, xs[k]? = some y := ⟨_, List.getElem?_eq_getElem (by omega)⟩
            obtain ⟨b1, n1, rfl, hbl1, hc1⟩ := HXS.out.1.at hy1
            have o1 := HXS.out.2 y1 (List.mem_of_getElem? hy1)
            obtain ⟨d1, f1, t1, x1⟩ := y1
            unfold GSt.Ok at o1
            simp only at o1
            have FX : Hid (∀ W, Below W0.heap.size W0 W → (W.cell? ⟨X, 0, none⟩ = some (.string sA) ∧ W.cell? ⟨X, 1, none⟩ = some (.string sB) ∧ W.cell? ⟨X, 2, none⟩ = some (.slice (some ⟨b1, n1, none⟩) xs.length c) ∧ W.cell? ⟨X, 3, none⟩ = some (.slice b ys.length kk)) ∧ (W.cell? ⟨b1, n1 + k * 4, none⟩ = some (.int .i64 d1) ∧ W.cell? ⟨b1, n1 + k * 4 + 1, none⟩ = some (.int .i64 f1) ∧ W.cell? ⟨b1, n1 + k * 4 + 2, none⟩ = some (.int .i64 t1) ∧ W.cell? ⟨b1, n1 + k * 4 + 3, none⟩ = some (.string x1)) ∧ (True)) := fun W hW => ⟨CF.out W hW, ⟨(hW.cell hbl1).trans (hc1 0 _ rfl), (hW.cell hbl1).trans (hc1 1 _ rfl), (hW.cell hbl1).trans (hc1 2 _ rfl), (hW.cell hbl1).trans (hc1 3 _ rfl)⟩, trivial⟩
            obtain ⟨⟨c0, c1, c2, c3⟩, fa, fb⟩ := FX.out _ B2.out
            have KS := hide (step_any G2.out R2.out d1 f1 t1 x1 o1.1 o1.2.1 o1.2.2)
            go_wp2_with (first
              | (go_at_call 13; refine (KS.out).mono ?_; rintro e W6 ⟨g6, S6, p6, rfl, hg6, hr6, hk6, hg7⟩; have G6 := hide hg6; have R6 := hide hr6; have H6 := hide (H2.out.keep hk6 (fun e => e.elim (fun e => NE.out e.symm) (fun e => (ref_ne R2.out H2.out) e))); have Q6 := hide (Q2.out.keep hk6 (fun e => e.elim (fun e => (ref_ne Q2.out G2.out) e.symm) (fun e => NRQ.out e.symm))); have NE6 : Hid (g6 ≠ h) := (hg7.elim (fun e => e ▸ NE.out) (fun e => by have := H2.out.lt; show g6 ≠ h; omega)); have N6 : Hid (W0.heap.size ≤ g6) := (hg7.elim (fun e => e ▸ NG.out) (fun e => Nat.le_trans B2.out.size e)); have B6 := hide (B2.out.trans (hk6.below (B := W0.heap.size) B2.out.size (fun i hi => hi.elim (fun e => by have := NG.out; omega) (fun e => by have := NR.out; omega)))); obtain ⟨⟨c0, c1, c2, c3⟩, fa, fb⟩ := FX.out _ B6.out; clear hg6 hr6 hk6 hg7 KS; have KT := hide (tells_any G6.out R6.out))
              | (go_at_call 14; refine (KT.out).mono ?_; rintro e W7 ⟨rfl, hb7⟩; have G7 := hide (G6.out.below hb7); have R7 := hide (R6.out.below hb7); have H7 := hide (H6.out.below hb7); have Q7 := hide (Q6.out.below hb7); have B7 := hide (bseq B6.out hb7); obtain ⟨⟨c0, c1, c2, c3⟩, fa, fb⟩ := FX.out _ B7.out; clear hb7 KT))
            go_roundw
            case rel => exact ⟨k + 1, g6, S6, p6, h, T, t, rfl, rfl, by go_num, by omega, G7.out, R7.out, N6.out, H7.out, Q7.out, NH.out, NE6.out, B7.out⟩
            case measure => simp [intOf]; omega
        · by_cases h2 : k < ys.length
          · have hk1I : ¬ ((k : Int) < (xs.length : Int)) := by omega
            have hk2I : (k : Int) < (ys.length : Int) := by omega
            obtain ⟨y2, hy2⟩ : ∃ y, ys[k]? = some y := ⟨_, List.getElem?_eq_getElem (by omega)⟩
            obtain ⟨b2, n2, rfl, hbl2, hc2⟩ := HYS.out.1.at hy2
            have o2 := HYS.out.2 y2 (List.mem_of_getElem? hy2)
            obtain ⟨d2, f2, t2, x2⟩ := y2
            unfold GSt.Ok at o2
            simp only at o2
            have FX : Hid (∀ W, Below W0.heap.size W0 W → (W.cell? ⟨X, 0, none⟩ = some (.string sA) ∧ W.cell? ⟨X, 1, none⟩ = some (.string sB) ∧ W.cell? ⟨X, 2, none⟩ = some (.slice a xs.length c) ∧ W.cell? ⟨X, 3, none⟩ = some (.slice (some ⟨b2, n2, none⟩) ys.length kk)) ∧ (True) ∧ (W.cell? ⟨b2, n2 + k * 4, none⟩ = some (.int .i64 d2) ∧ W.cell? ⟨b2, n2 + k * 4 + 1, none⟩ = some (.int .i64 f2) ∧ W.cell? ⟨b2, n2 + k * 4 + 2, none⟩ = some (.int .i64 t2) ∧ W.cell? ⟨b2, n2 + k * 4 + 3, none⟩ = some (.string x2))) := fun W hW => ⟨CF.out W hW, trivial, ⟨(hW.cell hbl2).trans (hc2 0 _ rfl), (hW.cell hbl2).trans (hc2 1 _ rfl), (hW.cell hbl2).trans (hc2 2 _ rfl), (hW.cell hbl2).trans (hc2 3 _ rfl)⟩⟩
            obtain ⟨⟨c0, c1, c2, c3⟩, fa, fb⟩ := FX.out _ B2.out
            have KS2 := hide (step_any H2.out Q2.out d2 f2 t2 x2 o2.1 o2.2.1 o2.2.2)
            go_wp2_with (first
              | (go_at_call 13; refine (KS2.out).mono ?_; rintro e W8 ⟨h8, T8, t8, rfl, hh8, hq8, hk8, hh9⟩; have H8 := hide hh8; have Q8 := hide hq8; have G8 := hide (G2.out.keep hk8 (fun e => e.elim (fun e => NE.out e) (fun e => (ref_ne Q2.out G2.out) e))); have R8 := hide (R2.out.keep hk8 (fun e => e.elim (fun e => (ref_ne R2.out H2.out) e.symm) (fun e => NRQ.out e))); have NE8 : Hid (g ≠ h8) := (hh9.elim (fun e => e ▸ NE.out) (fun e => by have := G2.out.lt; show g ≠ h8; omega)); have N8 : Hid (W0.heap.size ≤ h8) := (hh9.elim (fun e => e ▸ NH.out) (fun e => Nat.le_trans B2.out.size e)); have B8 := hide (B2.out.trans (hk8.below (B := W0.heap.size) B2.out.size (fun i hi => hi.elim (fun e => by have := NH.out; omega) (fun e => by have := NQ.out; omega)))); obtain ⟨⟨c0, c1, c2, c3⟩, fa, fb⟩ := FX.out _ B8.out; clear hh8 hq8 hk8 hh9 KS2; have KT2 := hide (tells_any H8.out Q8.out))
              | (go_at_call 14; refine (KT2.out).mono ?_; rintro e W9 ⟨rfl, hb9⟩; have H9 := hide (H8.out.below hb9); have Q9 := hide (Q8.out.below hb9); have G9 := hide (G8.out.below hb9); have R9 := hide (R8.out.below hb9); have B9 := hide (bseq B8.out hb9); obtain ⟨⟨c0, c1, c2, c3⟩, fa, fb⟩ := FX.out _ B9.out; clear hb9 KT2))
            go_roundw
            case rel => exact ⟨k + 1, g, S, p, h8, T8, t8, rfl, rfl, by go_num, by omega, G9.out, R9.out, NG.out, H9.out, Q9.out, N8.out, NE8.out, B9.out⟩
            case measure => simp [intOf]; omega
          · have hk1I : ¬ ((k : Int) < (xs.length : Int)) := by omega
            have hk2I : ¬ ((k : Int) < (ys.length : Int)) := by omega
            have FX : Hid (∀ W, Below W0.heap.size W0 W → (W.cell? ⟨X, 0, none⟩ = some (.string sA) ∧ W.cell? ⟨X, 1, none⟩ = some (.string sB) ∧ W.cell? ⟨X, 2, none⟩ = some (.slice a xs.length c) ∧ W.cell? ⟨X, 3, none⟩ = some (.slice b ys.length kk)) ∧ (True) ∧ (True)) := fun W hW => ⟨CF.out W hW, trivial, trivial⟩
            obtain ⟨⟨c0, c1, c2, c3⟩, fa, fb⟩ := FX.out _ B2.out
            have KT := hide (tells_any G2.out R2.out)
            go_wp2_with (first
              | (go_at_call 14; refine (KT.out).mono ?_; rintro e W3 ⟨rfl, hb3⟩; have H3 := hide (H2.out.below hb3); have Q3 := hide (Q2.out.below hb3); have B3 := hide (bseq B2.out hb3); clear hb3 KT; have KT2 := hide (tells_any H3.out Q3.out))
              | (go_at_call 14; refine (KT2.out).mono ?_; rintro e W4 ⟨rfl, hb4⟩; have B4 := hide (bseq B3.out hb4); clear hb4 KT2)
              | (go_at_call 10; refine (works_any _).mono ?_; rintro e W5 ⟨rfl, hb5⟩; have B5 := hide (bseq B4.out hb5); clear hb5))
            go_ret
            exact ⟨rfl, HA0.out.trans (B5.out.mono HA0.out.size)⟩
    · have KM := hide (fun W => make_yes (w := W) sA hA)
      have KR := hide (fun W => rmake_yes (w := W) sA hA)
      have LM := hide (fun W => same_b (make_no (w := W) sB (by omega)))
      have LR := hide (fun W => same_b (rmake_no (w := W) sB (by omega)))
      clear hA hB
      obtain ⟨c0, c1, c2, c3⟩ := CF.out _ (Below.refl _ W0)
      go_wp2_with (first
        | (go_at_call 11; refine (KM.out _).mono ?_; rintro e W1 ⟨g, rfl, hx, hn, hb⟩; have G1 := hide hx; have NG : Hid (W0.heap.size ≤ g) := hn; have B1 := hide (hb); obtain ⟨c0, c1, c2, c3⟩ := CF.out _ B1.out; clear hb KM hx hn)
        | (go_at_call 12; refine (KR.out _).mono ?_; rintro e W2 ⟨r, rfl, hx, hn, hb⟩; have R2 := hide hx; have NR : Hid (W0.heap.size ≤ r) := Nat.le_trans B1.out.size hn; have G2 := hide (G1.out.below hb); have B2 := hide (bseq B1.out hb); obtain ⟨c0, c1, c2, c3⟩ := CF.out _ B2.out; clear hb KR hx hn)
        | (go_at_call 11; refine (LM.out _).mono ?_; rintro e W3 ⟨rfl, hb⟩; have G3 := hide (G2.out.below hb); have R3 := hide (R2.out.below hb); have B3 := hide (bseq B2.out hb); obtain ⟨c0, c1, c2, c3⟩ := CF.out _ B3.out; clear hb LM)
        | (go_at_call 12; refine (LR.out _).mono ?_; rintro e W4 ⟨rfl, hb⟩; have G4 := hide (G3.out.below hb); have R4 := hide (R3.out.below hb); have B4 := hide (bseq B3.out hb); obtain ⟨c0, c1, c2, c3⟩ := CF.out _ B4.out; clear hb LR))
      go_loopw [3, 7, 12] (fun gv hv iv wr => ∃ (k : Nat) (g : Nat) (S : ByteArray) (p : Nat), gv = .pointer (some ⟨g, 0, none⟩) ∧ hv = .pointer none ∧ iv = .int .i64 (k : Int) ∧ k ≤ xs.length + ys.length ∧ GapL wr g S p ∧ RefG wr r S p ∧ W0.heap.size ≤ g ∧ Below W0.heap.size W0 wr) (fun _ _ iv _ => ((xs.length : Int) + (ys.length : Int) - intOf iv).toNat)
      case atStart => exact ⟨0, _, _, _, rfl, rfl, rfl, Nat.zero_le _, G4.out, R4.out, NG.out, B4.out⟩
      case round =>
        clear NG G1 G2 G3 G4 R2 R3 R4 B1 B2 B3 B4
        obtain ⟨k, g, S, p, rfl, rfl, rfl, hk, hg, hr, hng, hb⟩ := hrel
        have G2 := hide hg
        have R2 := hide hr
        have NG := hide hng
        have B2 := hide hb
        clear hg hr hng hb
        by_cases h1 : k < xs.length
        · by_cases h2 : k < ys.length
          · have hk1I : (k : Int) < (xs.length : Int) := by omega
            have hk2I : (k : Int) < (ys.length : Int) := by omega
            obtain ⟨y1, hy1⟩ : ∃ y, xs[k]? = some y := ⟨_, List.getElem?_eq_getElem (by omega)⟩
            obtain ⟨b1, n1, rfl, hbl1, hc1⟩ := HXS.out.1.at hy1
            have o1 := HXS.out.2 y1 (List.mem_of_getElem? hy1)
            obtain ⟨d1, f1, t1, x1⟩ := y1
            unfold GSt.Ok at o1
            simp only at o1
            have FX : Hid (∀ W, Below W0.heap.size W0 W → (W.cell? ⟨X, 0, none⟩ = some (.string sA) ∧ W.cell? ⟨X, 1, none⟩ = some (.string sB) ∧ W.cell? ⟨X, 2, none⟩ = some (.slice (some ⟨b1, n1, none⟩) xs.length c) ∧ W.cell? ⟨X, 3, none⟩ = some (.slice b ys.length kk)) ∧ (W.cell? ⟨b1, n1 + k * 4, none⟩ = some (.int .i64 d1) ∧ W.cell? ⟨b1, n1 + k * 4 + 1, none⟩ = some (.int .i64 f1) ∧ W.cell? ⟨b1, n1 + k * 4 + 2, none⟩ = some (.int .i64 t1) ∧ W.cell? ⟨b1, n1 + k * 4 + 3, none⟩ = some (.string x1)) ∧ (True)) := fun W hW => ⟨CF.out W hW, ⟨(hW.cell hbl1).trans (hc1 0 _ rfl), (hW.cell hbl1).trans (hc1 1 _ rfl), (hW.cell hbl1).trans (hc1 2 _ rfl), (hW.cell hbl1).trans (hc1 3 _ rfl)⟩, trivial⟩
            obtain ⟨⟨c0, c1, c2, c3⟩, fa, fb⟩ := FX.out _ B2.out
            have KS := hide (step_any G2.out R2.out d1 f1 t1 x1 o1.1 o1.2.1 o1.2.2)
            go_wp2_with (first
              | (go_at_call 13; refine (KS.out).mono ?_; rintro e W6 ⟨g6, S6, p6, rfl, hg6, hr6, hk6, hg7⟩; have G6 := hide hg6; have R6 := hide hr6; have N6 : Hid (W0.heap.size ≤ g6) := (hg7.elim (fun e => e ▸ NG.out) (fun e => Nat.le_trans B2.out.size e)); have B6 := hide (B2.out.trans (hk6.below (B := W0.heap.size) B2.out.size (fun i hi => hi.elim (fun e => by have := NG.out; omega) (fun e => by have := NR.out; omega)))); obtain ⟨⟨c0, c1, c2, c3⟩, fa, fb⟩ := FX.out _ B6.out; clear hg6 hr6 hk6 hg7 KS; have KT := hide (tells_any G6.out R6.out))
              | (go_at_call 14; refine (KT.out).mono ?_; rintro e W7 ⟨rfl, hb7⟩; have G7 := hide (G6.out.below hb7); have R7 := hide (R6.out.below hb7); have B7 := hide (bseq B6.out hb7); obtain ⟨⟨c0, c1, c2, c3⟩, fa, fb⟩ := FX.out _ B7.out; clear hb7 KT))
            go_roundw
            case rel => exact ⟨k + 1, g6, S6, p6, rfl, rfl, by go_num, by omega, G7.out, R7.out, N6.out, B7.out⟩
            case measure => simp [intOf]; omega
          · have hk1I : (k : Int) < (xs.length : Int) := by omega
            have hk2I : ¬ ((k : Int) < (ys.length : Int)) := by omega
            obtain ⟨y1, hy1⟩ : ∃ y, xs[k]? = some y := ⟨_, List.getElem?_eq_getElem (by omega)⟩
            obtain ⟨b1, n1, rfl, hbl1, hc1⟩ := HXS.out.1.at hy1
            have o1 := HXS.out.2 y1 (List.mem_of_getElem? hy1)
            obtain ⟨d1, f1, t1, x1⟩ := y1
            unfold GSt.Ok at o1
            simp only at o1
            have FX : Hid (∀ W, Below W0.heap.size W0 W → (W.cell? ⟨X, 0, none⟩ = some (.string sA) ∧ W.cell? ⟨X, 1, none⟩ = some (.string sB) ∧ W.cell? ⟨X, 2, none⟩ = some (.slice (some ⟨b1, n1, none⟩) xs.length c) ∧ W.cell? ⟨X, 3, none⟩ = some (.slice b ys.length kk)) ∧ (W.cell? ⟨b1, n1 + k * 4, none⟩ = some (.int .i64 d1) ∧ W.cell? ⟨b1, n1 + k * 4 + 1, none⟩ = some (.int .i64 f1) ∧ W.cell? ⟨b1, n1 + k * 4 + 2, none⟩ = some (.int .i64 t1) ∧ W.cell? ⟨b1, n1 + k * 4 + 3, none⟩ = some (.string x1)) ∧ (True)) := fun W hW => ⟨CF.out W hW, ⟨(hW.cell hbl1).trans (hc1 0 _ rfl), (hW.cell hbl1).trans (hc1 1 _ rfl), (hW.cell hbl1).trans (hc1 2 _ rfl), (hW.cell hbl1).trans (hc1 3 _ rfl)⟩, trivial⟩
            obtain ⟨⟨c0, c1, c2, c3⟩, fa, fb⟩ := FX.out _ B2.out
            have KS := hide (step_any G2.out R2.out d1 f1 t1 x1 o1.1 o1.2.1 o1.2.2)
            go_wp2_with (first
              | (go_at_call 13; refine (KS.out).mono ?_; rintro e W6 ⟨g6, S6, p6, rfl, hg6, hr6, hk6, hg7⟩; have G6 := hide hg6; have R6 := hide hr6; have N6 : Hid (W0.heap.size ≤ g6) := (hg7.elim (fun e => e ▸ NG.out) (fun e => Nat.le_trans B2.out.size e)); have B6 := hide (B2.out.trans (hk6.below (B := W0.heap.size) B2.out.size (fun i hi => hi.elim (fun e => by have := NG.out; omega) (fun e => by have := NR.out; omega)))); obtain ⟨⟨c0, c1, c2, c3⟩, fa, fb⟩ := FX.out _ B6.out; clear hg6 hr6 hk6 hg7 KS; have KT := hide (tells_any G6.out R6.out))
              | (go_at_call 14; refine (KT.out).mono ?_; rintro e W7 ⟨rfl, hb7⟩; have G7 := hide (G6.out.below hb7); have R7 := hide (R6.out.below hb7); have B7 := hide (bseq B6.out hb7); obtain ⟨⟨c0, c1, c2, c3⟩, fa, fb⟩ := FX.out _ B7.out; clear hb7 KT))
            go_roundw
            case rel => exact ⟨k + 1, g6, S6, p6, rfl, rfl, by go_num, by omega, G7.out, R7.out, N6.out, B7.out⟩
            case measure => simp [intOf]; omega
        · by_cases h2 : k < ys.length
          · have hk1I : ¬ ((k : Int) < (xs.length : Int)) := by omega
            have hk2I : (k : Int) < (ys.length : Int) := by omega
            have FX : Hid (∀ W, Below W0.heap.size W0 W → (W.cell? ⟨X, 0, none⟩ = some (.string sA) ∧ W.cell? ⟨X, 1, none⟩ = some (.string sB) ∧ W.cell? ⟨X, 2, none⟩ = some (.slice a xs.length c) ∧ W.cell? ⟨X, 3, none⟩ = some (.slice b ys.length kk)) ∧ (True) ∧ (True)) := fun W hW => ⟨CF.out W hW, trivial, trivial⟩
            obtain ⟨⟨c0, c1, c2, c3⟩, fa, fb⟩ := FX.out _ B2.out
            go_wp2_with (fail)
            go_roundw
            case rel => exact ⟨k + 1, g, S, p, rfl, rfl, by go_num, by omega, G2.out, R2.out, NG.out, B2.out⟩
            case measure => simp [intOf]; omega
          · have hk1I : ¬ ((k : Int) < (xs.length : Int)) := by omega
            have hk2I : ¬ ((k : Int) < (ys.length : Int)) := by omega
            have FX : Hid (∀ W, Below W0.heap.size W0 W → (W.cell? ⟨X, 0, none⟩ = some (.string sA) ∧ W.cell? ⟨X, 1, none⟩ = some (.string sB) ∧ W.cell? ⟨X, 2, none⟩ = some (.slice a xs.length c) ∧ W.cell? ⟨X, 3, none⟩ = some (.slice b ys.length kk)) ∧ (True) ∧ (True)) := fun W hW => ⟨CF.out W hW, trivial, trivial⟩
            obtain ⟨⟨c0, c1, c2, c3⟩, fa, fb⟩ := FX.out _ B2.out
            have KT := hide (tells_any G2.out R2.out)
            go_wp2_with (first
              | (go_at_call 14; refine (KT.out).mono ?_; rintro e W3 ⟨rfl, hb3⟩; have B3 := hide (bseq B2.out hb3); clear hb3 KT)
              | (go_at_call 10; refine (works_any _).mono ?_; rintro e W5 ⟨rfl, hb5⟩; have B5 := hide (bseq B3.out hb5); clear hb5))
            go_ret
            exact ⟨rfl, HA0.out.trans (B5.out.mono HA0.out.size)⟩
  · by_cases hB : sB.size ≤ 252
    · have KM := hide (fun W => same_b (make_no (w := W) sA (by omega)))
      have KR := hide (fun W => same_b (rmake_no (w := W) sA (by omega)))
      have LM := hide (fun W => make_yes (w := W) sB hB)
      have LR := hide (fun W => rmake_yes (w := W) sB hB)
      clear hA hB
      obtain ⟨c0, c1, c2, c3⟩ := CF.out _ (Below.refl _ W0)
      go_wp2_with (first
        | (go_at_call 11; refine (KM.out _).mono ?_; rintro e W1 ⟨rfl, hb⟩; have B1 := hide (hb); obtain ⟨c0, c1, c2, c3⟩ := CF.out _ B1.out; clear hb KM)
        | (go_at_call 12; refine (KR.out _).mono ?_; rintro e W2 ⟨rfl, hb⟩; have B2 := hide (bseq B1.out hb); obtain ⟨c0, c1, c2, c3⟩ := CF.out _ B2.out; clear hb KR)
        | (go_at_call 11; refine (LM.out _).mono ?_; rintro e W3 ⟨h, rfl, hx, hn, hb⟩; have H3 := hide hx; have NH : Hid (W0.heap.size ≤ h) := Nat.le_trans B2.out.size hn; have B3 := hide (bseq B2.out hb); obtain ⟨c0, c1, c2, c3⟩ := CF.out _ B3.out; clear hb LM hx hn)
        | (go_at_call 12; refine (LR.out _).mono ?_; rintro e W4 ⟨q, rfl, hx, hn, hb⟩; have Q4 := hide hx; have NQ : Hid (W0.heap.size ≤ q) := Nat.le_trans B3.out.size hn; have H4 := hide (H3.out.below hb); have B4 := hide (bseq B3.out hb); obtain ⟨c0, c1, c2, c3⟩ := CF.out _ B4.out; clear hb LR hx hn))
      go_loopw [3, 7, 12] (fun gv hv iv wr => ∃ (k : Nat) (h : Nat) (T : ByteArray) (t : Nat), gv = .pointer none ∧ hv = .pointer (some ⟨h, 0, none⟩) ∧ iv = .int .i64 (k : Int) ∧ k ≤ xs.length + ys.length ∧ GapL wr h T t ∧ RefG wr q T t ∧ W0.heap.size ≤ h ∧ Below W0.heap.size W0 wr) (fun _ _ iv _ => ((xs.length : Int) + (ys.length : Int) - intOf iv).toNat)
      case atStart => exact ⟨0, _, _, _, rfl, rfl, rfl, Nat.zero_le _, H4.out, Q4.out, NH.out, B4.out⟩
      case round =>
        clear NH H3 H4 Q4 B1 B2 B3 B4
        obtain ⟨k, h, T, t, rfl, rfl, rfl, hk, hh, hq, hnh, hb⟩ := hrel
        have H2 := hide hh
        have Q2 := hide hq
        have NH := hide hnh
        have B2 := hide hb
        clear hh hq hnh hb
        by_cases h1 : k < xs.length
        · by_cases h2 : k < ys.length
          · have hk1I : (k : Int) < (xs.length : Int) := by omega
            have hk2I : (k : Int) < (ys.length : Int) := by omega
            obtain ⟨y2, hy2⟩ : ∃ y, ys[k]? = some y := ⟨_, List.getElem?_eq_getElem (by omega)⟩
            obtain ⟨b2, n2, rfl, hbl2, hc2⟩ := HYS.out.1.at hy2
            have o2 := HYS.out.2 y2 (List.mem_of_getElem? hy2)
            obtain ⟨d2, f2, t2, x2⟩ := y2
            unfold GSt.Ok at o2
            simp only at o2
            have FX : Hid (∀ W, Below W0.heap.size W0 W → (W.cell? ⟨X, 0, none⟩ = some (.string sA) ∧ W.cell? ⟨X, 1, none⟩ = some (.string sB) ∧ W.cell? ⟨X, 2, none⟩ = some (.slice a xs.length c) ∧ W.cell? ⟨X, 3, none⟩ = some (.slice (some ⟨b2, n2, none⟩) ys.length kk)) ∧ (True) ∧ (W.cell? ⟨b2, n2 + k * 4, none⟩ = some (.int .i64 d2) ∧ W.cell? ⟨b2, n2 + k * 4 + 1, none⟩ = some (.int .i64 f2) ∧ W.cell? ⟨b2, n2 + k * 4 + 2, none⟩ = some (.int .i64 t2) ∧ W.cell? ⟨b2, n2 + k * 4 + 3, none⟩ = some (.string x2))) := fun W hW => ⟨CF.out W hW, trivial, ⟨(hW.cell hbl2).trans (hc2 0 _ rfl), (hW.cell hbl2).trans (hc2 1 _ rfl), (hW.cell hbl2).trans (hc2 2 _ rfl), (hW.cell hbl2).trans (hc2 3 _ rfl)⟩⟩
            obtain ⟨⟨c0, c1, c2, c3⟩, fa, fb⟩ := FX.out _ B2.out
            have KS2 := hide (step_any H2.out Q2.out d2 f2 t2 x2 o2.1 o2.2.1 o2.2.2)
            go_wp2_with (first
              | (go_at_call 13; refine (KS2.out).mono ?_; rintro e W8 ⟨h8, T8, t8, rfl, hh8, hq8, hk8, hh9⟩; have H8 := hide hh8; have Q8 := hide hq8; have N8 : Hid (W0.heap.size ≤ h8) := (hh9.elim (fun e => e ▸ NH.out) (fun e => Nat.le_trans B2.out.size e)); have B8 := hide (B2.out.trans (hk8.below (B := W0.heap.size) B2.out.size (fun i hi => hi.elim (fun e => by have := NH.out; omega) (fun e => by have := NQ.out; omega)))); obtain ⟨⟨c0, c1, c2, c3⟩, fa, fb⟩ := FX.out _ B8.out; clear hh8 hq8 hk8 hh9 KS2; have KT2 := hide (tells_any H8.out Q8.out))
              | (go_at_call 14; refine (KT2.out).mono ?_; rintro e W9 ⟨rfl, hb9⟩; have H9 := hide (H8.out.below hb9); have Q9 := hide (Q8.out.below hb9); have B9 := hide (bseq B8.out hb9); obtain ⟨⟨c0, c1, c2, c3⟩, fa, fb⟩ := FX.out _ B9.out; clear hb9 KT2))
            go_roundw
            case rel => exact ⟨k + 1, h8, T8, t8, rfl, rfl, by go_num, by omega, H9.out, Q9.out, N8.out, B9.out⟩
            case measure => simp [intOf]; omega
          · have hk1I : (k : Int) < (xs.length : Int) := by omega
            have hk2I : ¬ ((k : Int) < (ys.length : Int)) := by omega
            have FX : Hid (∀ W, Below W0.heap.size W0 W → (W.cell? ⟨X, 0, none⟩ = some (.string sA) ∧ W.cell? ⟨X, 1, none⟩ = some (.string sB) ∧ W.cell? ⟨X, 2, none⟩ = some (.slice a xs.length c) ∧ W.cell? ⟨X, 3, none⟩ = some (.slice b ys.length kk)) ∧ (True) ∧ (True)) := fun W hW => ⟨CF.out W hW, trivial, trivial⟩
            obtain ⟨⟨c0, c1, c2, c3⟩, fa, fb⟩ := FX.out _ B2.out
            go_wp2_with (fail)
            go_roundw
            case rel => exact ⟨k + 1, h, T, t, rfl, rfl, by go_num, by omega, H2.out, Q2.out, NH.out, B2.out⟩
            case measure => simp [intOf]; omega
        · by_cases h2 : k < ys.length
          · have hk1I : ¬ ((k : Int) < (xs.length : Int)) := by omega
            have hk2I : (k : Int) < (ys.length : Int) := by omega
            obtain ⟨y2, hy2⟩ : ∃ y, ys[k]? = some y := ⟨_, List.getElem?_eq_getElem (by omega)⟩
            obtain ⟨b2, n2, rfl, hbl2, hc2⟩ := HYS.out.1.at hy2
            have o2 := HYS.out.2 y2 (List.mem_of_getElem? hy2)
            obtain ⟨d2, f2, t2, x2⟩ := y2
            unfold GSt.Ok at o2
            simp only at o2
            have FX : Hid (∀ W, Below W0.heap.size W0 W → (W.cell? ⟨X, 0, none⟩ = some (.string sA) ∧ W.cell? ⟨X, 1, none⟩ = some (.string sB) ∧ W.cell? ⟨X, 2, none⟩ = some (.slice a xs.length c) ∧ W.cell? ⟨X, 3, none⟩ = some (.slice (some ⟨b2, n2, none⟩) ys.length kk)) ∧ (True) ∧ (W.cell? ⟨b2, n2 + k * 4, none⟩ = some (.int .i64 d2) ∧ W.cell? ⟨b2, n2 + k * 4 + 1, none⟩ = some (.int .i64 f2) ∧ W.cell? ⟨b2, n2 + k * 4 + 2, none⟩ = some (.int .i64 t2) ∧ W.cell? ⟨b2, n2 + k * 4 + 3, none⟩ = some (.string x2))) := fun W hW => ⟨CF.out W hW, trivial, ⟨(hW.cell hbl2).trans (hc2 0 _ rfl), (hW.cell hbl2).trans (hc2 1 _ rfl), (hW.cell hbl2).trans (hc2 2 _ rfl), (hW.cell hbl2).trans (hc2 3 _ rfl)⟩⟩
            obtain ⟨⟨c0, c1, c2, c3⟩, fa, fb⟩ := FX.out _ B2.out
            have KS2 := hide (step_any H2.out Q2.out d2 f2 t2 x2 o2.1 o2.2.1 o2.2.2)
            go_wp2_with (first
              | (go_at_call 13; refine (KS2.out).mono ?_; rintro e W8 ⟨h8, T8, t8, rfl, hh8, hq8, hk8, hh9⟩; have H8 := hide hh8; have Q8 := hide hq8; have N8 : Hid (W0.heap.size ≤ h8) := (hh9.elim (fun e => e ▸ NH.out) (fun e => Nat.le_trans B2.out.size e)); have B8 := hide (B2.out.trans (hk8.below (B := W0.heap.size) B2.out.size (fun i hi => hi.elim (fun e => by have := NH.out; omega) (fun e => by have := NQ.out; omega)))); obtain ⟨⟨c0, c1, c2, c3⟩, fa, fb⟩ := FX.out _ B8.out; clear hh8 hq8 hk8 hh9 KS2; have KT2 := hide (tells_any H8.out Q8.out))
              | (go_at_call 14; refine (KT2.out).mono ?_; rintro e W9 ⟨rfl, hb9⟩; have H9 := hide (H8.out.below hb9); have Q9 := hide (Q8.out.below hb9); have B9 := hide (bseq B8.out hb9); obtain ⟨⟨c0, c1, c2, c3⟩, fa, fb⟩ := FX.out _ B9.out; clear hb9 KT2))
            go_roundw
            case rel => exact ⟨k + 1, h8, T8, t8, rfl, rfl, by go_num, by omega, H9.out, Q9.out, N8.out, B9.out⟩
            case measure => simp [intOf]; omega
          · have hk1I : ¬ ((k : Int) < (xs.length : Int)) := by omega
            have hk2I : ¬ ((k : Int) < (ys.length : Int)) := by omega
            have FX : Hid (∀ W, Below W0.heap.size W0 W → (W.cell? ⟨X, 0, none⟩ = some (.string sA) ∧ W.cell? ⟨X, 1, none⟩ = some (.string sB) ∧ W.cell? ⟨X, 2, none⟩ = some (.slice a xs.length c) ∧ W.cell? ⟨X, 3, none⟩ = some (.slice b ys.length kk)) ∧ (True) ∧ (True)) := fun W hW => ⟨CF.out W hW, trivial, trivial⟩
            obtain ⟨⟨c0, c1, c2, c3⟩, fa, fb⟩ := FX.out _ B2.out
            have KT2 := hide (tells_any H2.out Q2.out)
            go_wp2_with (first
              | (go_at_call 14; refine (KT2.out).mono ?_; rintro e W4 ⟨rfl, hb4⟩; have B4 := hide (bseq B2.out hb4); clear hb4 KT2)
              | (go_at_call 10; refine (works_any _).mono ?_; rintro e W5 ⟨rfl, hb5⟩; have B5 := hide (bseq B4.out hb5); clear hb5))
            go_ret
            exact ⟨rfl, HA0.out.trans (B5.out.mono HA0.out.size)⟩
    · have KM := hide (fun W => same_b (make_no (w := W) sA (by omega)))
      have KR := hide (fun W => same_b (rmake_no (w := W) sA (by omega)))
      have LM := hide (fun W => same_b (make_no (w := W) sB (by omega)))
      have LR := hide (fun W => same_b (rmake_no (w := W) sB (by omega)))
      clear hA hB
      obtain ⟨c0, c1, c2, c3⟩ := CF.out _ (Below.refl _ W0)
      go_wp2_with (first
        | (go_at_call 11; refine (KM.out _).mono ?_; rintro e W1 ⟨rfl, hb⟩; have B1 := hide (hb); obtain ⟨c0, c1, c2, c3⟩ := CF.out _ B1.out; clear hb KM)
        | (go_at_call 12; refine (KR.out _).mono ?_; rintro e W2 ⟨rfl, hb⟩; have B2 := hide (bseq B1.out hb); obtain ⟨c0, c1, c2, c3⟩ := CF.out _ B2.out; clear hb KR)
        | (go_at_call 11; refine (LM.out _).mono ?_; rintro e W3 ⟨rfl, hb⟩; have B3 := hide (bseq B2.out hb); obtain ⟨c0, c1, c2, c3⟩ := CF.out _ B3.out; clear hb LM)
        | (go_at_call 12; refine (LR.out _).mono ?_; rintro e W4 ⟨rfl, hb⟩; have B4 := hide (bseq B3.out hb); obtain ⟨c0, c1, c2, c3⟩ := CF.out _ B4.out; clear hb LR))
      go_loopw [3, 7, 12] (fun gv hv iv wr => ∃ (k : Nat), gv = .pointer none ∧ hv = .pointer none ∧ iv = .int .i64 (k : Int) ∧ k ≤ xs.length + ys.length ∧ Below W0.heap.size W0 wr) (fun _ _ iv _ => ((xs.length : Int) + (ys.length : Int) - intOf iv).toNat)
      case atStart => exact ⟨0, rfl, rfl, rfl, Nat.zero_le _, B4.out⟩
      case round =>
        clear B1 B2 B3 B4
        obtain ⟨k, rfl, rfl, rfl, hk, hb⟩ := hrel
        have B2 := hide hb
        clear hb
        by_cases h1 : k < xs.length
        · by_cases h2 : k < ys.length
          · have hk1I : (k : Int) < (xs.length : Int) := by omega
            have hk2I : (k : Int) < (ys.length : Int) := by omega
            have FX : Hid (∀ W, Below W0.heap.size W0 W → (W.cell? ⟨X, 0, none⟩ = some (.string sA) ∧ W.cell? ⟨X, 1, none⟩ = some (.string sB) ∧ W.cell? ⟨X, 2, none⟩ = some (.slice a xs.length c) ∧ W.cell? ⟨X, 3, none⟩ = some (.slice b ys.length kk)) ∧ (True) ∧ (True)) := fun W hW => ⟨CF.out W hW, trivial, trivial⟩
            obtain ⟨⟨c0, c1, c2, c3⟩, fa, fb⟩ := FX.out _ B2.out
            go_wp2_with (fail)
            go_roundw
            case rel => exact ⟨k + 1, rfl, rfl, by go_num, by omega, B2.out⟩
            case measure => simp [intOf]; omega
          · have hk1I : (k : Int) < (xs.length : Int) := by omega
            have hk2I : ¬ ((k : Int) < (ys.length : Int)) := by omega
            have FX : Hid (∀ W, Below W0.heap.size W0 W → (W.cell? ⟨X, 0, none⟩ = some (.string sA) ∧ W.cell? ⟨X, 1, none⟩ = some (.string sB) ∧ W.cell? ⟨X, 2, none⟩ = some (.slice a xs.length c) ∧ W.cell? ⟨X, 3, none⟩ = some (.slice b ys.length kk)) ∧ (True) ∧ (True)) := fun W hW => ⟨CF.out W hW, trivial, trivial⟩
            obtain ⟨⟨c0, c1, c2, c3⟩, fa, fb⟩ := FX.out _ B2.out
            go_wp2_with (fail)
            go_roundw
            case rel => exact ⟨k + 1, rfl, rfl, by go_num, by omega, B2.out⟩
            case measure => simp [intOf]; omega
        · by_cases h2 : k < ys.length
          · have hk1I : ¬ ((k : Int) < (xs.length : Int)) := by omega
            have hk2I : (k : Int) < (ys.length : Int) := by omega
            have FX : Hid (∀ W, Below W0.heap.size W0 W → (W.cell? ⟨X, 0, none⟩ = some (.string sA) ∧ W.cell? ⟨X, 1, none⟩ = some (.string sB) ∧ W.cell? ⟨X, 2, none⟩ = some (.slice a xs.length c) ∧ W.cell? ⟨X, 3, none⟩ = some (.slice b ys.length kk)) ∧ (True) ∧ (True)) := fun W hW => ⟨CF.out W hW, trivial, trivial⟩
            obtain ⟨⟨c0, c1, c2, c3⟩, fa, fb⟩ := FX.out _ B2.out
            go_wp2_with (fail)
            go_roundw
            case rel => exact ⟨k + 1, rfl, rfl, by go_num, by omega, B2.out⟩
            case measure => simp [intOf]; omega
          · have hk1I : ¬ ((k : Int) < (xs.length : Int)) := by omega
            have hk2I : ¬ ((k : Int) < (ys.length : Int)) := by omega
            have FX : Hid (∀ W, Below W0.heap.size W0 W → (W.cell? ⟨X, 0, none⟩ = some (.string sA) ∧ W.cell? ⟨X, 1, none⟩ = some (.string sB) ∧ W.cell? ⟨X, 2, none⟩ = some (.slice a xs.length c) ∧ W.cell? ⟨X, 3, none⟩ = some (.slice b ys.length kk)) ∧ (True) ∧ (True)) := fun W hW => ⟨CF.out W hW, trivial, trivial⟩
            obtain ⟨⟨c0, c1, c2, c3⟩, fa, fb⟩ := FX.out _ B2.out
            go_wp2_with (first
              | (go_at_call 10; refine (works_any _).mono ?_; rintro e W5 ⟨rfl, hb5⟩; have B5 := hide (bseq B2.out hb5); clear hb5))
            go_ret
            exact ⟨rfl, HA0.out.trans (B5.out.mono HA0.out.size)⟩
end Go.Proofs.Ytheefdplbmneeaa
