/- The document's Print. -/
import Derived.Test.YtmhbhpjpnmggkaaDoorSRMay
import Derived.Test.YtmhbhpjpnmggkaaDoorSRQuo
namespace Go.Proofs.YtmhbhpjpnmggkaaDoor
open Go.RowKit Go.Shelf
set_option linter.unusedVariables false
set_option linter.unusedSimpArgs false

theorem row8_nil (w : World) (base : Nat) : Row8 w base (.slice none 0 0) [] := ⟨rfl, .inl ⟨rfl, rfl⟩⟩
theorem may_kind {x : TkI} (h : mayI x = true) : x.1 = 1 ∨ x.1 = 2 ∨ x.1 = 3 := by
  unfold mayI at h
  by_cases h1 : x.1 = 1
  · exact .inl h1
  · by_cases h2 : x.1 = 2
    · exact .inr (.inl h2)
    · by_cases h3 : x.1 = 3
      · exact .inr (.inr h3)
      · rw [if_neg h1, if_neg h2, if_neg h3] at h; cases h
set_option maxRecDepth 100000 in
set_option maxHeartbeats 16000000 in
theorem rprint_any (a : Option Addr) (cap : Nat) (xs : List TkI) (w : World) (hx : SlK w a xs) (hL : LaidW w) (hZ : LaidZ w) (hl : xs.length ≤ 9223372036854775807) (hJ : (prJ xs).length ≤ 1000000000)
    (hb : ∀ x ∈ xs, x.2.2.1.size ≤ 17592186044416 ∧ -9223372036854775808 ≤ x.2.2.2 ∧ x.2.2.2 ≤ 9223372036854775807) :
    Calls Tryd.prog 12 #[.slice a xs.length cap] w fun e w' => e = .returned (.tuple #[.string ⟨(prV xs).1.toArray⟩, .int .i64 (prV xs).2]) ∧ Below w.heap.size w w' := by
  have HX := hide hx
  have HBD := hide hb
  have HL := hide hL
  have HZ := hide hZ
  obtain ⟨i0, hi, hz0, hz1, hz2⟩ := info_parts Tryd.info8s
  clear hx hb hL hZ
  go_enter Tryd.func12, Tryd.ntmps12
  go_wp2_with (fail)
  go_loopw [4, 5] (fun v i wr => ∃ j : Nat, i = .int .i64 j ∧ j ≤ xs.length ∧ (xs.take j).all mayI = true ∧ Row8 wr w.heap.size v (prJ (xs.take j)) ∧ Below w.heap.size w wr) (fun _ i _ => xs.length - (intOf i).toNat)
  case atStart => exact ⟨0, rfl, Nat.zero_le _, rfl, row8_nil _ _, Below.refl _ _⟩
  case round =>
    obtain ⟨j, rfl, hj, hall, hrow, hB⟩ := hrel
    have HALL := hide hall
    have HB := hide hB
    have HROW := hide hrow
    have hBw := hB.size
    clear hall hB hrow
    by_cases hlt : j < xs.length
    · have hxk : xs[j]? = some xs[j] := List.getElem?_eq_getElem hlt
      have hcl := fun W (h : Below w.heap.size w W) => tok_cells (HX.out.below h) hxk
      obtain ⟨hb1, hb2, hb3⟩ := HBD.out _ (List.getElem_mem hlt)
      have hall2 : (xs.take (j + 1)).all mayI = mayI xs[j] := by
        rw [List.take_succ_eq_append_getElem hlt, List.all_append, HALL.out]
        simp
      have hno : mayI xs[j] = false → prV xs = ([], 70) := by
        intro h
        unfold prV
        rw [if_neg]
        intro h2
        have := List.all_eq_true.1 h2 _ (List.getElem_mem hlt)
        rw [h] at this
        exact absurd this (by decide)
      have hnx := prJ_take hlt
      have hmo : (prJ (xs.take (j + 1))).length ≤ 1000000000 := Nat.le_trans (prJ_mono (xs := xs) (k := j + 1) (by omega)) hJ
      have hkd := @may_kind xs[j]
      generalize xs[j] = x0 at *
      obtain ⟨k', a', t', n'⟩ := x0
      simp only at hb1 hb2 hb3 hcl hkd
      obtain ⟨b0, off, ha, v0, v1, v2', v3⟩ := hcl wr HB.out
      subst ha
      have hcl2 : ∀ W, Below w.heap.size w W → W.cell? ⟨b0, off + j * 4, none⟩ = some (.int .i64 k') ∧ W.cell? ⟨b0, off + j * 4 + 1, none⟩ = some (.int .i64 a') ∧ W.cell? ⟨b0, off + j * 4 + 2, none⟩ = some (.string t') ∧ W.cell? ⟨b0, off + j * 4 + 3, none⟩ = some (.int .i64 n') := by
        intro W h
        obtain ⟨b1, off1, ha1, h1⟩ := hcl W h
        cases ha1
        exact h1
      have HCL := hide hcl2
      have hltI : (j : Int) < (xs.length : Int) := by omega
      have km := fun W => rmay_any k' a' t' n' W (by omega)
      clear hcl hcl2 hxk
      cases hm : mayI (k', a', t', n') with
      | false =>
        rw [hm] at km
        have hv := hno hm
        have KM := hide km
        have HV := hide hv
        clear km hall2 hno hm hv hnx hmo hkd
        go_wp2_with (first | (go_at_call 32; refine (KM.out _).mono ?_; rintro e x ⟨rfl, hbx⟩; have HR1 := hide (HROW.out.below hbx); have HB1 := hide (bseq HB.out hbx); have x1 : w.heap.size ≤ x.heap.size := HB1.out.size; obtain ⟨c0, c1, c2, c3⟩ := HCL.out x (bseq HB.out hbx); clear hbx))
        go_ret2
        exact ⟨by rw [HV.out]; rfl, HB1.out⟩
      | true =>
        rw [hm] at km hall2
        have KM := hide km
        have HALL2 := hide hall2
        have HK := hide (hkd hm)
        generalize hacc : prJ (xs.take j) = acc at *
        have hPT : pT (k', a', t', n') = pT (k', a', t', n') := rfl
        generalize hPP : pT (k', a', t', n') = P at *
        have HPT := hide hPP.symm
        clear km hall2 hno hm hkd hPT hPP hacc
        by_cases hj0 : j = 0
        · rw [if_pos hj0, List.append_nil] at hnx
          have hjI : (j : Int) ≤ 0 := by omega
          clear hj0
          have hw : (List.length (α := UInt8) acc) + P.length ≤ 1000000000 := by
            have h9 := hmo
            rw [hnx] at h9
            simp only [List.length_append, List.length_cons, List.length_nil] at h9 ⊢
            omega
          have hacl : acc.length + 1 ≤ 1000000001 := by
            have h9 := hmo
            rw [hnx] at h9
            simp only [List.length_append, List.length_cons, List.length_nil] at h9
            omega
          have HNX := hide hnx
          have hPs : (⟨P.toArray⟩ : ByteArray).size = P.length := by simp [ByteArray.size]
          clear hnx hmo
          rcases HK.out with hk | hk | hk
          · subst hk
            have hP : P = bl t' := HPT.out
            have HP := hide (show t'.data.toList = P from hP.symm)
            have htz : t'.size = P.length := by rw [hP, bl_len]
            clear hP
            go_wp2_with (first | (go_at_call 32; refine (KM.out _).mono ?_; rintro e x ⟨rfl, hbx⟩; have HR1 := hide (HROW.out.below hbx); have HB1 := hide (bseq HB.out hbx); have x1 : w.heap.size ≤ x.heap.size := HB1.out.size; obtain ⟨c0, c1, c2, c3⟩ := HCL.out x (bseq HB.out hbx); clear hbx) | (at_builtin; refine Lib.wpList_append_own_string _ rfl _ _ 48 9 rfl w.heap.size 5 i0 Tryd.underlying48 Tryd.underlying9 hi hz0 hz1 hz2 u4 (List.length (α := UInt8) acc) (Lib.byteCells acc) rfl HR1.out t' rfl (by simp only [maxLen]; omega) (by omega) (by have := HB1.out.size; omega) ?_; intro v' w4 hown' hgrow' _))
            have hb4 : Below w.heap.size w w4 := HB1.out.grown hgrow' HB1.out.size (fun j e => (HR1.out.lt j e).1)
            have hrow4 : Row8 w4 w.heap.size v' (acc ++ P) := Row8.more HP.out hown'
            go_roundw
            case rel => exact ⟨j + 1, by go_num, by omega, HALL2.out, by rw [HNX.out]; exact hrow4, hb4⟩
            case measure => simp [intOf]; omega
          · subst hk
            have hP : P = Lib.itoa n' := HPT.out
            have ki := fun W h => itoa_any n' hb2 hb3 W h
            rw [← hP] at ki
            have KI := hide ki
            clear ki hP
            go_wp2_with (first | (go_at_call 32; refine (KM.out _).mono ?_; rintro e x ⟨rfl, hbx⟩; have HR1 := hide (HROW.out.below hbx); have HB1 := hide (bseq HB.out hbx); have x1 : w.heap.size ≤ x.heap.size := HB1.out.size; obtain ⟨c0, c1, c2, c3⟩ := HCL.out x (bseq HB.out hbx); clear hbx) | (go_at_call 33; refine (KI.out _ (HL.out.below HB1.out)).mono ?_; rintro e z ⟨rfl, hbz⟩; have HR3 := hide (HR1.out.below hbz); have HB3 := hide (bseq HB1.out hbz); clear hbz) | (at_builtin; refine Lib.wpList_append_own_string _ rfl _ _ 48 9 rfl w.heap.size 5 i0 Tryd.underlying48 Tryd.underlying9 hi hz0 hz1 hz2 u4 (List.length (α := UInt8) acc) (Lib.byteCells acc) rfl HR3.out ⟨P.toArray⟩ rfl (by simp only [maxLen]; omega) (by omega) (by have := HB3.out.size; omega) ?_; intro v' w4 hown' hgrow' _))
            have hb4 : Below w.heap.size w w4 := HB3.out.grown hgrow' HB3.out.size (fun j e => (HR3.out.lt j e).1)
            have hrow4 : Row8 w4 w.heap.size v' (acc ++ P) := Row8.more (by simp) hown'
            go_roundw
            case rel => exact ⟨j + 1, by go_num, by omega, HALL2.out, by rw [HNX.out]; exact hrow4, hb4⟩
            case measure => simp [intOf]; omega
          · subst hk
            have hP : P = 34 :: (qo (bl t') ++ [34]) := HPT.out
            have kq := fun W h => rquote_any t' W (by omega) h
            rw [← hP] at kq
            have KQ := hide kq
            clear kq hP
            go_wp2_with (first | (go_at_call 32; refine (KM.out _).mono ?_; rintro e x ⟨rfl, hbx⟩; have HR1 := hide (HROW.out.below hbx); have HB1 := hide (bseq HB.out hbx); have x1 : w.heap.size ≤ x.heap.size := HB1.out.size; obtain ⟨c0, c1, c2, c3⟩ := HCL.out x (bseq HB.out hbx); clear hbx) | (go_at_call 8; refine (KQ.out _ (HZ.out.below HB1.out)).mono ?_; rintro e z ⟨rfl, hbz⟩; have HR3 := hide (HR1.out.below hbz); have HB3 := hide (bseq HB1.out hbz); clear hbz) | (at_builtin; refine Lib.wpList_append_own_string _ rfl _ _ 48 9 rfl w.heap.size 5 i0 Tryd.underlying48 Tryd.underlying9 hi hz0 hz1 hz2 u4 (List.length (α := UInt8) acc) (Lib.byteCells acc) rfl HR3.out ⟨P.toArray⟩ rfl (by simp only [maxLen]; omega) (by omega) (by have := HB3.out.size; omega) ?_; intro v' w4 hown' hgrow' _))
            have hb4 : Below w.heap.size w w4 := HB3.out.grown hgrow' HB3.out.size (fun j e => (HR3.out.lt j e).1)
            have hrow4 : Row8 w4 w.heap.size v' (acc ++ P) := Row8.more (by simp) hown'
            go_roundw
            case rel => exact ⟨j + 1, by go_num, by omega, HALL2.out, by rw [HNX.out]; exact hrow4, hb4⟩
            case measure => simp [intOf]; omega
        · rw [if_neg hj0] at hnx
          have hjI : (0 : Int) < (j : Int) := by omega
          have hw : (List.length (α := UInt8) (acc ++ [32])) + P.length ≤ 1000000000 := by
            have h9 := hmo
            rw [hnx] at h9
            simp only [List.length_append, List.length_cons, List.length_nil] at h9 ⊢
            omega
          have hacl : acc.length + 1 ≤ 1000000001 := by
            have h9 := hmo
            rw [hnx] at h9
            simp only [List.length_append, List.length_cons, List.length_nil] at h9
            omega
          have HNX := hide hnx
          have hPs : (⟨P.toArray⟩ : ByteArray).size = P.length := by simp [ByteArray.size]
          clear hnx hmo
          rcases HK.out with hk | hk | hk
          · subst hk
            have hP : P = bl t' := HPT.out
            have HP := hide (show t'.data.toList = P from hP.symm)
            have htz : t'.size = P.length := by rw [hP, bl_len]
            clear hP
            go_wp2_with (first | (go_at_call 32; refine (KM.out _).mono ?_; rintro e x ⟨rfl, hbx⟩; have HR1 := hide (HROW.out.below hbx); have HB1 := hide (bseq HB.out hbx); have x1 : w.heap.size ≤ x.heap.size := HB1.out.size; obtain ⟨c0, c1, c2, c3⟩ := HCL.out x (bseq HB.out hbx); clear hbx) | (at_builtin; refine wpList_append_own_at _ rfl _ _ 48 rfl w.heap.size 5 i0 (.int .u8 0) 1 1 Tryd.underlying48 hi hz0 hz1 hz2 rfl (by decide) u4 acc.length (Lib.byteCells acc) rfl (HR1.out.alloc _) ⟨x.heap.size, 0, none⟩ 1 1 [.int .u8 32] rfl rfl (cell1_new _ _ _) (by simp [Value.oneCell']) (by unfold maxLen; omega) (by omega) (by simp; omega) ?_; intro v2 y hown2 hgrow2 _ _; have HR2 := hide (Row8.more1 32 hown2); have hb2 : Below w.heap.size w y := (HB1.out.alloc HB1.out.size _).grown hgrow2 (by simp; omega) (fun j e => (HR1.out.lt j e).1); have HB2 := hide hb2; have y1 : w.heap.size ≤ y.heap.size := hb2.size; obtain ⟨d0, d1, d2, d3⟩ := HCL.out y hb2; clear HR1 hown2 hgrow2 hb2) | (at_builtin; refine Lib.wpList_append_own_string _ rfl _ _ 48 9 rfl w.heap.size 5 i0 Tryd.underlying48 Tryd.underlying9 hi hz0 hz1 hz2 v2 (List.length (α := UInt8) (acc ++ [32])) (Lib.byteCells (acc ++ [32])) rfl HR2.out t' rfl (by simp only [maxLen]; omega) (by omega) (by have := HB2.out.size; omega) ?_; intro v' w4 hown' hgrow' _))
            have hb4 : Below w.heap.size w w4 := HB2.out.grown hgrow' HB2.out.size (fun j e => (HR2.out.lt j e).1)
            have hrow4 : Row8 w4 w.heap.size v' ((acc ++ [32]) ++ P) := Row8.more HP.out hown'
            go_roundw
            case rel => exact ⟨j + 1, by go_num, by omega, HALL2.out, by rw [HNX.out]; exact hrow4, hb4⟩
            case measure => simp [intOf]; omega
          · subst hk
            have hP : P = Lib.itoa n' := HPT.out
            have ki := fun W h => itoa_any n' hb2 hb3 W h
            rw [← hP] at ki
            have KI := hide ki
            clear ki hP
            go_wp2_with (first | (go_at_call 32; refine (KM.out _).mono ?_; rintro e x ⟨rfl, hbx⟩; have HR1 := hide (HROW.out.below hbx); have HB1 := hide (bseq HB.out hbx); have x1 : w.heap.size ≤ x.heap.size := HB1.out.size; obtain ⟨c0, c1, c2, c3⟩ := HCL.out x (bseq HB.out hbx); clear hbx) | (at_builtin; refine wpList_append_own_at _ rfl _ _ 48 rfl w.heap.size 5 i0 (.int .u8 0) 1 1 Tryd.underlying48 hi hz0 hz1 hz2 rfl (by decide) u4 acc.length (Lib.byteCells acc) rfl (HR1.out.alloc _) ⟨x.heap.size, 0, none⟩ 1 1 [.int .u8 32] rfl rfl (cell1_new _ _ _) (by simp [Value.oneCell']) (by unfold maxLen; omega) (by omega) (by simp; omega) ?_; intro v2 y hown2 hgrow2 _ _; have HR2 := hide (Row8.more1 32 hown2); have hb2 : Below w.heap.size w y := (HB1.out.alloc HB1.out.size _).grown hgrow2 (by simp; omega) (fun j e => (HR1.out.lt j e).1); have HB2 := hide hb2; have y1 : w.heap.size ≤ y.heap.size := hb2.size; obtain ⟨d0, d1, d2, d3⟩ := HCL.out y hb2; clear HR1 hown2 hgrow2 hb2) | (go_at_call 33; refine (KI.out _ (HL.out.below HB2.out)).mono ?_; rintro e z ⟨rfl, hbz⟩; have HR3 := hide (HR2.out.below hbz); have HB3 := hide (bseq HB2.out hbz); clear hbz) | (at_builtin; refine Lib.wpList_append_own_string _ rfl _ _ 48 9 rfl w.heap.size 5 i0 Tryd.underlying48 Tryd.underlying9 hi hz0 hz1 hz2 v2 (List.length (α := UInt8) (acc ++ [32])) (Lib.byteCells (acc ++ [32])) rfl HR3.out ⟨P.toArray⟩ rfl (by simp only [maxLen]; omega) (by omega) (by have := HB3.out.size; omega) ?_; intro v' w4 hown' hgrow' _))
            have hb4 : Below w.heap.size w w4 := HB3.out.grown hgrow' HB3.out.size (fun j e => (HR3.out.lt j e).1)
            have hrow4 : Row8 w4 w.heap.size v' ((acc ++ [32]) ++ P) := Row8.more (by simp) hown'
            go_roundw
            case rel => exact ⟨j + 1, by go_num, by omega, HALL2.out, by rw [HNX.out]; exact hrow4, hb4⟩
            case measure => simp [intOf]; omega
          · subst hk
            have hP : P = 34 :: (qo (bl t') ++ [34]) := HPT.out
            have kq := fun W h => rquote_any t' W (by omega) h
            rw [← hP] at kq
            have KQ := hide kq
            clear kq hP
            go_wp2_with (first | (go_at_call 32; refine (KM.out _).mono ?_; rintro e x ⟨rfl, hbx⟩; have HR1 := hide (HROW.out.below hbx); have HB1 := hide (bseq HB.out hbx); have x1 : w.heap.size ≤ x.heap.size := HB1.out.size; obtain ⟨c0, c1, c2, c3⟩ := HCL.out x (bseq HB.out hbx); clear hbx) | (at_builtin; refine wpList_append_own_at _ rfl _ _ 48 rfl w.heap.size 5 i0 (.int .u8 0) 1 1 Tryd.underlying48 hi hz0 hz1 hz2 rfl (by decide) u4 acc.length (Lib.byteCells acc) rfl (HR1.out.alloc _) ⟨x.heap.size, 0, none⟩ 1 1 [.int .u8 32] rfl rfl (cell1_new _ _ _) (by simp [Value.oneCell']) (by unfold maxLen; omega) (by omega) (by simp; omega) ?_; intro v2 y hown2 hgrow2 _ _; have HR2 := hide (Row8.more1 32 hown2); have hb2 : Below w.heap.size w y := (HB1.out.alloc HB1.out.size _).grown hgrow2 (by simp; omega) (fun j e => (HR1.out.lt j e).1); have HB2 := hide hb2; have y1 : w.heap.size ≤ y.heap.size := hb2.size; obtain ⟨d0, d1, d2, d3⟩ := HCL.out y hb2; clear HR1 hown2 hgrow2 hb2) | (go_at_call 8; refine (KQ.out _ (HZ.out.below HB2.out)).mono ?_; rintro e z ⟨rfl, hbz⟩; have HR3 := hide (HR2.out.below hbz); have HB3 := hide (bseq HB2.out hbz); clear hbz) | (at_builtin; refine Lib.wpList_append_own_string _ rfl _ _ 48 9 rfl w.heap.size 5 i0 Tryd.underlying48 Tryd.underlying9 hi hz0 hz1 hz2 v2 (List.length (α := UInt8) (acc ++ [32])) (Lib.byteCells (acc ++ [32])) rfl HR3.out ⟨P.toArray⟩ rfl (by simp only [maxLen]; omega) (by omega) (by have := HB3.out.size; omega) ?_; intro v' w4 hown' hgrow' _))
            have hb4 : Below w.heap.size w w4 := HB3.out.grown hgrow' HB3.out.size (fun j e => (HR3.out.lt j e).1)
            have hrow4 : Row8 w4 w.heap.size v' ((acc ++ [32]) ++ P) := Row8.more (by simp) hown'
            go_roundw
            case rel => exact ⟨j + 1, by go_num, by omega, HALL2.out, by rw [HNX.out]; exact hrow4, hb4⟩
            case measure => simp [intOf]; omega
    · have hge : (xs.length : Int) ≤ (j : Int) := by omega
      have htk : xs.take j = xs := List.take_of_length_le (by omega)
      rw [htk] at HALL HROW
      have hv : prV xs = if 16384 < (prJ xs).length then ([], 4) else (prJ xs, 0) := by unfold prV; rw [if_pos HALL.out]
      have hcv := run_string_own8 _ _ _ _ HROW.out
      have hlen8 : ∃ a8 c8, u4 = .slice a8 (prJ xs).length c8 := by
        rcases HROW.out.2 with ⟨h1, h2⟩ | ⟨g, cp, cur, h1, _⟩
        · exact ⟨none, 0, by rw [h1, h2]⟩
        · exact ⟨_, _, h1⟩
      obtain ⟨a8, c8, hu4⟩ := hlen8
      subst hu4
      generalize prJ xs = J at *
      by_cases hbig : 16384 < J.length
      · have hbigI : (16384 : Int) < (J.length : Int) := by omega
        rw [if_pos hbig] at hv
        have HV := hide hv
        clear hv htk hcv
        go_wp2_with (fail)
        go_ret2
        exact ⟨by rw [HV.out]; rfl, HB.out⟩
      · have hbigI : (J.length : Int) ≤ (16384 : Int) := by omega
        rw [if_neg hbig] at hv
        have HV := hide hv
        clear hv htk
        go_wp2_with (fail)
        go_ret2
        exact ⟨by rw [HV.out]; rfl, HB.out⟩
end Go.Proofs.YtmhbhpjpnmggkaaDoor
