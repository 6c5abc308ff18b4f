/- SeekMeans in the stated row: of a pattern of plain parts, tried in every way from behind, Find finds the leftmost place, and of these the longest piece. -/
import Derived.Test.YtedfnppekikcpaaXGoWJoined
import Derived.Test.YtedfnppekikcpaaXWrnJoined
import Derived.Test.YtedfnppekikcpaaXRQuoJoined
import Derived.Test.YtedfnppekikcpaaXGoAJoined
namespace Go.Proofs.Ytedfnppekikcpaa
open Go.RowKit Go.Shelf
set_option linter.unusedVariables false
set_option linter.unusedSimpArgs false

theorem parts_qi (bs : List Bt) (h : ∀ b ∈ bs, BtOk b) : Lib.hasPrefix (bs.flatMap tB) [92, 105] = false := by
  cases bs with
  | nil => rfl
  | cons b bs =>
    have hb := (h b (List.mem_cons_self ..)).1
    rw [List.flatMap_cons]
    unfold tB atB
    split
    · rfl
    · obtain ⟨n, hn, ⟨g1, g2, g3⟩ | ⟨g, c, u, hc⟩⟩ := enc_forms hb
      · rw [g3, show xqo [n.toUInt8] = [92, n.toUInt8] by rw [xqo_cons, xq1_mark (by rw [u8_nat n (by omega)]; exact g1)]; rfl]
        have h5 : n.toUInt8 ≠ 105 := fun e => by
          have h6 : (n.toUInt8).toNat = 105 := by rw [e]; rfl
          rw [u8_nat n (by omega)] at h6
          rw [h6] at g1
          exact absurd g1 (by decide)
        have h7 : ¬ (105 : UInt8) = n.toUInt8 := fun e => h5 e.symm
        simp [Lib.hasPrefix, List.isPrefixOf, h5, h7]
      · rw [xqo_nomark _ g]
        have hm := g c (by rw [hc]; exact List.mem_cons_self ..)
        rw [hc]
        have h5 : c ≠ 92 := fun e => by rw [e] at hm; exact absurd hm (by decide)
        have h7 : ¬ (92 : UInt8) = c := fun e => h5 e.symm
        simp [Lib.hasPrefix, List.isPrefixOf, h5, h7]
theorem piece_same (a b : Int) (w : World) : (Op.equalIn 10000 34 (.agg #[.int .i64 a, .int .i64 b]) (.agg #[.int .i64 a, .int .i64 b])).run Try.prog w = .ok true w := by
  rw [run_equalIn_agg w 9999 34 _ _ Try.fieldsPc Try.noHeldPc]
  have u3 := Try.underlying3
  have a3 := Try.isAgg3
  unfold Program.fieldsOf
  rw [Try.underlying34]
  simp [Op.eqFields, part, u3, a3, go_sem]
theorem setP2 {W : World} {g : Nat} {x0 x1 : Value} (h : W.heap[g]? = some (.cells #[x0, x1] 34 (0, 0))) (a b : Value) :
    ((W.setCell ⟨g, 0, none⟩ a).setCell ⟨g, 1, none⟩ b).heap[g]? = some (.cells #[a, b] 34 (0, 0)) := heap_setCell_same _ _ 1 _ _ _ (heap_setCell_same W _ 0 _ _ _ h)
set_option maxRecDepth 100000 in
set_option maxHeartbeats 4000000 in
theorem seekMeans_walk (xs : List Rb) (a : Option Addr) (cap : Nat) (s : ByteArray) (p : Int) (w : World) (h : RowW 3 rbC w a xs) (hok : ∀ x ∈ xs, RbOk x) (hn : xs.length ≤ 9223372036854775807) (hp : -9223372036854775808 ≤ p ∧ p < 9223372036854775808) :
    Calls Try.prog 3 #[.slice a xs.length cap, .string s, .int .i64 p] w fun e w' => e = .returned (.bool true) ∧ Below w.heap.size w w' := by
  have kw := written_any xs a cap w h hok hn
  have ko := fun W => xworks_any W
  have kcut := xcut_any s 100
  have hs1 : (s.extract 0 100).size ≤ 100 := by rw [ByteArray.size_extract]; omega
  have pg := Try.noGuardPc
  have KW := hide kw
  have KO := hide ko
  clear kw ko h hok
  generalize s.extract 0 100 = s1 at *
  have KCUT := hide kcut
  have kch := fun W => chars_any s1 W (by omega)
  have KCH := hide kch
  have hln := Cs_len_le (bl s1)
  rw [bl_len] at hln
  obtain ⟨N, hN⟩ : ∃ N, (Cs 0 (bl s1)).length = N := ⟨_, rfl⟩
  have hN100 : N ≤ 100 := by omega
  have kpl := fun (k : Nat) (ca : Option Addr) cc W (hc : SlC W ca (Cs 0 (bl s1))) (hk : k ≤ N) => place_any s1 ca cc W hc k (by rw [hN]; exact hk) (by rw [hN]; omega)
  have kgo := fun (bs : List Bt) g gc ca cc W (hb : SlBt W g bs) (hc : SlC W ca (Cs 0 (bl s1))) (i j : Nat) (hij : i ≤ j) (hj : j ≤ N) (h20 : bs.length ≤ 20) (hh : ∀ b ∈ bs, b.2.2 < 4) => goes_any bs g gc (Cs 0 (bl s1)) ca cc W hb hc i j hij (by rw [hN]; exact hj) (by rw [hN]; omega) h20 hh
  have ffy := fun (bs : List Bt) (i j : Nat) (hij : i ≤ j) (hj : j ≤ N) => find_yes (l := bl s1) (bs := bs) p i j hij (by rw [hN]; exact hj)
  have ffn := fun (bs : List Bt) => find_no (l := bl s1) (bs := bs) p
  rw [hN] at kpl kgo ffy ffn KCH
  have hpl : ∀ k, k ≤ N → psI (bl s1) 0 k ≤ 100 := fun k hk => by have := pl_le (l := bl s1) (i := k) (by rw [hN]; exact hk); rw [bl_len] at this; omega
  have KPL := hide kpl
  have KGO := hide kgo
  have FFY := hide ffy
  have FFN := hide ffn
  have HPL := hide hpl
  have HP := hide hp
  have hNI : (N : Int) ≤ 100 := by omega
  clear kcut kch kpl kgo ffy ffn hpl hln hN
  go_enter Try.func3, Try.ntmps3
  go_upto_region 2 with (go_at_call 4; refine (KW.out).mono ?_; rintro e x ⟨bs, g, gc, h20, hbo, rfl, hsb, hb⟩; have H20 := hide h20; have HBO := hide hbo; have HSB := hide hsb; have HB := hide hb; clear h20 hbo hsb hb KW)
  have hos := outB_size HBO.out
  have hpre : Lib.hasPrefix (outB bs).data.toList (⟨#[92, 105]⟩ : ByteArray).data.toList = false := by
    have : (outB bs).data.toList = bs.flatMap tB := by simp [outB]
    rw [this]
    exact parts_qi bs HBO.out
  have hrd := rd_parts (s := outB bs) (by have := H20.out; omega) bs 0 HBO.out (Nat.zero_le _) (by rw [List.drop_zero]; exact bl_mkW _)
  obtain ⟨its, hits⟩ : ∃ its, its = (bs.map kB).flatMap itsB := ⟨_, rfl⟩
  rw [← hits] at hrd
  have kc := fun W => xcompile_yes (outB bs) W (by have := H20.out; omega) false 0 (by unfold Fd; rw [hpre]; exact ⟨rfl, rfl⟩) its (outB bs).size hrd
  have KC := hide kc
  have HITS := hide hits
  clear kc hrd hpre hos hits
  generalize outB bs = q at *
  have HH4 : Hid (∀ b ∈ bs, b.2.2 < 4) := fun b hb => (HBO.out b hb).2
  go_upto_region 8 with (first
    | (go_at_call 5; refine (KC.out _).mono ?_; rintro e x1 ⟨pb, D, rfl, hpt, hnl, hb⟩; have HPT := hide hpt; have HNL := hide hnl; replace HB := hide (bseq HB.out hb); replace HSB := hide (HSB.out.below hb); clear hpt hnl hb KC)
    | (go_at_call 6; refine (KCUT.out _ (by decide)).mono ?_; rintro e x2 ⟨rfl, hx⟩; obtain rfl : x1 = x2 := hx.symm; clear hx)
    | (go_at_call 7; refine (KCH.out _).mono ?_; rintro e x3 ⟨ca, cc, rfl, hsc, hb⟩; have HSC := hide hsc; replace HB := hide (bseq HB.out hb); replace HSB := hide (HSB.out.below hb); replace HPT := hide (HPT.out.below hb); clear hsc hb))
  have hw0 := heap_alloc_new x3 (.cells #[.int .i64 0, .int .i64 0] 34)
  have hbw : Below x3.heap.size x3 (x3.alloc (.cells #[.int .i64 0, .int .i64 0] 34)) := (Below.refl _ _).alloc (Nat.le_refl _) _
  have hB1 := bseq HB.out hbw
  have hSB1 := HSB.out.below hbw
  have hPT1 := HPT.out.below hbw
  have hSC1 := HSC.out.below hbw
  have hPW : ∀ k, (D k ∨ k = pb) → k ≠ x3.heap.size := fun k hk e => by
    obtain ⟨iv, h1, h2⟩ := HPT.out
    rcases hk with hk | hk
    · have := h2.1 k hk; omega
    · have := (Array.getElem?_eq_some_iff.1 h1).1; omega
  have hGW : ∀ g', g = some ⟨g', 0, none⟩ → bs ≠ [] → g' ≠ x3.heap.size := fun g' hg hne e => by
    rcases HSB.out with h | ⟨g2, ha, hl, _⟩
    · exact hne h
    · rw [ha] at hg
      have : g2 = g' := congrArg Addr.block (Option.some.inj hg)
      omega
  have hCW : ∀ g', ca = some ⟨g', 0, none⟩ → Cs 0 (bl s1) ≠ [] → g' ≠ x3.heap.size := fun g' hg hne e => by
    rcases HSC.out with h | ⟨g2, ha, hl, _⟩
    · exact hne h
    · rw [ha] at hg
      have : g2 = g' := congrArg Addr.block (Option.some.inj hg)
      omega
  have hWB : w.heap.size ≤ x3.heap.size := HB.out.size
  obtain ⟨Wb, hWb⟩ : ∃ Wb, x3.heap.size = Wb := ⟨_, rfl⟩
  rw [hWb] at hw0 hPW hGW hCW hWB ⊢
  have HPW := hide hPW
  have HGW := hide hGW
  have HCW := hide hCW
  have HWB := hide hWB
  have HW0 := hide hw0
  replace HB := hide hB1
  replace HSB := hide hSB1
  replace HPT := hide hPT1
  replace HSC := hide hSC1
  clear hw0 hbw hB1 hSB1 hPT1 hSC1 hPW hGW hCW hWb hWB
  generalize x3.alloc (.cells #[.int .i64 0, .int .i64 0] 34) = X at *
  have keepSt : ∀ (W : World) (va vb : Value), PatL D its q W pb → SlBt W g bs → SlC W ca (Cs 0 (bl s1)) → Below w.heap.size w W →
      PatL D its q ((W.setCell ⟨Wb, 0, none⟩ va).setCell ⟨Wb, 1, none⟩ vb) pb ∧ SlBt ((W.setCell ⟨Wb, 0, none⟩ va).setCell ⟨Wb, 1, none⟩ vb) g bs ∧ SlC ((W.setCell ⟨Wb, 0, none⟩ va).setCell ⟨Wb, 1, none⟩ vb) ca (Cs 0 (bl s1)) ∧ Below w.heap.size w ((W.setCell ⟨Wb, 0, none⟩ va).setCell ⟨Wb, 1, none⟩ vb) := fun W va vb h1 h2 h3 h4 => by
    have ko : ∀ k, k ≠ Wb → ((W.setCell ⟨Wb, 0, none⟩ va).setCell ⟨Wb, 1, none⟩ vb).heap[k]? = W.heap[k]? := fun k hk => (heap_setCell_other _ ⟨Wb, 1, none⟩ k vb hk).trans (heap_setCell_other W ⟨Wb, 0, none⟩ k va hk)
    have hsz : ((W.setCell ⟨Wb, 0, none⟩ va).setCell ⟨Wb, 1, none⟩ vb).heap.size = W.heap.size := by simp [World.setCell]
    refine ⟨h1.keep ⟨by omega, fun k hk => ko k (HPW.out k (.inl hk))⟩ (ko pb (HPW.out pb (.inr rfl))), ?_, ?_, (h4.setCell (p := ⟨Wb, 0, none⟩) HWB.out _).setCell (p := ⟨Wb, 1, none⟩) HWB.out _⟩
    · by_cases hne : bs = []
      · exact .inl hne
      · rcases h2 with h | ⟨g', ha, hl, hs⟩
        · exact absurd h hne
        · refine .inr ⟨g', ha, by omega, fun i b hi => ?_⟩
          have kc := ko g' (HGW.out g' ha hne)
          obtain ⟨a1, a2, a3⟩ := hs i b hi
          exact ⟨(World.cell?_of_block kc).trans a1, (World.cell?_of_block kc).trans a2, (World.cell?_of_block kc).trans a3⟩
    · by_cases hne : Cs 0 (bl s1) = []
      · exact .inl hne
      · rcases h3 with h | ⟨g', ha, hl, hs⟩
        · exact absurd h hne
        · refine .inr ⟨g', ha, by omega, fun i e hi => ?_⟩
          have kc := ko g' (HCW.out g' ha hne)
          obtain ⟨a1, a2, a3, a4⟩ := hs i e hi
          exact ⟨(World.cell?_of_block kc).trans a1, (World.cell?_of_block kc).trans a2, (World.cell?_of_block kc).trans a3, (World.cell?_of_block kc).trans a4⟩
  have KST := hide keepSt
  clear keepSt HPW HGW HCW
  go_wp2_with (fail)
  go_loopw [13, 14] (fun isv iv wr => ∃ (is : Bool) (i wi wj : Nat), isv = .bool is ∧ iv = .int .i64 (i : Int) ∧ i ≤ N + 1 ∧ wr.heap[Wb]? = some (.cells #[.int .i64 (wi : Int), .int .i64 (wj : Int)] 34 (0, 0)) ∧ (PatL D its q wr pb ∧ SlBt wr g bs ∧ SlC wr ca (Cs 0 (bl s1)) ∧ Below w.heap.size w wr) ∧
      (is = true → findV its (bl s1) p = (wi, wj, true)) ∧ (is = false → wi = 0 ∧ wj = 0 ∧ ∀ i' j', i' < i → p ≤ (psI (bl s1) 0 i' : Int) → i' ≤ j' → j' ≤ N → goV bs (Cs 0 (bl s1)) i' j' = false)) (fun _ iv _ => N + 2 - (intOf iv).toNat)
  case atStart => exact ⟨false, 0, 0, 0, rfl, rfl, by omega, HW0.out, ⟨HPT.out, HSB.out, HSC.out, HB.out⟩, fun h => by simp at h, fun _ => ⟨rfl, rfl, fun i' j' h => by omega⟩⟩
  case round =>
    obtain ⟨is, i, wi, wj, rfl, rfl, hi, hwb, ⟨hpt, hsb, hsc, hb⟩, hyes, hno⟩ := hrel
    replace HPT := hide hpt
    replace HSB := hide hsb
    replace HSC := hide hsc
    replace HB := hide hb
    have HWBK := hide hwb
    have HYES := hide hyes
    have HNO := hide hno
    clear hpt hsb hsc hb hwb hyes hno HW0
    have fin : ∀ (A B : Int) (is : Bool), True := fun _ _ _ => trivial
    clear fin
    by_cases hgo : i ≤ N ∧ is = false
    · obtain ⟨hiN, rfl⟩ := hgo
      have hiI : (i : Int) ≤ (N : Int) := by omega
      obtain ⟨rfl, rfl, hfirst⟩ := HNO.out rfl
      have HFIRST := hide hfirst
      have hpi := HPL.out i hiN
      clear HNO HYES hfirst
      by_cases hlt : (psI (bl s1) 0 i : Int) < p
      · go_wp2_with (go_at_call 8; refine (KPL.out i ca cc _ HSC.out hiN).mono ?_; rintro e y ⟨rfl, hx⟩; obtain rfl : wr = y := hx.symm; clear hx)
        go_roundw
        case rel =>
          refine ⟨false, i + 1, 0, 0, rfl, by go_num, by omega, HWBK.out, ⟨HPT.out, HSB.out, HSC.out, HB.out⟩, fun h => by simp at h, fun _ => ⟨rfl, rfl, fun i' j' h1 h2 h3 h4 => ?_⟩⟩
          by_cases e : i' = i
          · subst e; omega
          · exact HFIRST.out i' j' (by omega) h2 h3 h4
        case measure => (simp [intOf]) <;> omega
      · have hge : p ≤ (psI (bl s1) 0 i : Int) := by omega
        have hge0 : ¬ (psI (bl s1) 0 i : Int) < p := hlt
        go_wp2_with (go_at_call 8; refine (KPL.out i ca cc _ HSC.out hiN).mono ?_; rintro e y ⟨rfl, hx⟩; obtain rfl : wr = y := hx.symm; clear hx)
        go_loopw [13, 15] (fun isv jv wr => ∃ (is : Bool) (J wi wj : Nat), isv = .bool is ∧ jv = .int .i64 ((J : Int) - 1) ∧ J ≤ N + 1 ∧ i ≤ J ∧ wr.heap[Wb]? = some (.cells #[.int .i64 (wi : Int), .int .i64 (wj : Int)] 34 (0, 0)) ∧ (PatL D its q wr pb ∧ SlBt wr g bs ∧ SlC wr ca (Cs 0 (bl s1)) ∧ Below w.heap.size w wr) ∧
          (is = true → findV its (bl s1) p = (wi, wj, true)) ∧ (is = false → wi = 0 ∧ wj = 0 ∧ ∀ j', J ≤ j' → j' ≤ N → goV bs (Cs 0 (bl s1)) i j' = false)) (fun _ jv _ => (intOf jv + 1).toNat)
        case atStart => exact ⟨false, N + 1, 0, 0, rfl, by rw [show (((N + 1 : Nat) : Int) - 1) = (N : Int) by omega], Nat.le_refl _, by omega, HWBK.out, ⟨HPT.out, HSB.out, HSC.out, HB.out⟩, fun h => by simp at h, fun _ => ⟨rfl, rfl, fun j' h1 h2 => by omega⟩⟩
        case round =>
          obtain ⟨is, J, wi, wj, rfl, rfl, hJ, hiJ, hwb, ⟨hpt, hsb, hsc, hb⟩, hyes, hno⟩ := hrel
          replace HPT := hide hpt
          replace HSB := hide hsb
          replace HSC := hide hsc
          replace HB := hide hb
          replace HWBK := hide hwb
          have HYES := hide hyes
          have HNO := hide hno
          clear hpt hsb hsc hb hwb hyes hno
          by_cases hgo : i < J ∧ is = false
          · obtain ⟨hiJ2, rfl⟩ := hgo
            obtain ⟨j, hj⟩ : ∃ j, J = j + 1 := ⟨J - 1, by omega⟩
            subst hj
            have hjj : ((j + 1 : Nat) : Int) - 1 = (j : Int) := by omega
            rw [hjj]
            obtain ⟨rfl, rfl, hlast⟩ := HNO.out rfl
            have HLAST := hide hlast
            have hij : i ≤ j := by omega
            have hjN : j ≤ N := by omega
            have hijI : (i : Int) ≤ (j : Int) := by omega
            have kg := fun W (h1 : SlBt W g bs) (h2 : SlC W ca (Cs 0 (bl s1))) => KGO.out bs g gc ca cc W h1 h2 i j hij hjN H20.out HH4.out
            have hpj := HPL.out j hjN
            clear HNO HYES hlast hjj
            obtain ⟨gv, hgv⟩ : ∃ gv, gv = goV bs (Cs 0 (bl s1)) i j := ⟨_, rfl⟩
            rw [← hgv] at kg
            have HGV := hide hgv
            have KG := hide kg
            clear kg hgv
            have M1 := hide trivial
            cases gv with
            | true =>
              have hfy := FFY.out bs i j hij hjN hge HGV.out.symm (fun i' j' h1 h2 h3 h4 => HFIRST.out i' j' h1 h2 h3 h4) (fun j' h1 h2 => HLAST.out j' (by omega) h2)
              rw [← HITS.out] at hfy
              have HFYY := hide hfy
              clear hfy
              go_upto_region 18 with (first
                | (go_at_call 9; refine (KG.out _ HSB.out HSC.out).mono ?_; rintro e y1 ⟨rfl, hb⟩; replace HWBK := hide ((hb.block Wb (Array.getElem?_eq_some_iff.1 HWBK.out).1).trans HWBK.out); replace HB := hide (bseq HB.out hb); replace HSB := hide (HSB.out.below hb); replace HSC := hide (HSC.out.below hb); replace HPT := hide (HPT.out.below hb); have hz0 := cel2 HWBK.out 0 _ rfl; have hz1 := cel2 HWBK.out 1 _ rfl; have hzf : ∀ o, World.frozen? y1 ⟨Wb, o, none⟩ = false := fun o => by { have hh := HWBK.out; simp [World.frozen?, hh] }; clear hb KG)
                | (go_at_call 8; clear M1; refine (KPL.out i ca cc _ HSC.out hiN).mono ?_; rintro e y2 ⟨rfl, hx⟩; obtain rfl : y1 = y2 := hx.symm; clear hx)
                | (go_at_call 8; refine (KPL.out j ca cc _ HSC.out hjN).mono ?_; rintro e y3 ⟨rfl, hx⟩; obtain rfl : y1 = y3 := hx.symm; clear hx))
              obtain ⟨k1, k2, k3, k4⟩ := KST.out y1 (.int .i64 (psI (bl s1) 0 i : Int)) (.int .i64 (psI (bl s1) 0 j : Int)) HPT.out HSB.out HSC.out HB.out
              have k5 := setP2 HWBK.out (.int .i64 (psI (bl s1) 0 i : Int)) (.int .i64 (psI (bl s1) 0 j : Int))
              have K1 := hide k1
              have K2 := hide k2
              have K3 := hide k3
              have K4 := hide k4
              have K5 := hide k5
              clear k1 k2 k3 k4 k5 hz0 hz1 hzf HPT HSB HSC HB HWBK
              generalize (y1.setCell ⟨Wb, 0, none⟩ (.int .i64 (psI (bl s1) 0 i : Int))).setCell ⟨Wb, 1, none⟩ (.int .i64 (psI (bl s1) 0 j : Int)) = Z at *
              go_wp2_with (fail)
              go_roundw
              case rel => exact ⟨true, j, _, _, rfl, rfl, by omega, by omega, K5.out, ⟨K1.out, K2.out, K3.out, K4.out⟩, fun _ => HFYY.out, fun h => by simp at h⟩
              case measure => (simp [intOf]) <;> omega
            | false =>
              go_wp2_with (go_at_call 9; refine (KG.out _ HSB.out HSC.out).mono ?_; rintro e y1 ⟨rfl, hb⟩; replace HWBK := hide ((hb.block Wb (Array.getElem?_eq_some_iff.1 HWBK.out).1).trans HWBK.out); replace HB := hide (bseq HB.out hb); replace HSB := hide (HSB.out.below hb); replace HSC := hide (HSC.out.below hb); replace HPT := hide (HPT.out.below hb); clear hb KG)
              go_roundw
              case rel =>
                refine ⟨false, j, 0, 0, rfl, rfl, by omega, by omega, HWBK.out, ⟨HPT.out, HSB.out, HSC.out, HB.out⟩, fun h => by simp at h, fun _ => ⟨rfl, rfl, fun j' h1 h2 => ?_⟩⟩
                by_cases e : j' = j
                · subst e; exact HGV.out.symm
                · exact HLAST.out j' (by omega) h2
              case measure => (simp [intOf]) <;> omega
          · have HNX : Hid (is = false → wi = 0 ∧ wj = 0 ∧ ∀ i' j', i' < i + 1 → p ≤ (psI (bl s1) 0 i' : Int) → i' ≤ j' → j' ≤ N → goV bs (Cs 0 (bl s1)) i' j' = false) := fun h => by
              obtain ⟨h1, h2, h3⟩ := HNO.out h
              refine ⟨h1, h2, fun i' j' g1 g2 g3 g4 => ?_⟩
              by_cases e : i' = i
              · subst e
                have hJi : J ≤ i' := by
                  rcases Nat.lt_or_ge i' J with k | k
                  · exact absurd ⟨k, h⟩ hgo
                  · exact k
                exact h3 j' (by omega) g4
              · exact HFIRST.out i' j' (by omega) g2 g3 g4
            clear HNO
            by_cases hiJ2 : i < J
            · obtain rfl : is = true := by cases is with | true => rfl | false => exact absurd ⟨hiJ2, rfl⟩ hgo
              have hijI : (i : Int) ≤ (J : Int) - 1 := by omega
              clear hgo
              go_wp2_with (fail)
              go_roundw
              case rel => exact ⟨true, i + 1, _, _, rfl, by go_num, by omega, HWBK.out, ⟨HPT.out, HSB.out, HSC.out, HB.out⟩, HYES.out, HNX.out⟩
              case measure => (simp [intOf]) <;> omega
            · have hijI : (J : Int) - 1 < (i : Int) := by omega
              clear hgo
              go_wp2_with (fail)
              go_roundw
              case rel => exact ⟨is, i + 1, _, _, rfl, by go_num, by omega, HWBK.out, ⟨HPT.out, HSB.out, HSC.out, HB.out⟩, HYES.out, HNX.out⟩
              case measure => (simp [intOf]) <;> omega
    · have hres : findV its (bl s1) p = (wi, wj, is) := by
        cases is with
        | true => exact HYES.out rfl
        | false =>
          obtain ⟨h1, h2, h3⟩ := HNO.out rfl
          have hNi : ¬ i ≤ N := fun h => hgo ⟨h, rfl⟩
          rw [h1, h2, HITS.out]
          exact FFN.out bs (fun i' j' g1 g2 g3 => h3 i' j' (by omega) g1 g2 g3)
      have kfi := fun W (h : PatL D its q W pb) => find_any D its q s1 W pb h (by have := HNL.out; omega) (by omega) p HP.out
      rw [hres] at kfi
      simp only at kfi
      have KFI := hide kfi
      have pe := fun W => piece_same (wi : Int) (wj : Int) W
      clear kfi hres HYES HNO
      by_cases hiN : i ≤ N
      · obtain rfl : is = true := by cases is with | true => rfl | false => exact absurd ⟨hiN, rfl⟩ hgo
        have hiI : (i : Int) ≤ (N : Int) := by omega
        clear hgo
        go_wp2_with (first
          | (go_at_call 10; refine (KFI.out _ HPT.out).mono ?_; rintro e y ⟨rfl, hb⟩; have hz := (hb.block Wb (Array.getElem?_eq_some_iff.1 HWBK.out).1).trans HWBK.out; have z0 := cel2 hz 0 _ rfl; have z1 := cel2 hz 1 _ rfl; have zs := (Array.getElem?_eq_some_iff.1 hz).1; replace HB := hide (bseq HB.out hb); clear hb KFI hz)
          | (go_at_call 11; refine (KO.out _).mono ?_; rintro e y9 ⟨rfl, hb⟩; have HY9 := hide hb; clear hb))
        go_ret
        exact ⟨rfl, bseq (HB.out.alloc HB.out.size _) HY9.out⟩
      · have hiI : (N : Int) < (i : Int) := by omega
        clear hgo
        cases is
        · skip
          go_wp2_with (first
            | (go_at_call 10; refine (KFI.out _ HPT.out).mono ?_; rintro e y ⟨rfl, hb⟩; have hz := (hb.block Wb (Array.getElem?_eq_some_iff.1 HWBK.out).1).trans HWBK.out; have z0 := cel2 hz 0 _ rfl; have z1 := cel2 hz 1 _ rfl; have zs := (Array.getElem?_eq_some_iff.1 hz).1; replace HB := hide (bseq HB.out hb); clear hb KFI hz)
            | (go_at_call 11; refine (KO.out _).mono ?_; rintro e y9 ⟨rfl, hb⟩; have HY9 := hide hb; clear hb))
          go_ret
          exact ⟨rfl, bseq (HB.out.alloc HB.out.size _) HY9.out⟩
        · skip
          go_wp2_with (first
            | (go_at_call 10; refine (KFI.out _ HPT.out).mono ?_; rintro e y ⟨rfl, hb⟩; have hz := (hb.block Wb (Array.getElem?_eq_some_iff.1 HWBK.out).1).trans HWBK.out; have z0 := cel2 hz 0 _ rfl; have z1 := cel2 hz 1 _ rfl; have zs := (Array.getElem?_eq_some_iff.1 hz).1; replace HB := hide (bseq HB.out hb); clear hb KFI hz)
            | (go_at_call 11; refine (KO.out _).mono ?_; rintro e y9 ⟨rfl, hb⟩; have HY9 := hide hb; clear hb))
          go_ret
          exact ⟨rfl, bseq (HB.out.alloc HB.out.size _) HY9.out⟩
end Go.Proofs.Ytedfnppekikcpaa
namespace Go.Proofs.Ytedfnppekikcpaa
open Go.ChangeShapes Go.WideShapes Go.ChangeAt Go.RowKit
set_option linter.unusedVariables false
set_option maxRecDepth 100000

theorem Try.cellsBt : Try.prog.cellsOf 42 = 3 := by kernel_rfl
theorem Try.cellsBr : Try.prog.cellsOf 21 = 1 := by kernel_rfl
theorem Try.cellsBb : Try.prog.cellsOf 4 = 1 := by kernel_rfl
theorem Try.cellsBi : Try.prog.cellsOf 3 = 1 := by kernel_rfl
theorem bit_cells {H : Type} {enc : TypeId × Value → H} {W : World} (fuel : Nat) (cs : List Value) (x : DataW H × List MemPlace)
    (h : DataW.trod enc Try.prog W 0 (fun _ => true) true fuel 42 cs = some x) : ∃ b : Rb, cs = rbC b ∧ RbOk b ∧ 0 ≤ Rows.uptoBulk x.1 := by
  obtain ⟨xs, n, _, hx, hl, hlen, hf⟩ := DataW.trod_struct Try.underlying42 h
  rw [Try.cellsBt] at hl
  match cs, hl with
  | [c0, c1, c2], _ =>
    match xs, hlen with
    | [y0, y1, y2], _ =>
      have h0 := hf 0 _ rfl
      have h1 := hf 1 _ rfl
      have h2 := hf 2 _ rfl
      simp [Try.cellsBr, Try.cellsBb, Try.cellsBi] at h0 h1 h2
      obtain ⟨z0, e0, g0, w0⟩ := DataW.trod_int Try.underlying21 h0
      obtain ⟨z1, e1, _⟩ := DataW.trod_bool Try.underlying4 h1
      obtain ⟨z2, e2, g2, w2⟩ := DataW.trod_int Try.underlying3 h2
      simp at e0 e1 e2
      subst e0 e1 e2
      exact ⟨(z0, z1, z2), rfl, ⟨bounds_i32 w0, bounds_i64 w2⟩, Nat.zero_le _⟩
set_option maxHeartbeats 400000 in
theorem open_bits {H : Type} {enc : TypeId × Value → H} {W : World} {v : Value} {d : DataW H} {p : List MemPlace} (h : DataW.Trod enc Try.prog W 0 (fun _ => true) true 22 v d p) (hv : ∃ a l c, v = .slice a l c) :
    ∃ (a : Option Addr) (ns c : Nat) (xs : List Rb), v = .slice a ns c ∧ RowW 3 rbC W a xs ∧ (∀ x ∈ xs, RbOk x) ∧ xs.length = ns ∧ ns ≤ 9223372036854775807 := by
  obtain ⟨a, l, c, rfl⟩ := hv
  obtain ⟨fuel, hf⟩ := h
  have hf : DataW.trod enc Try.prog W 0 (fun _ => true) true fuel 22 [.slice a l c] = some (d, p) := by simpa [Value.cells] using hf
  obtain ⟨xs, h1, h2, h3, _, h5, h6, _⟩ := open_row (H := H) (enc := enc) (α := Rb) rbC (fun x _ => RbOk x) (fun _ => 0) Try.underlying22 Try.cellsBt (by decide) (fun _ => rfl) (fun fuel cs x hx => bit_cells fuel cs x hx) hf
  subst h1
  refine ⟨a, _, c, xs, rfl, h2, fun x hx => ?_, rfl, ?_⟩
  · obtain ⟨_, hq⟩ := h3 x hx
    exact hq
  · have : maxLen ≤ 9223372036854775807 := by unfold maxLen; omega
    omega
end Go.Proofs.Ytedfnppekikcpaa
namespace Go.Proofs.Ytedfnppekikcpaa.seekMeans
open Go.ChangeShapes Go.WideShapes Go.ChangeAt Go.RowKit Go.Proofs.Ytedfnppekikcpaa
set_option linter.unusedVariables false

set_option maxRecDepth 100000 in
theorem lifted (os : Os) (started : os.Started) (H : Type) (enc : TypeId × Value → H) :
    ReturnsInHanded {} Try.checked os 3 .any (Rows.seekMeansSpec.pre6 enc Try.prog Try.f3 Rows.seekMeansRow.domain false) (Rows.seekMeansSpec.post enc Try.prog Try.f3 false true false false) := by
  refine returnsInHanded_of_change (C := Try.checked) own started (by kernel_rfl) Try.func3
    (ChangeSpec.witness6 (enc := enc) (C := Try.checked) false ⟨#[], #[.slice none 0 0, .string ⟨#[]⟩, .int .i64 0], []⟩ 8 (by kernel_rfl) (by kernel_rfl) (by kernel_rfl) (by kernel_rfl)) ?_
  intro W base args ds gs before hval0 hW hcnd _
  have hval : ∀ (j : Nat) t v, Try.f3.params[j]? = some t → args[j]? = some v → Value.okWide Try.prog W .any base t v := hval0
  have hW' := hW
  obtain ⟨p, q, hA0, hV, rfl, hfz, hnd⟩ := hW
  have hA : DataW.TrodAll enc Try.prog W 0 (fun _ => true) true Try.f3.params.toList args.toList ds p := hA0
  rw [Try.params3] at hA hval
  obtain ⟨v0, vs0, d0, ds0, p0, q0, hargs, rfl, rfl, h0, r0⟩ := trodAll_cons hA
  obtain ⟨v1, vs1, d1, ds1, p1, q1, rfl, rfl, rfl, h1, r1⟩ := trodAll_cons r0
  obtain ⟨v2, vs2, d2, ds2, p2, q2, rfl, rfl, rfl, h2, r2⟩ := trodAll_cons r1
  obtain ⟨rfl, rfl, rfl⟩ := trodAll_nil r2
  obtain rfl : args = #[v0, v1, v2] := by cases args; simp_all
  obtain ⟨rfl, rfl⟩ := trodVars_none hV
  have k0 := h0
  have lt0 : ∀ x ∈ p0, x.block < W.heap.size := by obtain ⟨m, hm⟩ := k0; exact DataW.trod_lt m _ _ _ hm
  obtain ⟨qa0, qn0, qc0, xs0, rfl, hx0, ho0, rfl, hb0⟩ := open_bits h0 (by obtain ⟨a, l, c, e⟩ := okWide_slice Try.underlying22 (hval 0 22 v0 rfl rfl); exact ⟨a, l, c, e⟩)
  obtain ⟨a1, rfl, rfl, rfl, l1⟩ := Go.ChangeMaps.open_string Try.underlying9 (hval 1 9 v1 rfl rfl) h1
  have n1 : a1.size ≤ 9223372036854775807 := l1
  obtain ⟨a2, rfl, rfl, rfl, w2⟩ := open_int Try.underlying3 (hval 2 3 v2 rfl rfl) h2
  have b2 := bounds_i64 w2
  clear hval0
  clear hA0
  refine (seekMeans_walk xs0 qa0 qc0 a1 a2 W hx0 ho0 hb0 (by omega)).mono fun e W' ⟨he, bel⟩ => ?_
  subst he
  exact ⟨_, rfl, _, _, _, [], _, [], hW', trodAll_mk1 (shut_bool Try.underlying4 _), (trodAll_cons_mk (Below.trod laidOut (by kernel_rfl) (of_decide_eq_true (by kernel_rfl)) k0 bel lt0) (trodAll_cons_mk (Go.ChangeMaps.shut_string Try.underlying9 l1) (trodAll_cons_mk (shut_int Try.underlying3 w2) trodAll_mk0))), rfl, bel.frame _, fun h => by cases h⟩

theorem over : Rows.seekMeansRow.holds Try.pinned (OpenSpec.ofChange Rows.seekMeansSpec) :=
  OpenClaim.holds_of_wide 3 Try.f3 rfl rfl rfl rfl rfl rfl rfl ⟨rfl, rfl, rfl, rfl, rfl⟩ rfl rfl rfl rfl rfl (by kernel_rfl) Try.func3 (by kernel_rfl)
    (of_decide_eq_true (by kernel_rfl)) (by unfold Func.isWrapper; first | (rw [if_pos (by decide +kernel)]; kernel_rfl) | (rw [if_neg (by decide +kernel)]; exact ⟨rfl, rfl⟩))
    (fun os started H enc _ => lifted os started H enc)

end Go.Proofs.Ytedfnppekikcpaa.seekMeans

namespace Go.Proofs.Ytedfnppekikcpaa
/-- SeekMeans, as it is stated. -/
theorem seekMeans_holds : Rows.SeekMeansSaid := seekMeans.over
#print axioms seekMeans_holds
end Go.Proofs.Ytedfnppekikcpaa
