/- ScanApart, walked: two lines that have no fault. -/
import Derived.Test.YtnodeapjgicclaaDoorSApW
namespace Go.Proofs.YtnodeapjgicclaaDoor
open Go.RowKit Go.Shelf
set_option linter.unusedVariables false

theorem RowT.cases {W : World} {base : Nat} {v : Value} {ts : List Tk} (h : RowT W base v ts) : (v = .slice none 0 0 ∧ ts = []) ∨ ∃ g cap, v = .slice (some ⟨g, 0, none⟩) ts.length cap ∧ SlK W (some ⟨g, 0, none⟩) (ts.map toI) := by
  rcases h.2 with ⟨h1, h2⟩ | ⟨g, cap, cur, hv, hg, hh, hnc, hcap, hs, hc⟩
  · exact .inl ⟨h1, List.eq_nil_of_length_eq_zero h2⟩
  · obtain ⟨a, c, hv2, hsl⟩ := h.slk
    rw [hv] at hv2
    cases hv2
    exact .inr ⟨g, cap, hv, hsl⟩
theorem RowI.slk' {W : World} {base : Nat} {v : Value} {ts : List TkI} (h : RowI W base v ts) : ∃ a cap, v = .slice a ts.length cap ∧ SlK W a ts := by
  by_cases h0 : 0 < ts.length
  · obtain ⟨g, cap, hv, _, hs⟩ := h.slk h0
    exact ⟨_, cap, hv, hs⟩
  · have hn : ts = [] := List.eq_nil_of_length_eq_zero (by omega)
    subst hn
    rcases h.2 with ⟨h1, h2⟩ | ⟨g, cap, cur, hv, hg, hh, hnc, hcap, hs, hc⟩
    · exact ⟨none, 0, h1, .inl rfl⟩
    · exact ⟨_, cap, hv, .inl rfl⟩
theorem RowI.below {W W' : World} {base : Nat} {v : Value} {ts : List TkI} (h : RowI W base v ts) (hb : Below W.heap.size W W') : RowI W' base v ts := by
  refine ⟨h.1, ?_⟩
  rcases h.2 with h2 | ⟨g, cap, cur, hv, hg, hh, r⟩
  · exact .inl h2
  · exact .inr ⟨g, cap, cur, hv, hg, (hb.block g (Array.getElem?_eq_some_iff.1 hh).1).trans hh, r⟩
/-- A token moved by so many places. -/
def shI (n : Nat) (t : TkI) : TkI := (t.1, t.2.1 + (n : Int), t.2.2.1, t.2.2.2)
theorem shI_toI (n : Nat) (us : List Tk) : (us.map (shT n)).map toI = (us.map toI).map (shI n) := by
  simp only [List.map_map]
  refine List.map_congr_left fun t _ => ?_
  simp [toI, shT, shI]
set_option maxRecDepth 100000 in
set_option maxHeartbeats 8000000 in
theorem apart_both (a b : ByteArray) (ts us : List Tk) (w : World) (hl : a.size + 1 + b.size ≤ 16384) (hA : RS a = .inl ts) (hB : RS b = .inl us) (hC : RS (mid a b) = .inl (ts ++ us.map (shT (a.size + 1))))
    (hts : ts.length ≤ 16384) (hus : us.length ≤ 16384) (hat : ∀ t ∈ us, t.2.1 ≤ 16384) (hL : LaidW w) (hZ : LaidZ w) :
    Calls Tryd.prog 4 #[.string a, .string b] w fun e w' => e = .returned (.bool true) ∧ Below w.heap.size w w' := by
  obtain ⟨i0, hi, hz0, hz1, hz2⟩ := info_parts Tryd.infoTk
  have ka := fun W h => scan_full a W h
  have kb := fun W h => scan_full b W h
  have kc := fun W h => scan_full (mid a b) W h
  rw [hA] at ka
  rw [hB] at kb
  rw [hC] at kc
  have KA := hide ka
  have KB := hide kb
  have KC := hide kc
  have HL := hide hL
  have HZ := hide hZ
  have HAT := hide hat
  have hlI : (a.size : Int) + 1 + (b.size : Int) ≤ 16384 := by omega
  have htsI : (ts.length : Int) ≤ 16384 := by omega
  have husI : (us.length : Int) ≤ 16384 := by omega
  clear ka kb kc hL hZ hA hB hC hat
  go_enter Tryd.func4, Tryd.ntmps4
  go_wp2_with (fail)
  refine (KA.out _ HL.out).mono ?_
  rintro e x1 ⟨v1, rfl, hrow1, hb1⟩
  have HB1 := hide hb1
  have HROW1 := hide hrow1
  clear hrow1 hb1
  go_wp2_with (fail)
  refine (KB.out _ (HL.out.below HB1.out)).mono ?_
  rintro e x2 ⟨v2, rfl, hrow2, hb2⟩
  have HROW1' := hide (HROW1.out.below hb2)
  have HROW2 := hide hrow2
  have HB2 := hide (bseq HB1.out hb2)
  clear hrow2 hb2 HROW1
  go_wp2_with (fail)
  refine (KC.out _ (HL.out.below HB2.out)).mono ?_
  rintro e x3 ⟨v3, rfl, hrow3, hb3⟩
  have HR1 := hide (HROW1'.out.below hb3)
  obtain ⟨a2, cap2, rfl, hs2⟩ := (HROW2.out.below hb3).slk
  obtain ⟨a3, cap3, rfl, hs3⟩ := hrow3.slk
  have HS2 := hide hs2
  have HS3 := hide hs3
  have HB3 := hide (bseq HB2.out hb3)
  clear hrow3 hb3 HROW1' HROW2 hs2 hs3 KA KB KC
  go_upto_region 13 with (first | (go_at_call 8; refine (isFault_nil 71 (a.size : Int) _).mono ?_; rintro e x4 ⟨rfl, hx4⟩; subst hx4; rw [show ((71 : Int) == 0) = false from rfl]))
  go_cut [11] (fun v wx => RowI wx x4.heap.size v (ts.map toI) ∧ Below x4.heap.size x4 wx)
  case first =>
    rcases HR1.out.cases with ⟨rfl, rfl⟩ | ⟨g1, cap1, rfl, hs1⟩
    · go_wp2_with (fail)
      go_meet
      exact ⟨World.ownsRow_nil _ _ _ _, Below.refl _ _⟩
    · go_wp2_with (at_builtin; refine wpList_append_own_at _ rfl _ _ 22 rfl x4.heap.size 32 i0 (.agg #[.int .i64 0, .int .i64 0, .string ⟨#[]⟩, .int .i64 0]) 4 40 Tryd.underlying22 hi hz0 hz1 hz2 rfl (by decide) (.slice none 0 0) 0 [] rfl (World.ownsRow_nil _ _ _ _) ⟨g1, 0, none⟩ ts.length cap1 ((ts.map toI).flatMap tcI) rfl (by rw [tcI_len, List.length_map]) (slk_news' hs1) (tcI_one _) (by unfold maxLen; omega) (by omega) (Nat.le_refl _) ?_; intro v1 w1 hown1 hgrow1 _ _)
      go_meet
      refine ⟨?_, (Below.refl _ x4).grown hgrow1 (Nat.le_refl _) (fun k e => absurd e (by simp [Value.ownBlock]))⟩
      unfold RowI
      rw [List.length_map]
      rw [Nat.zero_add, List.nil_append] at hown1
      exact hown1
  case rest =>
    obtain ⟨hrow, hbc⟩ := hcut
    have HROW0 := hide hrow
    have HBC := hide hbc
    clear hrow hbc HR1
    go_wp2_with (fail)
    go_loopw [11, 12] (fun v i wr => ∃ k : Nat, i = .int .i64 (k : Int) ∧ k ≤ us.length ∧ RowI wr x4.heap.size v (ts.map toI ++ ((us.map toI).take k).map (shI (a.size + 1))) ∧ Below x4.heap.size x4 wr) (fun _ i _ => us.length - (intOf i).toNat)
    case atStart => exact ⟨0, rfl, Nat.zero_le _, by simpa using HROW0.out, HBC.out⟩
    case round =>
      clear HROW0 HBC
      obtain ⟨k, rfl, hk, hrow, hB⟩ := hrel
      have HROW := hide hrow
      have HB := hide hB
      have hBw := hB.size
      clear hrow hB
      by_cases hlt : k < us.length
      · obtain ⟨t, ht⟩ : ∃ t, us[k]? = some t := ⟨_, List.getElem?_eq_getElem hlt⟩
        have hxs : (us.map toI)[k]? = some (toI t) := by rw [List.getElem?_map, ht]; rfl
        have htA := HAT.out t (List.mem_of_getElem? ht)
        have hnext : ((us.map toI).take (k + 1)).map (shI (a.size + 1)) = ((us.map toI).take k).map (shI (a.size + 1)) ++ [shI (a.size + 1) (toI t)] := by
          rw [List.take_add_one, hxs, List.map_append]; rfl
        have hcl : (ts.map toI ++ ((us.map toI).take k).map (shI (a.size + 1))).length = ts.length + k := by
          rw [List.length_append, List.length_map, List.length_map, List.length_take, List.length_map]; omega
        obtain ⟨b0, off, rfl, v0, v1, v2, v3⟩ := tok_cells (HS2.out.below HB.out) hxs
        obtain ⟨k1, A1, tl, n1⟩ := t
        simp only [toI, shI] at v0 v1 v2 v3 htA hnext
        generalize (⟨tl.toArray⟩ : ByteArray) = tx at *
        generalize hrw : ts.map toI ++ ((us.map toI).take k).map (shI (a.size + 1)) = RW at *
        have HNX := hide hnext
        have HRW := hide hrw
        have htAI : (A1 : Int) ≤ 16384 := by omega
        have hltI : (k : Int) < (us.length : Int) := by omega
        clear ht hxs hnext hrw htA HS2 HS3
        go_upto_region 19 with (fail)
        have hbx : Below wr.heap.size wr (wr.alloc (.cells #[.int .i64 k1, .int .i64 ((A1 : Int) + (a.size : Int) + 1), .string tx, .int .i64 n1] 32)) := (Below.refl _ wr).alloc (Nat.le_refl _) _
        have hrx := HROW.out.below hbx
        have hBX := bseq HB.out hbx
        obtain ⟨⟨c0, c1⟩, c2, c3⟩ := four_at (heap_alloc_new wr (.cells #[.int .i64 k1, .int .i64 ((A1 : Int) + (a.size : Int) + 1), .string tx, .int .i64 n1] 32))
        generalize (wr.alloc (.cells #[.int .i64 k1, .int .i64 ((A1 : Int) + (a.size : Int) + 1), .string tx, .int .i64 n1] 32)) = X at *
        have HRX := hide hrx
        have HBX := hide hBX
        have hXs := hBX.size
        clear hrx hBX hbx HROW HB v0 v1 v2 v3
        go_wp2_with (at_builtin; refine wpList_append_own_at _ rfl _ _ 22 rfl x4.heap.size 32 i0 (.agg #[.int .i64 0, .int .i64 0, .string ⟨#[]⟩, .int .i64 0]) 4 40 Tryd.underlying22 hi hz0 hz1 hz2 rfl (by decide) u11 RW.length (RW.flatMap tcI) rfl (HRX.out.alloc _) ⟨X.heap.size, 0, none⟩ 1 1 [.int .i64 k1, .int .i64 ((A1 : Int) + (a.size : Int) + 1), .string tx, .int .i64 n1] rfl rfl (cell4_new _ _ _ _ _ _) (by simp [Value.oneCell']) (by unfold maxLen; omega) (by omega) (by simp; omega) ?_; intro v5 w5 hown5 hgrow5 _ _)
        go_roundw
        case rel =>
          refine ⟨k + 1, by go_num, by omega, ?_, ?_⟩
          · rw [HNX.out, ← List.append_assoc, HRW.out]
            unfold RowI
            rw [flatI_snoc, List.length_append, List.length_singleton]
            have e : (A1 : Int) + ((a.size + 1 : Nat) : Int) = (A1 : Int) + (a.size : Int) + 1 := by omega
            simp only [e]
            exact hown5
          · exact (HBX.out.alloc HBX.out.size _).grown hgrow5 (by simp; omega) (fun k e => (HRX.out.lt k e).1)
        case measure => simp [intOf]; omega
      · have hge : (us.length : Int) ≤ (k : Int) := by omega
        have hke : (us.map toI).take k = us.map toI := List.take_of_length_le (by rw [List.length_map]; omega)
        have hr := HROW.out
        rw [hke, ← shI_toI, ← List.map_append] at hr
        obtain ⟨a5, cap5, hv5, hs5⟩ := hr.slk'
        have hs3 := HS3.out.below HB.out
        have ksm := fun W h1 h2 => same_toks a3 a5 cap3 cap5 ((ts ++ us.map (shT (a.size + 1))).map toI) W h1 h2 (by rw [List.length_map, List.length_append, List.length_map]; omega)
        have hln : ((ts ++ us.map (shT (a.size + 1))).map toI).length = ts.length + us.length := by rw [List.length_map, List.length_append, List.length_map]
        rw [hln] at ksm hv5
        subst hv5
        have KSM := hide (ksm _ hs3 hs5)
        have HBW := hide (bseq HB3.out HB.out)
        clear ksm hs3 hs5 hr hke HROW HB
        go_wp2_with (first | (go_at_call 9; refine (KSM.out).mono ?_; rintro e x5 ⟨rfl, n5, hx5⟩; have HB5 := hide (below_drewN HBW.out n5); rw [← hx5] at HB5; clear hx5) | (go_at_call 6; refine (works_any _ (HL.out.below HB5.out) (HZ.out.below HB5.out)).mono ?_; rintro e q ⟨rfl, hq⟩))
        go_ret
        exact ⟨rfl, bseq HB5.out hq⟩
theorem apart_road (a b : ByteArray) (w : World) (ha : a.size ≤ 1048576) (hb : b.size ≤ 1048576) (hL : LaidW w) (hZ : LaidZ w) (hE : LaidE w) :
    Calls Tryd.prog 4 #[.string a, .string b] w fun e w' => e = .returned (.bool true) ∧ Below w.heap.size w w' := by
  by_cases hl : 16384 < a.size + 1 + b.size
  · exact apart_long a b w ha hb hl hL hZ hE
  have hA := rs_small (s := a) (by omega)
  have hB := rs_small (s := b) (by omega)
  have hC := rs_small (s := mid a b) (by rw [mid_size]; omega)
  rw [mid_bl] at hC
  obtain ⟨p1, p2, p3⟩ := Sc_apart (bl a) (bl b)
  rw [bl_len] at p1 p3
  cases eA : Sc (bl a) 0 [] with
  | inr f =>
    obtain ⟨c, p⟩ := f
    refine apart_first a b c p w (by omega) (by rw [hA, eA]) (fun hne => ?_) hL hZ hE
    obtain ⟨g, hg⟩ := p1 _ eA hne
    exact ⟨g, by rw [hC, hg]⟩
  | inl ts =>
    cases eB : Sc (bl b) 0 [] with
    | inr f =>
      obtain ⟨g, hg⟩ := p2 ts f eA eB
      exact apart_second a b ts f g w (by omega) (by rw [hA, eA]) (by rw [hB, eB]) (by rw [hC, hg]) hL hZ hE
    | inl us =>
      have c1 := Gd_count (Sc_good eA)
      have c2 := Gd_count (Sc_good eB)
      have at2 := Gd_at (Sc_good eB)
      rw [bl_len] at c1 c2
      refine apart_both a b ts us w (by omega) (by rw [hA, eA]) (by rw [hB, eB]) (by rw [hC, p3 ts us eA eB]) (by omega) (by omega) (fun t ht => ?_) hL hZ
      obtain ⟨k, hk⟩ := List.getElem?_of_mem ht
      obtain ⟨h1, h2, _⟩ := at2 k t hk
      rw [bl_len] at h2
      omega
end Go.Proofs.YtnodeapjgicclaaDoor
