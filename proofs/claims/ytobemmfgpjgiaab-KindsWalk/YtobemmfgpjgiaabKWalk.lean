/- The road of KindsWalk: of every text and place it returns true, and writes nothing that was there. -/
import Derived.Test.YtobemmfgpjgiaabKWkN
import Derived.Test.YtobemmfgpjgiaabKAwk
import Derived.Deep.QuietTactic
import Derived.BigQuiet
import Derived.WalkSmall
namespace Go.Proofs.Ytobemmfgpjgiaab.kindsWalk
open Go.RowKit Go.Shelf Go.Proofs.Ytobemmfgpjgiaab
set_option linter.unusedVariables false

theorem cell_low {W W' : World} {a : Addr} {v : Value} (h : W.cell? a = some v) (hB : Below W.heap.size W W') (ha : a.block < W.heap.size) : W'.cell? a = some v := by
  unfold World.cell? at *
  rw [hB.block a.block ha]
  exact h
/-- What the row of stops holds. -/
theorem row_cells {W : World} {base : Nat} {v : Value} {ps : List Nat} (hn : ps ≠ []) (h : W.ownsRow base 3 1 v ps.length (ps.map I64k)) : ∃ g cap, v = .slice (some ⟨g, 0, none⟩) ps.length cap ∧ g < W.heap.size ∧ ∀ (i p : Nat), ps[i]? = some p → W.cell? ⟨g, i, none⟩ = some (.int .i64 (p : Int)) := by
  rcases h.2 with ⟨rfl, h0⟩ | ⟨g, cap, cur, rfl, _, hg, hl, _, hs, hc⟩
  · exact absurd (List.eq_nil_of_length_eq_zero h0) hn
  · refine ⟨g, cap, rfl, (Array.getElem?_eq_some_iff.1 hg).1, fun i p hp => ?_⟩
    have h1 : (ps.map I64k)[i]? = some (.int .i64 (p : Int)) := by rw [List.getElem?_map, hp]; rfl
    have h2 : i < ps.length := (List.getElem?_eq_some_iff.1 hp).1
    rw [← hc, List.getElem?_take, if_pos (by omega)] at h1
    simp only [World.cell?, hg]
    simpa using h1

set_option maxHeartbeats 8000000 in
theorem walkS (s : ByteArray) (n0 : Int) (w : World) (hs : s.size ≤ 3000) :
    Calls Try.prog 3 #[.string s, .int .i64 n0] w fun e w' => e = .returned (.bool true) ∧ Below w.heap.size w w' := by
  have ks := fun w => stops_any s w (by omega)
  have hz := After.zero (bl s)
  have hbst := fun j x y h k => @back_stop (bl s) j x y h k
  have hbf := fun x h => @back_first (bl s) x h
  have hbd := fun j x h => (@Sp_take (bl s) j x h).1
  have hne := next_end (bl s)
  rw [bl_len] at hz hbst hbf hbd hne
  have hlast : (Sp (bl s) ++ [s.size])[(Sp (bl s)).length]? = some s.size := by simp
  have hlen : (Sp (bl s) ++ [s.size]).length = (Sp (bl s)).length + 1 := by simp
  have hSl : (Sp (bl s)).length ≤ 3000 := by
    have h1 := stp_len (Cs 0 (bl s)) 7
    have h2 := Cs_len_le (bl s)
    rw [bl_len] at h2
    show (stp 7 (Cs 0 (bl s))).length ≤ 3000
    omega
  generalize (Sp (bl s)).length = m at *
  generalize Sp (bl s) ++ [s.size] = F at *
  have hszm : s.size ≤ 9223372036854775807 := by omega
  have hnl : nextV (bl s) (s.size : Int) = s.size := by rw [nextV_Bd (.inr (bl_len s).symm)]; exact hne
  have hb0 : backV (bl s) 0 = 0 := by
    have h := backV_Bd (Bd_zero (bl s))
    have e : backP (bl s) 0 = 0 := by rw [back_last]; simp [Sp, stp, Cs_nil]
    rw [e] at h
    exact h
  have hsI : (s.size : Int) ≤ 3000 := by omega
  have HFL := hide hlen
  have HLA := hide hlast
  have HBS := hide hbst
  have HBF := hide hbf
  have HBD := hide hbd
  have HZ := hide hz
  have KS := hide ks
  have HB := hide (Below.refl w.heap.size w)
  clear ks hz hbst hbf hbd hlast hlen hne
  go_enter Try.func3, Try.ntmps3
  go_wp2_with (first | (go_at_call 6; refine (kawake_any _).mono ?_; rintro e w1 ⟨rfl, hB1⟩; replace HB := hide (bseq HB.out hB1); clear hB1) | (go_at_call 7; refine (KS.out _).mono ?_; rintro e w5 ⟨v, rfl, hown, hB1⟩; replace HB := hide (bseq HB.out hB1); rw [← HFL.out] at hown; obtain ⟨g, cap, rfl, hg, hcell⟩ := row_cells (fun e => by have := HFL.out; rw [e] at this; simp at this) hown; have HC := hide hcell; clear hB1 hown hcell))
  have hFl := HFL.out
  generalize hN : F.length = N at *
  have HN := hide hN
  have HFm := hide hFl
  have hNb : (N : Int) ≤ 3001 := by omega
  have hN1 : 1 ≤ (N : Int) := by omega
  clear hN HFL hFl
  go_loopw [6, 7] (fun u v wr => ∃ (p i : Nat), u = .int .i64 (p : Int) ∧ v = .int .i64 (i : Int) ∧ i ≤ N ∧ ((i = 0 ∧ p = 0 ∧ F.head? = some 0 ∧ After (bl s) 0 (F.drop 1)) ∨ After (bl s) p (F.drop i)) ∧ Below w5.heap.size w5 wr) (fun _ v _ => N - (intOf v).toNat)
  case atStart => exact ⟨0, 0, rfl, rfl, by omega, by rcases HZ.out with h | h; exact .inl ⟨rfl, rfl, h.1, h.2⟩; exact .inr (by simpa using h), Below.refl _ _⟩
  case round =>
    clear HZ KS
    obtain ⟨p, i, rfl, rfl, hi, hJ, hBr⟩ := hrel
    have HBr := hide hBr
    by_cases hlt : i < N
    · have hltI : (i : Int) < (N : Int) := by omega
      obtain ⟨x, hx⟩ : ∃ x, F[i]? = some x := ⟨_, List.getElem?_eq_getElem (by rw [HN.out]; exact hlt)⟩
      have cx := cell_low (HC.out i x hx) hBr hg
      have hd : F.drop i = x :: F.drop (i + 1) := by
        obtain ⟨h1, h2⟩ := List.getElem?_eq_some_iff.1 hx
        rw [List.drop_eq_getElem_cons h1, h2]
      have HX := hide hx
      clear hx hBr
      rcases hJ with ⟨rfl, rfl, hh, ha⟩ | ha
      · have hx0 : x = 0 := by
          have : F.drop 0 = x :: F.drop 1 := hd
          rw [List.drop_zero] at this
          rw [this] at hh
          simpa using hh
        subst hx0
        have HA := hide ha
        clear ha hh hd
        go_wp2_with (first | (go_at_call 8; refine (next_any _ _ _ hszm).mono ?_; rintro e w6 ⟨rfl, hB6⟩; replace HBr := hide (bseq HBr.out hB6); clear hB6) | (go_at_call 9; refine (kback_any _ _ _ hszm).mono ?_; rintro e w6 ⟨rfl, hB6⟩; replace HBr := hide (bseq HBr.out hB6); clear hB6) | (go_at_call 10; refine (begins_any _ _ _ hszm).mono ?_; rintro e w6 ⟨rfl, hB6⟩; replace HBr := hide (bseq HBr.out hB6); clear hB6))
        go_roundw
        case rel => exact ⟨0, 1, rfl, rfl, by omega, .inr HA.out, HBr.out⟩
        case measure => first | (simp [intOf]; done) | (simp [intOf]; omega)
      · rw [hd] at ha
        obtain ⟨hn1, ha2, hpx⟩ := ha.step
        have hnv : nextV (bl s) (p : Int) = x := by rw [nextV_Bd ha.Bd]; exact hn1
        have hxb : ((x : Int) == 0) = false := by simp; omega
        have HA := hide ha2
        clear ha hd hn1 ha2
        have cx' : ∀ W, Below wr.heap.size wr W → W.cell? ⟨g, i, none⟩ = some (.int .i64 (x : Int)) := fun W hW => cell_low cx hW (show g < wr.heap.size by have := HBr.out.size; omega)
        have HCX := hide cx'
        have HB0 := hide (Below.refl wr.heap.size wr)
        clear cx'
        go_wp2_with (go_at_call 8; refine (next_any _ _ _ hszm).mono ?_; rintro e w6 ⟨rfl, hB6⟩; have cx6 := HCX.out _ hB6; replace HBr := hide (bseq HBr.out hB6); clear hB6)
        go_roundw
        case rel => exact ⟨x, i + 1, by first | rfl | go_num, by go_num, by omega, .inr HA.out, HBr.out⟩
        case measure => first | (simp [intOf]; done) | (simp [intOf]; omega)
    · have hltI : (N : Int) ≤ (i : Int) := by omega
      clear hJ hBr
      go_wp2_with (first | (go_at_call 8; refine (next_any _ _ _ hszm).mono ?_; rintro e w6 ⟨rfl, hB6⟩; replace HBr := hide (bseq HBr.out hB6); clear hB6) | (go_at_call 9; refine (kback_any _ _ _ hszm).mono ?_; rintro e w6 ⟨rfl, hB6⟩; replace HBr := hide (bseq HBr.out hB6); clear hB6) | (go_at_call 10; refine (begins_any _ _ _ hszm).mono ?_; rintro e w6 ⟨rfl, hB6⟩; replace HBr := hide (bseq HBr.out hB6); clear hB6))
      go_loopw [6, 8] (fun u v wr => ∃ (p : Nat) (i : Int), u = .int .i64 (p : Int) ∧ v = .int .i64 i ∧ -1 ≤ i ∧ i + 1 < (N : Int) ∧ F[(i + 1).toNat]? = some p ∧ Below w5.heap.size w5 wr) (fun _ v _ => (intOf v + 1).toNat)
      case atStart =>
        refine ⟨s.size, (N : Int) - 2, rfl, rfl, by omega, by omega, ?_, HBr.out⟩
        have e : ((N : Int) - 2 + 1).toNat = m := by have := HFm.out; omega
        rw [e]; exact HLA.out
      case round =>
        clear HBr
        obtain ⟨p, j, rfl, rfl, hj0, hj1, hp, hBr⟩ := hrel
        have HBr := hide hBr
        have hbdp := HBD.out _ _ hp
        by_cases hj : 0 ≤ j
        · obtain ⟨k, rfl⟩ : ∃ k : Nat, j = (k : Int) := ⟨j.toNat, by omega⟩
          have e : ((k : Int) + 1).toNat = k + 1 := by omega
          rw [e] at hp
          obtain ⟨y, hy⟩ : ∃ y, F[k]? = some y := ⟨_, List.getElem?_eq_getElem (by rw [HN.out]; omega)⟩
          have cx := cell_low (HC.out k y hy) hBr hg
          have hbv : backV (bl s) (p : Int) = y := by rw [backV_Bd hbdp]; exact HBS.out k p y hp hy
          have cx' : ∀ W, Below wr.heap.size wr W → W.cell? ⟨g, k, none⟩ = some (.int .i64 (y : Int)) := fun W hW => cell_low cx hW (show g < wr.heap.size by have := HBr.out.size; omega)
          have HCX := hide cx'
          have HY := hide hy
          have hkN : k < N := by omega
          clear cx' hy hp e hbdp hBr cx
          go_wp2_with (go_at_call 9; refine (kback_any _ _ _ hszm).mono ?_; rintro e w6 ⟨rfl, hB6⟩; have cx6 := HCX.out _ hB6; replace HBr := hide (bseq HBr.out hB6); clear hB6)
          go_roundw
          case rel => exact ⟨y, (k : Int) - 1, by first | rfl | go_num, by go_num, by omega, by omega, by rw [show ((k : Int) - 1 + 1).toNat = k by omega]; exact HY.out, HBr.out⟩
          case measure => first | (simp [intOf]; done) | (simp [intOf]; omega)
        · have hj2 : j = -1 := by omega
          subst hj2
          have hbv : backV (bl s) (p : Int) = 0 := by rw [backV_Bd hbdp]; exact HBF.out p (by simpa using hp)
          clear hp hbdp hBr hj hj0 hj1
          have hcl : (min (max 0 n0) (s.size : Int)) = (clampV (bl s) n0 : Nat) := by unfold clampV; rw [bl_len]; omega
          have hcle := clamp_le (bl s) n0
          have hnear := dn_near hcle
          have hiv : intoV (bl s) n0 = dn (bl s) (clampV (bl s) n0) := rfl
          rw [bl_len] at hcle
          have HNV := hide (show nextV (bl s) n0 = nextP (bl s) (dn (bl s) (clampV (bl s) n0)) from rfl)
          have HBV := hide (show backV (bl s) n0 = backP (bl s) (dn (bl s) (clampV (bl s) n0)) from rfl)
          generalize clampV (bl s) n0 = C at *
          clear hiv
          have hsI0 : (0 : Int) ≤ (s.size : Int) := by omega
          have HCL := hide hcl
          have HNE := hide hnear
          clear hcl hnear
          go_wp2_with (first | (go_at_call 8; refine (next_any _ _ _ hszm).mono ?_; rintro e w6 ⟨rfl, hB6⟩; replace HBr := hide (bseq HBr.out hB6); clear hB6) | (go_at_call 9; refine (kback_any _ _ _ hszm).mono ?_; rintro e w6 ⟨rfl, hB6⟩; replace HBr := hide (bseq HBr.out hB6); clear hB6) | (go_at_call 10; refine (begins_any _ _ _ hszm).mono ?_; rintro e w6 ⟨rfl, hB6⟩; replace HBr := hide (bseq HBr.out hB6); clear hB6))
          all_goals
            go_loopw [9, 10] (fun u v wr => ∃ (x k : Nat), u = .int .i64 (x : Int) ∧ v = .int .i64 (k : Int) ∧ k ≤ 4 ∧ x + k = C ∧ dn (bl s) x = dn (bl s) C ∧ Below w5.heap.size w5 wr) (fun _ v _ => 4 - (intOf v).toNat)
            case atStart => exact ⟨C, 0, by have := HCL.out; congr 1; omega, rfl, by omega, by omega, rfl, HBr.out⟩
            case round =>
              clear HBr
              obtain ⟨x, k, rfl, rfl, hk4, hxk, hdn, hBr⟩ := hrel
              have HBr := hide hBr
              have hk3 : k < 4 := by
                have h1 := HNE.out
                have h2 := dn_le (bl s) x
                omega
              have hk3I : (k : Int) < 4 := by omega
              cases hb : beginsV (bl s) (x : Int) with
              | true =>
                have hdx := dn_yes hb
                have hbdx : Bd (bl s) x := (begins_Bd (bl s) x (by rw [bl_len]; omega)).1 hb
                have hnv : nextV (bl s) (x : Int) = nextV (bl s) n0 := by rw [nextV_Bd hbdx, HNV.out, ← hdn, hdx]
                have hbw : backV (bl s) (x : Int) = backV (bl s) n0 := by rw [backV_Bd hbdx, HBV.out, ← hdn, hdx]
                clear hdx hbdx hdn hBr hbv
                go_wp2_with (first | (go_at_call 8; refine (next_any _ _ _ hszm).mono ?_; rintro e w6 ⟨rfl, hB6⟩; replace HBr := hide (bseq HBr.out hB6); clear hB6) | (go_at_call 9; refine (kback_any _ _ _ hszm).mono ?_; rintro e w6 ⟨rfl, hB6⟩; replace HBr := hide (bseq HBr.out hB6); clear hB6) | (go_at_call 10; refine (begins_any _ _ _ hszm).mono ?_; rintro e w6 ⟨rfl, hB6⟩; replace HBr := hide (bseq HBr.out hB6); clear hB6))
                go_ret
                exact ⟨rfl, HB.out.trans (HBr.out.mono HB.out.size)⟩
              | false =>
                have hdx := dn_no hb
                have h1 := hdx.1
                have hdn2 : dn (bl s) (x - 1) = dn (bl s) C := hdx.2.symm.trans hdn
                have HD := hide hdn2
                have hx1 : 1 ≤ (x : Int) := by omega
                clear hdx hdn hdn2 hBr hbv
                go_wp2_with (first | (go_at_call 8; refine (next_any _ _ _ hszm).mono ?_; rintro e w6 ⟨rfl, hB6⟩; replace HBr := hide (bseq HBr.out hB6); clear hB6) | (go_at_call 9; refine (kback_any _ _ _ hszm).mono ?_; rintro e w6 ⟨rfl, hB6⟩; replace HBr := hide (bseq HBr.out hB6); clear hB6) | (go_at_call 10; refine (begins_any _ _ _ hszm).mono ?_; rintro e w6 ⟨rfl, hB6⟩; replace HBr := hide (bseq HBr.out hB6); clear hB6))
                go_roundw
                case rel => exact ⟨x - 1, k + 1, by congr 1; omega, by go_num, by omega, by omega, HD.out, HBr.out⟩
                case measure => first | (simp [intOf]; done) | (simp [intOf]; omega)
set_option maxHeartbeats 8000000 in
theorem walkB (s : ByteArray) (n0 : Int) (w : World) (hs0 : 3000 < s.size) (hsm : s.size ≤ 9223372036854775807) :
    Calls Try.prog 3 #[.string s, .int .i64 n0] w fun e w' => e = .returned (.bool true) ∧ Below w.heap.size w w' := by
  obtain ⟨t, ht⟩ : ∃ t, s.extract 0 3000 = t := ⟨_, rfl⟩
  have hs : t.size ≤ 3000 := by rw [← ht]; simp; omega
  have ks := fun w => stops_any t w (by omega)
  have hz := After.zero (bl t)
  have hbst := fun j x y h k => @back_stop (bl t) j x y h k
  have hbf := fun x h => @back_first (bl t) x h
  have hbd := fun j x h => (@Sp_take (bl t) j x h).1
  have hne := next_end (bl t)
  rw [bl_len] at hz hbst hbf hbd hne
  have hlast : (Sp (bl t) ++ [t.size])[(Sp (bl t)).length]? = some t.size := by simp
  have hlen : (Sp (bl t) ++ [t.size]).length = (Sp (bl t)).length + 1 := by simp
  have hSl : (Sp (bl t)).length ≤ 3000 := by
    have h1 := stp_len (Cs 0 (bl t)) 7
    have h2 := Cs_len_le (bl t)
    rw [bl_len] at h2
    show (stp 7 (Cs 0 (bl t))).length ≤ 3000
    omega
  generalize (Sp (bl t)).length = m at *
  generalize Sp (bl t) ++ [t.size] = F at *
  have hszm : t.size ≤ 9223372036854775807 := by omega
  have hnl : nextV (bl t) (t.size : Int) = t.size := by rw [nextV_Bd (.inr (bl_len t).symm)]; exact hne
  have hb0 : backV (bl t) 0 = 0 := by
    have h := backV_Bd (Bd_zero (bl t))
    have e : backP (bl t) 0 = 0 := by rw [back_last]; simp [Sp, stp, Cs_nil]
    rw [e] at h
    exact h
  have hsI : 3000 < (s.size : Int) := by omega
  have HFL := hide hlen
  have HLA := hide hlast
  have HBS := hide hbst
  have HBF := hide hbf
  have HBD := hide hbd
  have HZ := hide hz
  have KS := hide ks
  have HB := hide (Below.refl w.heap.size w)
  clear ks hz hbst hbf hbd hlast hlen hne
  go_enter Try.func3, Try.ntmps3
  go_wp2_with (first | (go_at_call 6; refine (kawake_any _).mono ?_; rintro e w1 ⟨rfl, hB1⟩; replace HB := hide (bseq HB.out hB1); clear hB1) | (go_at_call 7; refine (KS.out _).mono ?_; rintro e w5 ⟨v, rfl, hown, hB1⟩; replace HB := hide (bseq HB.out hB1); rw [← HFL.out] at hown; obtain ⟨g, cap, rfl, hg, hcell⟩ := row_cells (fun e => by have := HFL.out; rw [e] at this; simp at this) hown; have HC := hide hcell; clear hB1 hown hcell))
  have hFl := HFL.out
  generalize hN : F.length = N at *
  have HN := hide hN
  have HFm := hide hFl
  have hNb : (N : Int) ≤ 3001 := by omega
  have hN1 : 1 ≤ (N : Int) := by omega
  clear hN HFL hFl
  go_loopw [6, 7] (fun u v wr => ∃ (p i : Nat), u = .int .i64 (p : Int) ∧ v = .int .i64 (i : Int) ∧ i ≤ N ∧ ((i = 0 ∧ p = 0 ∧ F.head? = some 0 ∧ After (bl t) 0 (F.drop 1)) ∨ After (bl t) p (F.drop i)) ∧ Below w5.heap.size w5 wr) (fun _ v _ => N - (intOf v).toNat)
  case atStart => exact ⟨0, 0, rfl, rfl, by omega, by rcases HZ.out with h | h; exact .inl ⟨rfl, rfl, h.1, h.2⟩; exact .inr (by simpa using h), Below.refl _ _⟩
  case round =>
    clear HZ KS
    obtain ⟨p, i, rfl, rfl, hi, hJ, hBr⟩ := hrel
    have HBr := hide hBr
    by_cases hlt : i < N
    · have hltI : (i : Int) < (N : Int) := by omega
      obtain ⟨x, hx⟩ : ∃ x, F[i]? = some x := ⟨_, List.getElem?_eq_getElem (by rw [HN.out]; exact hlt)⟩
      have cx := cell_low (HC.out i x hx) hBr hg
      have hd : F.drop i = x :: F.drop (i + 1) := by
        obtain ⟨h1, h2⟩ := List.getElem?_eq_some_iff.1 hx
        rw [List.drop_eq_getElem_cons h1, h2]
      have HX := hide hx
      clear hx hBr
      rcases hJ with ⟨rfl, rfl, hh, ha⟩ | ha
      · have hx0 : x = 0 := by
          have : F.drop 0 = x :: F.drop 1 := hd
          rw [List.drop_zero] at this
          rw [this] at hh
          simpa using hh
        subst hx0
        have HA := hide ha
        clear ha hh hd
        go_wp2_with (first | (go_at_call 8; refine (next_any _ _ _ hszm).mono ?_; rintro e w6 ⟨rfl, hB6⟩; replace HBr := hide (bseq HBr.out hB6); clear hB6) | (go_at_call 9; refine (kback_any _ _ _ hszm).mono ?_; rintro e w6 ⟨rfl, hB6⟩; replace HBr := hide (bseq HBr.out hB6); clear hB6) | (go_at_call 10; refine (begins_any _ _ _ hszm).mono ?_; rintro e w6 ⟨rfl, hB6⟩; replace HBr := hide (bseq HBr.out hB6); clear hB6))
        go_roundw
        case rel => exact ⟨0, 1, rfl, rfl, by omega, .inr HA.out, HBr.out⟩
        case measure => first | (simp [intOf]; done) | (simp [intOf]; omega)
      · rw [hd] at ha
        obtain ⟨hn1, ha2, hpx⟩ := ha.step
        have hnv : nextV (bl t) (p : Int) = x := by rw [nextV_Bd ha.Bd]; exact hn1
        have hxb : ((x : Int) == 0) = false := by simp; omega
        have HA := hide ha2
        clear ha hd hn1 ha2
        have cx' : ∀ W, Below wr.heap.size wr W → W.cell? ⟨g, i, none⟩ = some (.int .i64 (x : Int)) := fun W hW => cell_low cx hW (show g < wr.heap.size by have := HBr.out.size; omega)
        have HCX := hide cx'
        have HB0 := hide (Below.refl wr.heap.size wr)
        clear cx'
        go_wp2_with (go_at_call 8; refine (next_any _ _ _ hszm).mono ?_; rintro e w6 ⟨rfl, hB6⟩; have cx6 := HCX.out _ hB6; replace HBr := hide (bseq HBr.out hB6); clear hB6)
        go_roundw
        case rel => exact ⟨x, i + 1, by first | rfl | go_num, by go_num, by omega, .inr HA.out, HBr.out⟩
        case measure => first | (simp [intOf]; done) | (simp [intOf]; omega)
    · have hltI : (N : Int) ≤ (i : Int) := by omega
      clear hJ hBr
      go_wp2_with (first | (go_at_call 8; refine (next_any _ _ _ hszm).mono ?_; rintro e w6 ⟨rfl, hB6⟩; replace HBr := hide (bseq HBr.out hB6); clear hB6) | (go_at_call 9; refine (kback_any _ _ _ hszm).mono ?_; rintro e w6 ⟨rfl, hB6⟩; replace HBr := hide (bseq HBr.out hB6); clear hB6) | (go_at_call 10; refine (begins_any _ _ _ hszm).mono ?_; rintro e w6 ⟨rfl, hB6⟩; replace HBr := hide (bseq HBr.out hB6); clear hB6))
      go_loopw [6, 8] (fun u v wr => ∃ (p : Nat) (i : Int), u = .int .i64 (p : Int) ∧ v = .int .i64 i ∧ -1 ≤ i ∧ i + 1 < (N : Int) ∧ F[(i + 1).toNat]? = some p ∧ Below w5.heap.size w5 wr) (fun _ v _ => (intOf v + 1).toNat)
      case atStart =>
        refine ⟨t.size, (N : Int) - 2, rfl, rfl, by omega, by omega, ?_, HBr.out⟩
        have e : ((N : Int) - 2 + 1).toNat = m := by have := HFm.out; omega
        rw [e]; exact HLA.out
      case round =>
        clear HBr
        obtain ⟨p, j, rfl, rfl, hj0, hj1, hp, hBr⟩ := hrel
        have HBr := hide hBr
        have hbdp := HBD.out _ _ hp
        by_cases hj : 0 ≤ j
        · obtain ⟨k, rfl⟩ : ∃ k : Nat, j = (k : Int) := ⟨j.toNat, by omega⟩
          have e : ((k : Int) + 1).toNat = k + 1 := by omega
          rw [e] at hp
          obtain ⟨y, hy⟩ : ∃ y, F[k]? = some y := ⟨_, List.getElem?_eq_getElem (by rw [HN.out]; omega)⟩
          have cx := cell_low (HC.out k y hy) hBr hg
          have hbv : backV (bl t) (p : Int) = y := by rw [backV_Bd hbdp]; exact HBS.out k p y hp hy
          have cx' : ∀ W, Below wr.heap.size wr W → W.cell? ⟨g, k, none⟩ = some (.int .i64 (y : Int)) := fun W hW => cell_low cx hW (show g < wr.heap.size by have := HBr.out.size; omega)
          have HCX := hide cx'
          have HY := hide hy
          have hkN : k < N := by omega
          clear cx' hy hp e hbdp hBr cx
          go_wp2_with (go_at_call 9; refine (kback_any _ _ _ hszm).mono ?_; rintro e w6 ⟨rfl, hB6⟩; have cx6 := HCX.out _ hB6; replace HBr := hide (bseq HBr.out hB6); clear hB6)
          go_roundw
          case rel => exact ⟨y, (k : Int) - 1, by first | rfl | go_num, by go_num, by omega, by omega, by rw [show ((k : Int) - 1 + 1).toNat = k by omega]; exact HY.out, HBr.out⟩
          case measure => first | (simp [intOf]; done) | (simp [intOf]; omega)
        · have hj2 : j = -1 := by omega
          subst hj2
          have hbv : backV (bl t) (p : Int) = 0 := by rw [backV_Bd hbdp]; exact HBF.out p (by simpa using hp)
          clear hp hbdp hBr hj hj0 hj1
          have hcl : (min (max 0 n0) (t.size : Int)) = (clampV (bl t) n0 : Nat) := by unfold clampV; rw [bl_len]; omega
          have hcle := clamp_le (bl t) n0
          have hnear := dn_near hcle
          have hiv : intoV (bl t) n0 = dn (bl t) (clampV (bl t) n0) := rfl
          rw [bl_len] at hcle
          have HNV := hide (show nextV (bl t) n0 = nextP (bl t) (dn (bl t) (clampV (bl t) n0)) from rfl)
          have HBV := hide (show backV (bl t) n0 = backP (bl t) (dn (bl t) (clampV (bl t) n0)) from rfl)
          generalize clampV (bl t) n0 = C at *
          clear hiv
          have hsI0 : (0 : Int) ≤ (t.size : Int) := by omega
          have HCL := hide hcl
          have HNE := hide hnear
          clear hcl hnear
          go_wp2_with (first | (go_at_call 8; refine (next_any _ _ _ hszm).mono ?_; rintro e w6 ⟨rfl, hB6⟩; replace HBr := hide (bseq HBr.out hB6); clear hB6) | (go_at_call 9; refine (kback_any _ _ _ hszm).mono ?_; rintro e w6 ⟨rfl, hB6⟩; replace HBr := hide (bseq HBr.out hB6); clear hB6) | (go_at_call 10; refine (begins_any _ _ _ hszm).mono ?_; rintro e w6 ⟨rfl, hB6⟩; replace HBr := hide (bseq HBr.out hB6); clear hB6))
          all_goals
            go_loopw [9, 10] (fun u v wr => ∃ (x k : Nat), u = .int .i64 (x : Int) ∧ v = .int .i64 (k : Int) ∧ k ≤ 4 ∧ x + k = C ∧ dn (bl t) x = dn (bl t) C ∧ Below w5.heap.size w5 wr) (fun _ v _ => 4 - (intOf v).toNat)
            case atStart => exact ⟨C, 0, by have := HCL.out; congr 1; omega, rfl, by omega, by omega, rfl, HBr.out⟩
            case round =>
              clear HBr
              obtain ⟨x, k, rfl, rfl, hk4, hxk, hdn, hBr⟩ := hrel
              have HBr := hide hBr
              have hk3 : k < 4 := by
                have h1 := HNE.out
                have h2 := dn_le (bl t) x
                omega
              have hk3I : (k : Int) < 4 := by omega
              cases hb : beginsV (bl t) (x : Int) with
              | true =>
                have hdx := dn_yes hb
                have hbdx : Bd (bl t) x := (begins_Bd (bl t) x (by rw [bl_len]; omega)).1 hb
                have hnv : nextV (bl t) (x : Int) = nextV (bl t) n0 := by rw [nextV_Bd hbdx, HNV.out, ← hdn, hdx]
                have hbw : backV (bl t) (x : Int) = backV (bl t) n0 := by rw [backV_Bd hbdx, HBV.out, ← hdn, hdx]
                clear hdx hbdx hdn hBr hbv
                go_wp2_with (first | (go_at_call 8; refine (next_any _ _ _ hszm).mono ?_; rintro e w6 ⟨rfl, hB6⟩; replace HBr := hide (bseq HBr.out hB6); clear hB6) | (go_at_call 9; refine (kback_any _ _ _ hszm).mono ?_; rintro e w6 ⟨rfl, hB6⟩; replace HBr := hide (bseq HBr.out hB6); clear hB6) | (go_at_call 10; refine (begins_any _ _ _ hszm).mono ?_; rintro e w6 ⟨rfl, hB6⟩; replace HBr := hide (bseq HBr.out hB6); clear hB6))
                go_ret
                exact ⟨rfl, HB.out.trans (HBr.out.mono HB.out.size)⟩
              | false =>
                have hdx := dn_no hb
                have h1 := hdx.1
                have hdn2 : dn (bl t) (x - 1) = dn (bl t) C := hdx.2.symm.trans hdn
                have HD := hide hdn2
                have hx1 : 1 ≤ (x : Int) := by omega
                clear hdx hdn hdn2 hBr hbv
                go_wp2_with (first | (go_at_call 8; refine (next_any _ _ _ hszm).mono ?_; rintro e w6 ⟨rfl, hB6⟩; replace HBr := hide (bseq HBr.out hB6); clear hB6) | (go_at_call 9; refine (kback_any _ _ _ hszm).mono ?_; rintro e w6 ⟨rfl, hB6⟩; replace HBr := hide (bseq HBr.out hB6); clear hB6) | (go_at_call 10; refine (begins_any _ _ _ hszm).mono ?_; rintro e w6 ⟨rfl, hB6⟩; replace HBr := hide (bseq HBr.out hB6); clear hB6))
                go_roundw
                case rel => exact ⟨x - 1, k + 1, by congr 1; omega, by go_num, by omega, by omega, HD.out, HBr.out⟩
                case measure => first | (simp [intOf]; done) | (simp [intOf]; omega)
theorem walk (s : ByteArray) (n0 : Int) (w : World) (hsm : s.size ≤ 9223372036854775807) :
    Calls Try.prog 3 #[.string s, .int .i64 n0] w fun e w' => e = .returned (.bool true) ∧ Below w.heap.size w w' := by
  by_cases h : s.size ≤ 3000
  · exact walkS s n0 w h
  · exact walkB s n0 w (by omega) hsm
end Go.Proofs.Ytobemmfgpjgiaab.kindsWalk
