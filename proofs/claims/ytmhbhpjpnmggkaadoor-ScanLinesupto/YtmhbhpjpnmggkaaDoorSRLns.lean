/- The document's Lines. -/
import Derived.Test.YtmhbhpjpnmggkaaDoorSRows
import Derived.Test.YtmhbhpjpnmggkaaDoorLRAll
import Derived.BigQuiet
import Derived.Deep.QuietTactic
namespace Go.Proofs.YtmhbhpjpnmggkaaDoor
open Go.RowKit Go.Shelf
set_option linter.unusedVariables false

set_option maxHeartbeats 1000000 in
theorem rblankl_any (c : Nat) (w : World) : Calls Tryd.prog 36 #[.int .u8 (c : Int)] w fun e w' => e = .returned (.bool (blankC c)) ∧ w' = w := by
  obtain ⟨R, hR⟩ : ∃ R, blankC c = R := ⟨_, rfl⟩
  rw [hR]
  have HR := hide hR
  clear hR
  go_enter Tryd.func36, Tryd.ntmps36
  go_wp2
  all_goals go_ret
  all_goals refine ⟨?_, rfl⟩
  all_goals rw [← HR.out]
  all_goals refine congrArg (fun b => Ending.returned (Value.bool b)) ?_
  all_goals first | (subst_vars; rfl) | (rw [Bool.eq_iff_iff]; simp only [blankC, Bool.or_eq_true, beq_iff_eq, true_iff]; omega) | (simp [blankC, *])
theorem flatL_get (ts : List (Nat × Nat × Nat)) (i j : Nat) (x : Nat × Nat × Nat) (hx : ts[i]? = some x) (hj : j < 3) : (ts.flatMap lnC)[i * 3 + j]? = (lnC x)[j]? := by
  induction ts generalizing i with
  | nil => simp at hx
  | cons y ys ih =>
    rw [List.flatMap_cons]
    cases i with
    | zero =>
      simp only [List.getElem?_cons_zero, Option.some.injEq] at hx
      subst hx
      rw [List.getElem?_append_left (by simp [lnC]; omega)]
      congr 1
      omega
    | succ i =>
      simp only [List.getElem?_cons_succ] at hx
      rw [List.getElem?_append_right (by simp [lnC]; omega), ← ih i hx]
      congr 1
      simp [lnC]
      omega
/-- What a row of lines holds. -/
def LnK (W : World) (v : Value) (xs : List (Nat × Nat × Nat)) : Prop := ∃ g cap, v = .slice (some ⟨g, 0, none⟩) xs.length cap ∧ g < W.heap.size ∧ ∀ (i : Nat) x, xs[i]? = some x → W.cell? ⟨g, i * 3, none⟩ = some (.int .i64 (x.1 : Int)) ∧ W.cell? ⟨g, i * 3 + 1, none⟩ = some (.int .i64 (x.2.1 : Int))
theorem LnK.of {W : World} {base : Nat} {v : Value} {xs : List (Nat × Nat × Nat)} (h : W.ownsRow base 71 3 v xs.length (xs.flatMap lnC)) (hp : 0 < xs.length) : LnK W v xs := by
  rcases h.2 with ⟨_, h2⟩ | ⟨g, cap, cur, hv, hg, hh, hnc, hcap, hs, hc⟩
  · omega
  · refine ⟨g, cap, hv, (Array.getElem?_eq_some_iff.1 hh).1, fun i x hx => ?_⟩
    have hi : i < xs.length := (List.getElem?_eq_some_iff.1 hx).1
    have key : ∀ j (u : Value), j < 3 → (lnC x)[j]? = some u → W.cell? ⟨g, i * 3 + j, none⟩ = some u := by
      intro j u hj hu
      have h1 := flatL_get xs i j x hx hj
      rw [hu, ← hc, List.getElem?_take, if_pos (by omega)] at h1
      simp only [World.cell?, hh]
      simpa using h1
    exact ⟨key 0 _ (by omega) rfl, key 1 _ (by omega) rfl⟩
theorem LnK.below {W W' : World} {v : Value} {xs : List (Nat × Nat × Nat)} (h : LnK W v xs) (hb : Below W.heap.size W W') : LnK W' v xs := by
  obtain ⟨g, cap, hv, hg, hc⟩ := h
  refine ⟨g, cap, hv, Nat.lt_of_lt_of_le hg hb.size, fun i x hx => ?_⟩
  obtain ⟨h1, h2⟩ := hc i x hx
  exact ⟨(hb.cell (p := ⟨g, i * 3, none⟩) hg).trans h1, (hb.cell (p := ⟨g, i * 3 + 1, none⟩) hg).trans h2⟩
theorem says_end {t : ByteArray} (h : skp blankC (bl t) = t.size) : saysV t = false := by unfold saysV; rw [decide_eq_true h]; rfl
theorem says_at {t : ByteArray} {k : Nat} (h : skp blankC (bl t) = k) (hk : k < t.size) : saysV t = !decide (by' (bl t) k = 35) := by
  unfold saysV
  rw [h, decide_eq_false (by omega)]
  unfold isAt
  rw [decide_eq_true hk]
  simp
set_option maxRecDepth 100000 in
set_option maxHeartbeats 2000000 in
theorem rlines_any (s : ByteArray) (w : World) (hs : s.size ≤ 1099511627776) :
    Calls Tryd.prog 14 #[.string s] w fun e w' => ∃ v, e = .returned v ∧ RowW w' w.heap.size v (SLs s) ∧ Below w.heap.size w w' := by
  obtain ⟨i0, hi, hz0, hz1, hz2⟩ := info_parts Tryd.infoRw
  have ka := fun W => rall_any s W hs
  have hlp := Ls_pos (bl s)
  have hll := Ls_len (bl s)
  have hmem : ∀ x ∈ Ls (bl s), x.1 ≤ x.2.1 ∧ x.2.1 ≤ s.size := fun x hx => by
    have := Ls_mem hx
    rw [bl_len] at this
    omega
  rw [bl_len] at hll
  have KA := hide ka
  have HM := hide hmem
  unfold SLs
  generalize Ls (bl s) = L at *
  have hLI : (L.length : Int) ≤ 1099511627777 := by omega
  clear ka hmem
  go_enter Tryd.func14, Tryd.ntmps14
  go_wp2_with (go_at_call 35; refine (KA.out _).mono ?_; rintro e x1 ⟨v1, rfl, hown1, hb1⟩; obtain ⟨g1, cap1, rfl, hlk⟩ : ∃ g cap, v1 = .slice (some ⟨g, 0, none⟩) L.length cap ∧ LnK x1 v1 L := (by obtain ⟨g, cap, hv, r⟩ := LnK.of hown1 hlp; exact ⟨g, cap, hv, g, cap, hv, r⟩); have HLK := hide hlk; have HB1 := hide hb1; clear hown1 hb1 hlk)
  go_loopw [4, 5] (fun v i wr => ∃ k : Nat, i = .int .i64 (k : Int) ∧ k ≤ L.length ∧ RowW wr x1.heap.size v (told s (L.take k)) ∧ Below w.heap.size w wr ∧ Below x1.heap.size x1 wr) (fun _ i _ => L.length - (intOf i).toNat)
  case atStart => exact ⟨0, rfl, Nat.zero_le _, World.ownsRow_nil _ _ _ _, HB1.out, Below.refl _ _⟩
  case round =>
    have HB1s := HB1.out.size
    clear HB1
    obtain ⟨k, rfl, hk, hrow, hB, hBx⟩ := hrel
    have hBxs := hBx.size
    obtain ⟨X, hXw⟩ : ∃ X, X = wr := ⟨_, rfl⟩
    subst hXw
    have HROW := hide hrow
    have HB := hide hB
    have HBX := hide hBx
    have hBw := hB.size
    have hlk := HLK.out.below hBx
    clear hrow hB hBx
    by_cases hlt : k < L.length
    · have hltI : (k : Int) < (L.length : Int) := by omega
      obtain ⟨x, hx⟩ : ∃ x, L[k]? = some x := ⟨_, List.getElem?_eq_getElem hlt⟩
      obtain ⟨m1, m2⟩ := HM.out x (List.mem_of_getElem? hx)
      have htk : L.take (k + 1) = L.take k ++ [x] := by rw [List.take_add_one, hx]; rfl
      have htl : (L.take k).length = k := by rw [List.length_take]; omega
      obtain ⟨g, cap, hv, hg, hc⟩ := hlk
      cases hv
      obtain ⟨c0, c1⟩ := hc k x hx
      obtain ⟨p, q, e⟩ := x
      simp only at m1 m2 c0 c1
      have hpq : (p : Int) ≤ (q : Int) := by omega
      have hqs : (q : Int) ≤ (s.size : Int) := by omega
      obtain ⟨t, ht⟩ : ∃ t, s.extract p q = t := ⟨_, rfl⟩
      have hln : lnT s (p, q, e) = t := ht
      have htz : t.size ≤ s.size := by rw [← ht, ByteArray.size_extract]; omega
      have htzI : (t.size : Int) ≤ 1099511627776 := by omega
      have htn := told_no (s := s) (pre := L.take k) (x := (p, q, e))
      have hty := told_yes (s := s) (pre := L.take k) (x := (p, q, e))
      rw [← htk, hln] at htn hty
      rw [htl] at hty
      have HTN := hide htn
      have HTY := hide hty
      have htc := told_len s (L.take k)
      rw [htl] at htc
      generalize told s (L.take k) = acc at *
      clear hx htk htl hln htn hty hc
      go_wp2_with (fail)
      go_quiet (fail)
      have hry := HROW.out.below (below_drewN (Below.refl _ X) nq)
      have hby := below_drewN HB.out nq
      have hxy := below_drewN HBX.out nq
      generalize X.drewN nq = Y at *
      have hYs := hby.size
      have hYx := hxy.size
      have HRY := hide hry
      have HBY := hide hby
      have HXY := hide hxy
      clear hry hby hxy HROW HB HBX c0 c1
      obtain ⟨P, hP⟩ : ∃ P, skp blankC (bl t) = P := ⟨_, rfl⟩
      have HP := hide hP
      clear hP
      go_wp2_with (fail)
      go_loopw [7] (fun i wq => ∃ j : Nat, i = .int .i64 (j : Int) ∧ j ≤ t.size ∧ j + skp blankC ((bl t).drop j) = P ∧ wq = Y) (fun i _ => t.size - (intOf i).toNat)
      case atStart => exact ⟨0, rfl, Nat.zero_le _, by rw [List.drop_zero, HP.out]; omega, rfl⟩
      case round =>
        obtain ⟨j, rfl, hjs, hj, hw⟩ := hrel
        obtain rfl := hw.symm
        by_cases hjl : j < t.size
        · have hjlI : (j : Int) < (t.size : Int) := by omega
          have hby : by' (bl t) j = (t[j]'hjl).toNat := by'_get t j hjl
          have kb := fun W => rblankl_any (t[j]'hjl).toNat W
          cases hbk : blankC (t[j]'hjl).toNat with
          | true =>
            rw [hbk] at kb
            have KB1 := hide kb
            have hst := skp_step (is := blankC) (l := bl t) (p := j) (by rw [bl_len]; exact hjl) (by rw [hby]; exact hbk)
            have HST := hide hst
            clear kb hby hbk hst
            go_wp2_with (go_at_call 36; refine (KB1.out _).mono ?_; rintro e9 z9 ⟨rfl, hz9⟩; obtain rfl := hz9.symm)
            go_roundw
            case rel => exact ⟨j + 1, by go_num, by omega, by have := HST.out; omega, trivial⟩
            case measure => simp [intOf]; omega
          | false =>
            rw [hbk] at kb
            have KB1 := hide kb
            have hst := skp_stop (is := blankC) (l := bl t) (p := j) (by rw [bl_len]; exact hjl) (by rw [hby]; exact hbk)
            rw [hst, Nat.add_zero] at hj
            have hsv := says_at (t := t) (k := j) (by rw [HP.out]; exact hj.symm) hjl
            rw [hby] at hsv
            by_cases h35 : (t[j]'hjl).toNat = 35
            · rw [decide_eq_true h35] at hsv
              have HSV := hide (show saysV t = false from hsv)
              have h35I : (((t[j]'hjl).toNat : Int) != 35) = false := by rw [h35]; rfl
              clear kb hby hbk hst hsv h35 hj
              go_wp2_with (go_at_call 36; refine (KB1.out _).mono ?_; rintro e9 z9 ⟨rfl, hz9⟩; obtain rfl := hz9.symm)
              go_roundw
              case rel => exact ⟨k + 1, by go_num, by omega, by rw [HTN.out HSV.out]; exact HRY.out, HBY.out, HXY.out⟩
              case measure => simp [intOf]; omega
            · rw [decide_eq_false h35] at hsv
              have HSV := hide (show saysV t = true from hsv)
              have h35I : (((t[j]'hjl).toNat : Int) != 35) = true := by rw [bne_iff_ne]; omega
              clear kb hby hbk hst hsv h35 hj
              go_wp2_with (first | (go_at_call 36; refine (KB1.out _).mono ?_; rintro e9 z9 ⟨rfl, hz9⟩; obtain rfl := hz9.symm) | (at_builtin; refine wpList_append_own_at _ rfl _ _ 33 rfl x1.heap.size 37 i0 (.agg #[.int .i64 0, .string ⟨#[]⟩]) 2 24 Tryd.underlying33 hi hz0 hz1 hz2 rfl (by decide) u4 acc.length (acc.flatMap rwC) rfl (HRY.out.alloc _) ⟨Y.heap.size, 0, none⟩ 1 1 [.int .i64 ((k : Int) + 1), .string t] rfl rfl (cell2_newW _ _ _ _) (by simp [Value.oneCell']) (by unfold maxLen; omega) (by omega) (by simp; omega) ?_; intro v5 w5 hown5 hgrow5 _ _))
              go_roundw
              case rel =>
                refine ⟨k + 1, by go_num, by omega, ?_, ?_, ?_⟩
                · rw [HTY.out HSV.out]
                  unfold RowW
                  rw [flat_snocW, List.length_append, List.length_singleton, show ((k + 1 : Nat) : Int) = (k : Int) + 1 by omega]
                  exact hown5
                · exact (HBY.out.alloc HBY.out.size _).grown hgrow5 (by simp; omega) (fun k e => by have := (HRY.out.lt k e).1; have := HB1s; omega)
                · exact (HXY.out.alloc HXY.out.size _).grown hgrow5 (by have := HXY.out.size; simp; omega) (fun k e => (HRY.out.lt k e).1)
              case measure => simp [intOf]; omega
        · have hge2 : (t.size : Int) ≤ (j : Int) := by omega
          have hst : skp blankC ((bl t).drop j) = 0 := by rw [List.drop_eq_nil_of_le (by rw [bl_len]; omega)]; rfl
          rw [hst, Nat.add_zero] at hj
          have hsv := says_end (t := t) (by rw [HP.out]; omega)
          have HSV := hide hsv
          have hd9 : decide ((j : Int) < (t.size : Int)) = false := decide_eq_false (by omega)
          clear hst hj hsv
          go_wp2_with (fail)
          go_roundw
          case rel => exact ⟨k + 1, by go_num, by omega, by rw [HTN.out HSV.out]; exact HRY.out, HBY.out, HXY.out⟩
          case measure => simp [intOf]; omega
    · have hge : (L.length : Int) ≤ (k : Int) := by omega
      have hr := HROW.out
      rw [List.take_of_length_le (by omega)] at hr
      have HR := hide hr
      clear hr
      go_wp2_with (fail)
      go_ret
      refine ⟨_, rfl, ⟨HR.out.1, ?_⟩, HB.out⟩
      rcases HR.out.2 with h2 | ⟨g, cap, cur, hv, hg, r⟩
      · exact .inl h2
      · exact .inr ⟨g, cap, cur, hv, by omega, r⟩
end Go.Proofs.YtmhbhpjpnmggkaaDoor
