/- The stops of a text, as the statement lists them. -/
import Derived.Test.YtobemmfgpjgiaabKWkM
import Derived.Test.YtobemmfgpjgiaabURun
import Derived.Laws.AppendOwnNone
import Derived.OwnWalk
namespace Go.Proofs.Ytobemmfgpjgiaab
open Go.RowKit Go.Shelf
set_option linter.unusedVariables false

/-- The statement's numbers of the classes. -/
def phi (c : Int) : Int := if c = 1 then 0 else if c = 2 then 1 else if c = 7 then -1 else 2
theorem phi_blank (r : Int) : (phi (clsK r) = 0) ↔ clsK r = 1 := by
  rcases clsK_vals r with h | h | h <;> rw [h] <;> decide
theorem phi_same (r : Int) (c : Int) (hc : c = 0 ∨ c = 1 ∨ c = 2 ∨ c = 7) : (phi (clsK r) = phi c) ↔ clsK r = c := by
  rcases clsK_vals r with h | h | h <;> rw [h] <;> rcases hc with rfl | rfl | rfl | rfl <;> decide
theorem lcl_vals (l : List (Nat × Nat × Nat)) : lcl 7 l = 0 ∨ lcl 7 l = 1 ∨ lcl 7 l = 2 ∨ lcl 7 l = 7 := by
  unfold lcl
  cases l.getLast? with
  | none => exact .inr (.inr (.inr rfl))
  | some e => rcases clsK_vals (e.2.1 : Int) with h | h | h
              · exact .inl h
              · exact .inr (.inl h)
              · exact .inr (.inr (.inl h))
set_option maxHeartbeats 1000000 in
theorem lclass_any (s : ByteArray) (w : World) (h0 : 0 < s.size) (hs : s.size ≤ 9223372036854775807) :
    Calls Try.prog 20 #[.string s] w fun e w' => e = .returned (.int .i64 (phi (clsK (rune (bl s) : Nat)))) ∧ Below w.heap.size w w' := by
  have hne := bl_ne h0
  have kf := fun w => first_any s w hs
  rw [firstV_ne hne] at kf
  have hw0 := fun h => @rune_0 (bl s) h
  by_cases hW : W (bl s) = 0
  · have hr := hw0 hW
    rw [decide_eq_false (by simpa using hW)] at kf
    have hv : phi (clsK (rune (bl s) : Nat)) = 2 := by rw [hr]; decide +kernel
    rw [hv]
    have KF := hide kf
    clear kf hw0 hv hr hW
    go_enter Try.func20, Try.ntmps20
    go_wp2_with (go_at_call 25; refine (KF.out _).mono ?_; rintro e w1 ⟨rfl, hB1⟩)
    go_ret
    exact ⟨rfl, hB1⟩
  · rw [decide_eq_true hW] at kf
    generalize rune (bl s) = r at *
    have hv : phi (clsK (r : Int)) = if blankK (r : Int) then 0 else if wordK (r : Int) then 1 else 2 := by
      unfold clsK; cases blankK (r : Int) <;> cases wordK (r : Int) <;> decide
    rw [hv]
    have KF := hide kf
    clear kf hw0 hv hW
    go_enter Try.func20, Try.ntmps20
    go_wp2_with (first | (go_at_call 25; refine (KF.out _).mono ?_; rintro e w1 ⟨rfl, hB1⟩) | (go_at_call 17; refine (blank_any _ _).mono ?_; rintro e w2 ⟨rfl, rfl⟩) | (go_at_call 18; refine (word_any _ _).mono ?_; rintro e w2 ⟨rfl, rfl⟩))
    all_goals first | (go_ret; refine ⟨ret_k ?_, hB1⟩; first | (simp [*]; done) | (simp_all; done)) | (exfalso; simp_all; done)
theorem ownsRow_iter' {W : World} {base K : Nat} {t : TypeId} {n : Nat} {v : Value} {k : Nat} {xs : List Value} {s : ByteArray} {pos : Nat} (h : W.ownsRow base t n v k xs) (hit : W.heap[K]? = some (.stringIter s pos)) (pos' : Nat) : (W.iterAt K s pos').ownsRow base t n v k xs := ownsRow_iter h hit pos'
theorem ownsRow_belowK {W W' : World} {base : Nat} {e : TypeId} {size : Nat} {v : Value} {k : Nat} {xs : List Value} (h : W.ownsRow base e size v k xs) (hb : Below W.heap.size W W') : W'.ownsRow base e size v k xs := by
  refine ⟨h.1, ?_⟩
  rcases h.2 with h | ⟨g, cap, cur, hv, hg, hk, r⟩
  · exact .inl h
  · exact .inr ⟨g, cap, cur, hv, hg, (hb.block g (Array.getElem?_eq_some_iff.1 hk).1).trans hk, r⟩
theorem stp_stay (a : Int) (x : List (Nat × Nat × Nat)) (e : Nat × Nat × Nat) (h : clsE e = 1 ∨ clsE e = lcl a x) : stp a (x ++ [e]) = stp a x := by
  rw [stp_snoc, if_neg (fun g => h.elim g.1 g.2), List.append_nil]
theorem stp_new (a : Int) (x : List (Nat × Nat × Nat)) (e : Nat × Nat × Nat) (h : clsE e ≠ 1) (k : clsE e ≠ lcl a x) : stp a (x ++ [e]) = stp a x ++ [e.1] := by
  rw [stp_snoc, if_pos ⟨h, k⟩]
theorem stp_len : ∀ (l : List (Nat × Nat × Nat)) (a : Int), (stp a l).length ≤ l.length
  | [], a => by simp [stp]
  | x :: l, a => by
    have := stp_len l (clsE x)
    simp only [stp]
    split <;> simp only [List.length_cons] <;> omega
def I64k (p : Nat) : Value := .int .i64 (p : Int)
theorem Try.info64k : (Try.prog.info? 3).map (fun i => (i.zero, i.size, i.bytes)) = some (some (.int .i64 0), 1, 8) := by kernel_rfl
set_option maxHeartbeats 2000000 in
theorem stops_any (s : ByteArray) (w : World) (hs : s.size ≤ 1048576) :
    Calls Try.prog 7 #[.string s] w fun e w' => ∃ v, e = .returned v ∧ w'.ownsRow (w.heap.size + 1) 3 1 v ((Sp (bl s)).length + 1) ((Sp (bl s) ++ [s.size]).map I64k) ∧ Below w.heap.size w w' := by
  obtain ⟨i0, hi, hz0, hz1, hz2⟩ := info_parts Try.info64k
  go_enter Try.func7, Try.ntmps7
  go_wp2_with (fail)
  go_loopw [3, 4] (fun v c wr => ∃ pos k : Nat, pos ≤ s.size ∧ Inv (bl s) pos k ∧ c = .int .i64 (phi (lcl 7 ((Cs 0 (bl s)).take k))) ∧ wr.heap[w.heap.size]? = some (.stringIter s pos) ∧ wr.ownsRow (w.heap.size + 1) 3 1 v (stp 7 ((Cs 0 (bl s)).take k)).length ((stp 7 ((Cs 0 (bl s)).take k)).map I64k) ∧ Below w.heap.size w wr) (fun _ _ wr => s.size - wr.iterPos w.heap.size)
  case atStart => exact ⟨0, 0, by omega, Inv.start _, rfl, World.iter_heap w s 0, World.ownsRow_nil _ _ _ _, iter_below _ _ _⟩
  case round =>
    obtain ⟨pos, k, hps, hI, rfl, hit, hown, hB⟩ := hrel
    have HIT := hide hit
    have hll := Cs_len_le (bl s)
    rw [bl_len] at hll
    by_cases hlt : pos < s.size
    · have hnx : ∀ ty, (Instr.next (.pointer (some ⟨w.heap.size, 0, none⟩)) true ty).run Try.prog wr = _ := fun ty => nxt_at wr w.heap.size s pos ty hit hlt
      have hh := hI.here (by rw [bl_len]; exact hlt)
      have hst := hI.step (by rw [bl_len]; exact hlt)
      have h1 := cw_pos ((bl s).drop pos)
      have h2 := cw_len _ (bl_drop_ne hlt)
      rw [List.length_drop, bl_len] at h2
      have hkl : k < (Cs 0 (bl s)).length := (List.getElem?_eq_some_iff.1 hh).1
      have htk : (Cs 0 (bl s)).take (k + 1) = (Cs 0 (bl s)).take k ++ [(pos, rune ((bl s).drop pos), cw ((bl s).drop pos))] := (take_snoc hh).symm
      have hsl := stp_len ((Cs 0 (bl s)).take k) 7
      rw [List.length_take] at hsl
      have kc := fun w => lclass_any (s.extract pos s.size) w (by simp; omega) (by simp; omega)
      rw [bl_from] at kc
      have hsn1 : (clsK (rune ((bl s).drop pos) : Nat) = 1 ∨ clsK (rune ((bl s).drop pos) : Nat) = lcl 7 ((Cs 0 (bl s)).take k)) → stp 7 ((Cs 0 (bl s)).take (k + 1)) = stp 7 ((Cs 0 (bl s)).take k) := fun h => by
        rw [htk]; exact stp_stay _ _ _ h
      have hsn2 : clsK (rune ((bl s).drop pos) : Nat) ≠ 1 → clsK (rune ((bl s).drop pos) : Nat) ≠ lcl 7 ((Cs 0 (bl s)).take k) → stp 7 ((Cs 0 (bl s)).take (k + 1)) = stp 7 ((Cs 0 (bl s)).take k) ++ [pos] := fun h g => by
        rw [htk]; exact stp_new _ _ _ h g
      have hlc := lcl_snoc 7 ((Cs 0 (bl s)).take k) (pos, rune ((bl s).drop pos), cw ((bl s).drop pos))
      rw [← htk] at hlc
      have hv1 := phi_blank (rune ((bl s).drop pos) : Nat)
      have hv2 := phi_same (rune ((bl s).drop pos) : Nat) _ (lcl_vals ((Cs 0 (bl s)).take k))
      have hlt' := hll
      generalize stp 7 ((Cs 0 (bl s)).take k) = L at *
      generalize lcl 7 ((Cs 0 (bl s)).take k) = was at *
      simp only [clsE] at hlc
      generalize rune ((bl s).drop pos) = r at *
      generalize hc : cw ((bl s).drop pos) = c at *
      generalize clsK (r : Int) = q at *
      have hownI := ownsRow_iter' hown hit (pos + c)
      have hit2 := Lib.iterAt_heap wr w.heap.size s pos (pos + c) hit
      have hB2 := Lib.below_iterAt hB (k := w.heap.size) (Nat.le_refl _) s (pos + c)
      have hsz := (Array.getElem?_eq_some_iff.1 hit).1
      have hsz2 : (wr.iterAt w.heap.size s (pos + c)).heap.size = wr.heap.size := Lib.iterAt_size _ _ _ _
      generalize hW : wr.iterAt w.heap.size s (pos + c) = W2 at *
      have hposI : (pos : Int) ≤ (s.size : Int) := by omega
      have HST := hide hst
      have HT2 := hide hit2
      have HB2 := hide hB2
      have HO2 := hide hownI
      have KC := hide kc
      have HLC := hide hlc
      clear hst hit2 hB2 hownI kc hlc hh hB hown hit hI hc hW htk
      by_cases hq1 : q = 1
      · have hq1' := hv1.2 hq1
        have HSN := hide (hsn1 (.inl hq1))
        rw [hq1'] at KC
        have HQ := hide hq1'
        clear hv1 hv2 hq1 hq1' hsn1 hsn2
        go_wp2_with (go_at_call 20; refine (KC.out _).mono ?_; rintro e w3 ⟨rfl, hB3⟩)
        go_roundw
        case rel => exact ⟨pos + c, k + 1, by omega, HST.out, by rw [HLC.out, HQ.out], (hB3.block _ (by have := (Array.getElem?_eq_some_iff.1 HT2.out).1; omega)).trans HT2.out, by rw [HSN.out]; exact ownsRow_belowK HO2.out hB3, bseq HB2.out hB3⟩
        case measure =>
          have e1 : w3.iterPos w.heap.size = pos + c := iterPos_of ((hB3.block _ (by have := (Array.getElem?_eq_some_iff.1 HT2.out).1; omega)).trans HT2.out)
          have e2 : wr.iterPos w.heap.size = pos := iterPos_of HIT.out
          rw [e1, e2]; omega
      · have hn0 : phi q ≠ 0 := fun h => hq1 (hv1.1 h)
        have hb0 : (phi q != 0) = true := by simp [hn0]
        by_cases hqw : q = was
        · have HSN := hide (hsn1 (.inr hqw))
          have hb1 : (phi q != phi was) = false := by rw [hqw]; simp
          subst hqw
          clear hv1 hv2 hq1 hsn1 hsn2 hn0
          go_wp2_with (go_at_call 20; refine (KC.out _).mono ?_; rintro e w3 ⟨rfl, hB3⟩)
          go_roundw
          case rel => exact ⟨pos + c, k + 1, by omega, HST.out, by rw [HLC.out], (hB3.block _ (by have := (Array.getElem?_eq_some_iff.1 HT2.out).1; omega)).trans HT2.out, by rw [HSN.out]; exact ownsRow_belowK HO2.out hB3, bseq HB2.out hB3⟩
          case measure =>
            have e1 : w3.iterPos w.heap.size = pos + c := iterPos_of ((hB3.block _ (by have := (Array.getElem?_eq_some_iff.1 HT2.out).1; omega)).trans HT2.out)
            have e2 : wr.iterPos w.heap.size = pos := iterPos_of HIT.out
            rw [e1, e2]; omega
        · have HSN := hide (hsn2 hq1 hqw)
          have hn1 : phi q ≠ phi was := fun h => hqw (hv2.1 h)
          have hb1 : (phi q != phi was) = true := by simp [hn1]
          have hLl : L.length ≤ 1048576 := by omega
          clear hv1 hv2 hq1 hsn1 hsn2 hn0 hqw hn1
          go_wp2_with (first | (go_at_call 20; refine (KC.out _).mono ?_; rintro e w3 ⟨rfl, hB3⟩; have hr3 := ownsRow_belowK HO2.out hB3; have hs3 : w.heap.size + 1 ≤ w3.heap.size := (by have := hB3.size; have := (Array.getElem?_eq_some_iff.1 HT2.out).1; omega); have hit3 := (hB3.block _ (by have := (Array.getElem?_eq_some_iff.1 HT2.out).1; omega)).trans HT2.out; have hBw := bseq HB2.out hB3) | (at_builtin; refine wpList_append_own _ rfl _ _ 23 rfl (w.heap.size + 1) 3 i0 (.int .i64 0) 1 8 Try.underlying23 hi hz0 hz1 hz2 rfl (by omega) _ _ _ rfl (hr3.alloc _) ⟨_, 0, none⟩ 1 1 [.int .i64 (pos : Int)] rfl rfl (cell_one_new _ _ _) (by simp [Value.oneCell']) (by unfold maxLen; omega) (by omega) (by simp; omega) ?_; intro v1 w4 ho2 hg2 _))
          have hit4 : w4.heap[w.heap.size]? = some (.stringIter s (pos + c)) := by
            rw [hg2.block w.heap.size (by simp; omega) (fun e => by have := (hr3.lt _ e.symm).1; omega), Below.heap_alloc _ _ _ (by omega)]
            exact hit3
          go_roundw
          case rel =>
            refine ⟨pos + c, k + 1, by omega, HST.out, by rw [HLC.out], hit4, ?_, ?_⟩
            · rw [HSN.out, List.length_append, List.map_append]; exact ho2
            · exact (hBw.alloc hBw.size _).grown hg2 (by simp; omega) (fun j e => by have := (hr3.lt j e).1; omega)
          case measure =>
            have e1 : w4.iterPos w.heap.size = pos + c := iterPos_of hit4
            have e2 : wr.iterPos w.heap.size = pos := iterPos_of HIT.out
            rw [e1, e2]; omega
    · have hnx : ∀ ty, (Instr.next (.pointer (some ⟨w.heap.size, 0, none⟩)) true ty).run Try.prog wr = _ := fun ty => Lib.run_next_end_at wr w.heap.size s pos ty hit hlt
      have hfin := hI.fin (by rw [bl_len]; omega)
      rw [hfin, List.take_length] at hown
      have hLl : (stp 7 (Cs 0 (bl s))).length ≤ 1048576 := by
        have := stp_len (Cs 0 (bl s)) 7
        omega
      have hs3 : w.heap.size + 1 ≤ wr.heap.size := by have := (Array.getElem?_eq_some_iff.1 hit).1; omega
      have hS : Sp (bl s) = stp 7 (Cs 0 (bl s)) := rfl
      rw [← hS] at hown hLl
      have HO := hide hown
      have HB := hide hB
      clear hown hB hI hfin hS hit
      go_wp2_with (at_builtin; refine wpList_append_own _ rfl _ _ 23 rfl (w.heap.size + 1) 3 i0 (.int .i64 0) 1 8 Try.underlying23 hi hz0 hz1 hz2 rfl (by omega) _ _ _ rfl (HO.out.alloc _) ⟨_, 0, none⟩ 1 1 [.int .i64 (s.size : Int)] rfl rfl (cell_one_new _ _ _) (by simp [Value.oneCell']) (by unfold maxLen; omega) (by omega) (by simp; omega) ?_; intro v1 w4 ho2 hg2 _)
      go_ret
      refine ⟨v1, rfl, ?_, (HB.out.alloc HB.out.size _).grown hg2 (by simp; omega) (fun j e => by have := (HO.out.lt j e).1; omega)⟩
      rw [List.map_append]
      exact ho2
end Go.Proofs.Ytobemmfgpjgiaab
