/- The document's Quoted. -/
import Derived.Test.YtnodeapjgicclaaGreatDoorSREsc
import Derived.Test.YtnodeapjgicclaaGreatDoorSRow8
import Derived.Test.YtnodeapjgicclaaGreatDoorSAgL
namespace Go.Proofs.YtnodeapjgicclaaGreatDoor
open Go.RowKit Go.Shelf
set_option linter.unusedVariables false

/-- A quoted text at the front: what it stands for, how many bytes it has or where it is wrong, whether it is one. -/
def qdV (l : List UInt8) : List UInt8 × Nat × Bool := (if (Qt (l.drop 1)).2.2 = true then (Qt (l.drop 1)).1 else [], 1 + (Qt (l.drop 1)).2.1, (Qt (l.drop 1)).2.2)
/-- How far a quoted text is read. -/
def qdI (l : List UInt8) (q : Nat) (acc : List UInt8) : Prop := 1 ≤ q ∧ q ≤ l.length ∧ acc.length ≤ q ∧ Qt (l.drop 1) = (acc ++ (Qt (l.drop q)).1, (q - 1) + (Qt (l.drop q)).2.1, (Qt (l.drop q)).2.2)
theorem qdI_start {l : List UInt8} (h : 0 < l.length) : qdI l 1 [] := ⟨Nat.le_refl _, h, Nat.zero_le _, by simp⟩
theorem qdI_fault {l acc : List UInt8} {q : Nat} (h : qdI l q acc) (hQ : Qt (l.drop q) = ([], 0, false)) : qdV l = ([], q, false) := by
  obtain ⟨h1, h2, h3, h4⟩ := h
  rw [hQ] at h4
  unfold qdV
  rw [h4]
  simp only [Bool.false_eq_true, if_false, Prod.mk.injEq, true_and, and_true]
  omega
theorem qdI_close {l acc : List UInt8} {q : Nat} (h : qdI l q acc) (hQ : Qt (l.drop q) = ([], 1, true)) : qdV l = (acc, q + 1, true) := by
  obtain ⟨h1, h2, h3, h4⟩ := h
  rw [hQ] at h4
  unfold qdV
  rw [h4]
  simp only [if_true, List.append_nil, Prod.mk.injEq, true_and, and_true]
  omega
theorem qdI_esc {l acc : List UInt8} {q : Nat} (h : qdI l q acc) (hQ : Qt (l.drop q) = ((escL (l.drop q)).1 ++ (Qt ((l.drop q).drop (escL (l.drop q)).2)).1, (escL (l.drop q)).2 + (Qt ((l.drop q).drop (escL (l.drop q)).2)).2.1, (Qt ((l.drop q).drop (escL (l.drop q)).2)).2.2)) :
    qdI l (q + (escL (l.drop q)).2) (acc ++ (escL (l.drop q)).1) := by
  obtain ⟨h1, h2, h3, h4⟩ := h
  have hs := escL_small (l.drop q)
  rw [List.length_drop] at hs
  rw [hQ, List.drop_drop] at h4
  refine ⟨by omega, by omega, by rw [List.length_append]; omega, ?_⟩
  rw [h4, List.append_assoc]
  simp only [Prod.mk.injEq, true_and, and_true]
  omega
theorem qdI_char {l acc : List UInt8} {q : Nat} (h : qdI l q acc) (hlt : q < l.length) (hQ : Qt (l.drop q) = ((l.drop q).take (cw (l.drop q)) ++ (Qt ((l.drop q).drop (cw (l.drop q)))).1, cw (l.drop q) + (Qt ((l.drop q).drop (cw (l.drop q)))).2.1, (Qt ((l.drop q).drop (cw (l.drop q)))).2.2)) :
    qdI l (q + cw (l.drop q)) (acc ++ (l.drop q).take (cw (l.drop q))) := by
  obtain ⟨h1, h2, h3, h4⟩ := h
  have hne : l.drop q ≠ [] := fun e => by have := congrArg List.length e; rw [List.length_drop] at this; simp at this; omega
  have hs := cw_len (l.drop q) hne
  rw [List.length_drop] at hs
  rw [hQ, List.drop_drop] at h4
  refine ⟨by omega, by omega, by rw [List.length_append, List.length_take]; omega, ?_⟩
  rw [h4, List.append_assoc]
  simp only [Prod.mk.injEq, true_and, and_true]
  omega
theorem not34 {l : List UInt8} (h : by' l 0 ≠ 34) : ¬ (0 < l.length ∧ by' l 0 = 34) := fun c => h c.2
theorem first_eq {l : List UInt8} (hl : l ≠ []) : firstV l = ((rune l : Int), (cw l : Int), decide (W l ≠ 0)) := by unfold firstV; rw [if_neg hl]

set_option maxRecDepth 100000 in
set_option maxHeartbeats 4000000 in
theorem rquoted_any (s : ByteArray) (w : World) (hs : s.size ≤ 17592186044416) (h0 : 0 < s.size) :
    Calls Tryz.prog 20 #[.string s] w fun e w' => e = .returned (.tuple #[.string ⟨(qdV (bl s)).1.toArray⟩, .int .i64 ((qdV (bl s)).2.1 : Int), .bool (qdV (bl s)).2.2]) ∧ Below w.heap.size w w' := by
  obtain ⟨i0, hi, hz0, hz1, hz2⟩ := info_parts Tryz.info8s
  have hI := qdI_start (l := bl s) (by rw [bl_len]; exact h0)
  obtain ⟨R, hR⟩ : ∃ R, qdV (bl s) = R := ⟨_, rfl⟩
  rw [hR]
  have HR := hide hR
  have HI := hide hI
  have hsI : (s.size : Int) ≤ 17592186044416 := by omega
  have h0I : (1 : Int) ≤ (s.size : Int) := by omega
  clear hR hI h0
  go_enter Tryz.func20, Tryz.ntmps20
  go_wp2_with (fail)
  go_loopw [5, 6] (fun v at_ wr => ∃ (q : Nat) (acc : List UInt8), at_ = .int .i64 (q : Int) ∧ qdI (bl s) q acc ∧ Row8 wr w.heap.size v acc ∧ Below w.heap.size w wr) (fun _ at_ _ => s.size - (intOf at_).toNat)
  case atStart => exact ⟨1, [], rfl, HI.out, World.ownsRow_nil _ _ _ _, Below.refl _ _⟩
  case round =>
    clear HI
    obtain ⟨q, acc, rfl, hq, hrow, hB⟩ := hrel
    have hq1 := hq.1
    have hqs := hq.2.1
    have hql := hq.2.2.1
    rw [bl_len] at hqs
    have HQ := hide hq
    have HROW := hide hrow
    have HB := hide hB
    have hBw := hB.size
    clear hrow hB hq
    by_cases hlt : q < s.size
    · have hltI : (q : Int) < (s.size : Int) := by omega
      have hne := bl_drop_ne hlt
      have hby : by' ((bl s).drop q) 0 = (s[q]'hlt).toNat := by rw [by'_drop, Nat.add_zero]; exact by'_get s q hlt
      have hb256 : (s[q]'hlt).toNat < 256 := UInt8.toNat_lt _
      by_cases h34 : (s[q]'hlt).toNat = 34
      · have hV := qdI_close HQ.out (Qt_close ⟨List.length_pos_iff.2 hne, by rw [hby]; exact h34⟩)
        rw [HR.out] at hV
        subst hV
        have h34I : (((s[q]'hlt).toNat : Int) != 34) = false := by rw [h34]; rfl
        have hcv := run_string_own8 wr w.heap.size u5 acc HROW.out
        clear h34 hby hne
        go_wp2_with (fail)
        go_ret3
        exact ⟨rfl, HB.out⟩
      · have h34I : (((s[q]'hlt).toNat : Int) != 34) = true := by rw [bne_iff_ne]; omega
        have c34 := not34 (l := (bl s).drop q) (by rw [hby]; exact h34)
        have hsz : (s.extract q s.size).size ≤ 17592186044416 := by rw [ByteArray.size_extract]; omega
        by_cases h92 : (s[q]'hlt).toNat = 92
        · have h92I : (((s[q]'hlt).toNat : Int) == 92) = true := by rw [h92]; rfl
          have c92 : (firstV ((bl s).drop q)).1 = 92 := (rune92 hne).2 (by rw [hby]; exact h92)
          have ke := fun W => rescape_any (s.extract q s.size) W hsz
          rw [bl_from] at ke
          by_cases hn : (escL ((bl s).drop q)).2 = 0
          · have hV := qdI_fault HQ.out (Qt_none c34 c92 hn)
            rw [HR.out] at hV
            subst hV
            rw [hn] at ke
            have KE := hide ke
            clear h34 h92 hby hne c34 c92 hn ke
            go_wp2_with (go_at_call 32; refine (KE.out _).mono ?_; rintro e x ⟨rfl, hbx⟩; have HBX := hide (bseq HB.out hbx); clear hbx)
            go_ret3
            exact ⟨rfl, HBX.out⟩
          · have hV := qdI_esc HQ.out (Qt_esc c34 c92 hn)
            have hsm := escL_small ((bl s).drop q)
            rw [List.length_drop, bl_len] at hsm
            obtain ⟨B, n, hE⟩ : ∃ B n, escL ((bl s).drop q) = (B, n) := ⟨_, _, rfl⟩
            rw [hE] at ke hV hsm hn
            simp only at ke hV hsm hn
            have hBs : (⟨B.toArray⟩ : ByteArray).size = B.length := by simp [ByteArray.size]
            have KE := hide ke
            have HV := hide hV
            have hnI : ((n : Int) == 0) = false := by simp [hn]
            have hqn : (q : Int) + (n : Int) ≤ (s.size : Int) := by omega
            clear h34 h92 hby hne c34 c92 ke hV hE
            generalize hT : (⟨B.toArray⟩ : ByteArray) = T at *
            have hTl : T.data.toList = B := by rw [← hT]
            clear hT
            go_wp2_with (first | (go_at_call 32; refine (KE.out _).mono ?_; rintro e x ⟨rfl, hbx⟩; have HRX := hide (HROW.out.below hbx); have HBX := hide (bseq HB.out hbx); have hwx := hbx.size; clear hbx) | (at_builtin; refine Lib.wpList_append_own_string _ rfl _ _ 61 9 rfl w.heap.size 5 i0 Tryz.underlying61 Tryz.underlying9 hi hz0 hz1 hz2 _ acc.length (Lib.byteCells acc) rfl HRX.out T rfl (by simp only [maxLen]; omega) (by omega) (by omega) ?_; intro v' w4 hown' hgrow' _))
            have hb4 : Below w.heap.size w w4 := HBX.out.grown hgrow' HBX.out.size (fun j e => (HRX.out.lt j e).1)
            have hrow4 : Row8 w4 w.heap.size v' (acc ++ B) := Row8.more hTl hown'
            go_roundw
            case rel => exact ⟨q + n, acc ++ B, by go_num, HV.out, hrow4, hb4⟩
            case measure => simp [intOf]; omega
        · have h92I : (((s[q]'hlt).toNat : Int) == 92) = false := beq_eq_false_iff_ne.2 (by omega)
          have c92 : (firstV ((bl s).drop q)).1 ≠ 92 := fun c => h92 (by rw [← hby]; exact (rune92 hne).1 c)
          have hxp : 0 < (s.extract q s.size).size := by rw [ByteArray.size_extract]; omega
          have kc := fun W => rchar_any (s.extract q s.size) W hxp (by omega)
          rw [bl_from] at kc
          have hfe := first_eq hne
          by_cases hp : (firstV ((bl s).drop q)).2.2 = true ∧ plainK (firstV ((bl s).drop q)).1 = true
          · have hV := qdI_char HQ.out (by rw [bl_len]; exact hlt) (Qt_char c34 c92 hp)
            have hcl := cw_len _ hne
            have hcp := cw_pos ((bl s).drop q)
            rw [List.length_drop, bl_len] at hcl
            have hx : (s.extract q (q + cw ((bl s).drop q))).data.toList = ((bl s).drop q).take (cw ((bl s).drop q)) := by
              have := bl_extract s q (q + cw ((bl s).drop q))
              rw [Nat.add_sub_cancel_left] at this
              exact this
            rw [hfe] at hp
            simp only at hp
            rw [hp.1] at kc
            have kp := fun W => rplain_any (rune ((bl s).drop q) : Int) W
            rw [hp.2] at kp
            have KC := hide kc
            have KP := hide kp
            have HX := hide hx
            have HV := hide hV
            generalize cw ((bl s).drop q) = m at *
            generalize rune ((bl s).drop q) = r at *
            generalize ((bl s).drop q).take m = B at *
            have hmI : (q : Int) + (m : Int) ≤ (s.size : Int) := by omega
            have hm1I : 1 ≤ (m : Int) := by omega
            have hEs : (s.extract q (q + m)).size = m := by rw [ByteArray.size_extract]; omega
            clear h34 h92 hby hne c34 c92 kc kp hx hV hfe hp hxp
            go_wp2_with (first | (go_at_call 33; refine (KC.out _).mono ?_; rintro e x ⟨rfl, hbx⟩; have HRX := hide (HROW.out.below hbx); have HBX := hide (bseq HB.out hbx); have hwx := hbx.size; clear hbx) | (go_at_call 34; refine (KP.out _).mono ?_; rintro e x2 ⟨rfl, rfl⟩) | (at_builtin; refine Lib.wpList_append_own_string _ rfl _ _ 61 9 rfl w.heap.size 5 i0 Tryz.underlying61 Tryz.underlying9 hi hz0 hz1 hz2 _ acc.length (Lib.byteCells acc) rfl HRX.out (s.extract q (q + m)) rfl (by simp only [maxLen]; omega) (by omega) (by omega) ?_; intro v' w4 hown' hgrow' _))
            have hb4 : Below w.heap.size w w4 := HBX.out.grown hgrow' HBX.out.size (fun j e => (HRX.out.lt j e).1)
            have hrow4 : Row8 w4 w.heap.size v' (acc ++ B) := Row8.more HX.out hown'
            go_roundw
            case rel => exact ⟨q + m, acc ++ B, by go_num, HV.out, hrow4, hb4⟩
            case measure => simp [intOf]; omega
          · have hV := qdI_fault HQ.out (Qt_fault c34 c92 hp)
            rw [HR.out] at hV
            subst hV
            rw [hfe] at hp
            simp only at hp
            have kp := fun W => rplain_any (rune ((bl s).drop q) : Int) W
            generalize hg1 : decide (W ((bl s).drop q) ≠ 0) = g1 at *
            generalize hg2 : plainK (rune ((bl s).drop q) : Int) = g2 at *
            generalize cw ((bl s).drop q) = m at *
            generalize rune ((bl s).drop q) = r at *
            have KC := hide kc
            have KP := hide kp
            clear h34 h92 hby hne c34 c92 kc kp hfe hxp hg1 hg2
            cases g1 with
            | false =>
              go_wp2_with (first | (go_at_call 33; refine (KC.out _).mono ?_; rintro e x ⟨rfl, hbx⟩; have HBX := hide (bseq HB.out hbx); clear hbx) | (go_at_call 34; refine (KP.out _).mono ?_; rintro e x2 ⟨rfl, rfl⟩))
              go_ret3
              exact ⟨rfl, HBX.out⟩
            | true =>
              cases g2 with
              | true => exact absurd ⟨rfl, rfl⟩ hp
              | false =>
                go_wp2_with (first | (go_at_call 33; refine (KC.out _).mono ?_; rintro e x ⟨rfl, hbx⟩; have HBX := hide (bseq HB.out hbx); clear hbx) | (go_at_call 34; refine (KP.out _).mono ?_; rintro e x2 ⟨rfl, rfl⟩))
                go_ret3
                exact ⟨rfl, HBX.out⟩
    · have hge : (s.size : Int) ≤ (q : Int) := by omega
      have hqe : q = s.size := by omega
      have hV := qdI_fault HQ.out (by rw [List.drop_eq_nil_of_le (by rw [bl_len]; omega)]; rfl)
      rw [HR.out] at hV
      subst hV
      have HQE := hide hqe
      clear hqe
      go_wp2_with (fail)
      go_ret3
      exact ⟨by rw [HQE.out]; rfl, HB.out⟩
end Go.Proofs.YtnodeapjgicclaaGreatDoor
