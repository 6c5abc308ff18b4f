/- Package scan: Quote. -/
import Derived.Test.YtaljllbfedfpoaaGreatDoorSQuoM
import Derived.Test.YtaljllbfedfpoaaGreatDoorSFmt
import Derived.Test.YtaljllbfedfpoaaGreatDoorSBld
import Derived.Test.YtaljllbfedfpoaaGreatDoorSQtdW
namespace Go.Proofs.YtaljllbfedfpoaaGreatDoor
open Go.RowKit Go.Shelf
set_option linter.unusedVariables false

theorem escape_any (c : Nat) (f : UInt8) (w : World) (hZ : LaidZ w) :
    Calls Tryz.prog 43 #[.int .i32 (c : Int), .int .u8 (f.toNat : Int)] w fun e w' => e = .returned (.string ⟨(escB c f).toArray⟩) ∧ Below w.heap.size w w' := by
  unfold escB
  by_cases c1 : c = 34
  · subst c1
    exact (escape_34 _ w).mono fun e w' ⟨h1, h2⟩ => ⟨h1, by subst h2; exact Below.refl _ _⟩
  rw [if_neg c1]
  by_cases c2 : c = 92
  · subst c2
    exact (escape_92 _ w).mono fun e w' ⟨h1, h2⟩ => ⟨h1, by subst h2; exact Below.refl _ _⟩
  rw [if_neg c2]
  by_cases c3 : c = 10
  · subst c3
    exact (escape_10 _ w).mono fun e w' ⟨h1, h2⟩ => ⟨h1, by subst h2; exact Below.refl _ _⟩
  rw [if_neg c3]
  by_cases c4 : c = 13
  · subst c4
    exact (escape_13 _ w).mono fun e w' ⟨h1, h2⟩ => ⟨h1, by subst h2; exact Below.refl _ _⟩
  rw [if_neg c4]
  by_cases c5 : c = 9
  · subst c5
    exact (escape_9 _ w).mono fun e w' ⟨h1, h2⟩ => ⟨h1, by subst h2; exact Below.refl _ _⟩
  rw [if_neg c5]
  by_cases c6 : c = 133
  · subst c6
    exact escape_133 _ w hZ
  rw [if_neg c6]
  by_cases c7 : c = 8232
  · subst c7
    exact escape_8232 _ w hZ
  rw [if_neg c7]
  by_cases c8 : c = 8233
  · subst c8
    exact escape_8233 _ w hZ
  rw [if_neg c8]
  exact escape_byte (c : Int) f w ⟨beq_eq_false_iff_ne.2 (by omega), beq_eq_false_iff_ne.2 (by omega), beq_eq_false_iff_ne.2 (by omega), beq_eq_false_iff_ne.2 (by omega), beq_eq_false_iff_ne.2 (by omega), beq_eq_false_iff_ne.2 (by omega), beq_eq_false_iff_ne.2 (by omega), beq_eq_false_iff_ne.2 (by omega)⟩

theorem LaidZ.on {B : Nat} {w w' : World} (h : LaidZ w) (hw : w.heap.size ≤ B) (hb : Below B w w') : LaidZ w' := h.below (hb.mono hw)
set_option maxRecDepth 100000 in
set_option maxHeartbeats 4000000 in
theorem quote_any (s : ByteArray) (w : World) (hs : s.size ≤ 17592186044416) (hZ : LaidZ w) :
    Calls Tryz.prog 18 #[.string s] w fun e w' => e = .returned (.string ⟨(34 :: (qo (bl s) ++ [34])).toArray⟩) ∧ Below w.heap.size w w' := by
  have HZ := hide hZ
  have hsI : (s.size : Int) ≤ 17592186044416 := by omega
  have hbk : (w.alloc (.cells #[.pointer none, .slice none 0 0] 72)).heap[w.heap.size]? = some (.cells #[.pointer none, .slice none 0 0] 72 (0, 0)) := heap_alloc_new w _
  have hb0 : Below w.heap.size w (w.alloc (.cells #[.pointer none, .slice none 0 0] 72)) := (Below.refl _ _).alloc (Nat.le_refl _) _
  have kg := bgrow w.heap.size w.heap.size (1 + s.size + 1) _ (Nat.le_refl _) hbk hb0.size (by omega)
  push_cast at kg
  have KG := hide kg
  have HB0 := hide hb0
  clear hZ kg hbk hb0
  go_enter Tryz.func18, Tryz.ntmps18
  go_wp2_with (first | (go_at_call 38; refine (KG.out).mono ?_; rintro e x ⟨rfl, hBx, hbx⟩; have HBX := hide hBx; have HX := hide (HB0.out.trans hbx); clear hBx hbx) | (go_at_call 39; refine (bwriteByte _ _ [] 34 _ HBX.out (by decide) HX.out.size).mono ?_; rintro e y ⟨rfl, hBy, hby⟩; have HBY := hide hBy; have HY := hide (HX.out.trans hby); clear hBy hby HBX))
  go_loopw [4] (fun at_ wr => ∃ (q : Nat) (acc : List UInt8), at_ = .int .i64 (q : Int) ∧ q ≤ s.size ∧ acc ++ qo ((bl s).drop q) = 34 :: qo (bl s) ∧ acc.length ≤ 1 + 4 * q ∧ Bd8 w.heap.size w.heap.size acc wr ∧ Below w.heap.size w wr) (fun at_ _ => s.size - (intOf at_).toNat)
  case atStart => exact ⟨0, [34], rfl, Nat.zero_le _, rfl, by decide, HBY.out, HY.out⟩
  case round =>
    obtain ⟨q, acc, rfl, hqs, hacc, hlen, hBd, hB⟩ := hrel
    have HBD := hide hBd
    have HB := hide hB
    have HACC := hide hacc
    clear hBd hB hacc HBY HY
    by_cases hlt : q < s.size
    · have hltI : (q : Int) < (s.size : Int) := by omega
      have hne := bl_drop_ne hlt
      have hxs : (s.extract q s.size).size ≤ 9223372036854775807 := by rw [ByteArray.size_extract]; omega
      have kf := fun W => first_any (s.extract q s.size) W hxs
      rw [bl_from] at kf
      have hm1 := cw_pos ((bl s).drop q)
      have hm2 := cw_len _ hne
      have hm4 := cw_le4 ((bl s).drop q)
      rw [List.length_drop, bl_len] at hm2
      have hF : firstV ((bl s).drop q) = ((rune ((bl s).drop q) : Int), (cw ((bl s).drop q) : Int), decide (W ((bl s).drop q) ≠ 0)) := by unfold firstV; rw [if_neg hne]
      rw [hF] at kf
      simp only at kf
      have hqc := qo_cons hne
      have hpl := piece_le hne
      rw [List.drop_drop] at hqc
      have hhd : ((bl s).drop q).headD 0 = s[q]'hlt := by
        rw [List.drop_eq_getElem_cons (by rw [bl_len]; exact hlt)]
        rfl
      have hx : (s.extract q (q + cw ((bl s).drop q))).data.toList = ((bl s).drop q).take (cw ((bl s).drop q)) := by
        have := bl_extract s q (q + cw ((bl s).drop q))
        rw [Nat.add_sub_cancel_left] at this
        exact this
      have hpc : piece ((bl s).drop q) = if W ((bl s).drop q) ≠ 0 ∧ plainK (rune ((bl s).drop q) : Int) = true then ((bl s).drop q).take (cw ((bl s).drop q)) else escB (rune ((bl s).drop q)) (s[q]'hlt) := by unfold piece; rw [hhd]
      rw [hqc] at HACC
      have KF := hide kf
      have HX := hide hx
      have HPC := hide hpc
      generalize piece ((bl s).drop q) = P at *
      generalize W ((bl s).drop q) = wl at *
      generalize rune ((bl s).drop q) = r at *
      generalize cw ((bl s).drop q) = m at *
      have hmI : (q : Int) + (m : Int) ≤ (s.size : Int) := by omega
      have hm4I : (m : Int) ≤ 4 := by omega
      have hm1I : 1 ≤ (m : Int) := by omega
      have KP := hide (fun W => plain_any (r : Int) W)
      have hnx : (acc ++ P) ++ qo ((bl s).drop (q + m)) = 34 :: qo (bl s) := by rw [List.append_assoc]; exact HACC.out
      have hnl : (acc ++ P).length ≤ 1 + 4 * (q + m) := by rw [List.length_append]; omega
      have HNX := hide hnx
      clear kf hF hqc hhd hx hpc hne hnx hxs
      by_cases hw : wl ≠ 0
      · rw [decide_eq_true hw] at KF
        cases hpk : plainK (r : Int) with
        | true =>
          rw [hpk] at KP
          have hP := HPC.out
          rw [if_pos ⟨hw, hpk⟩, ← HX.out] at hP
          have hwl : acc.length + (s.extract q (q + m)).size ≤ 140737488355328 := by rw [ByteArray.size_extract]; omega
          have kw := fun W h1 h2 => bwriteString w.heap.size w.heap.size acc (s.extract q (q + m)) W h1 hwl h2
          rw [← hP] at kw
          have KW := hide kw
          clear kw hP hwl HX HPC hpk
          go_wp2_with (first | (go_at_call 40; refine (KF.out _).mono ?_; rintro e x ⟨rfl, hbx⟩; have HX2 := hide (bseq HB.out hbx); have HBX2 := hide (HBD.out.below hbx); clear hbx HBD) | (go_at_call 41; refine (KP.out _).mono ?_; rintro e x2 ⟨rfl, hx2⟩; subst hx2) | (go_at_call 42; refine (KW.out _ HBX2.out HX2.out.size).mono ?_; rintro e y ⟨⟨ev, rfl⟩, hBy, hby⟩; have HBY := hide hBy; have HY := hide (HX2.out.trans hby); clear hBy hby HBX2))
          go_roundw
          case rel => exact ⟨q + m, acc ++ P, by go_num, by omega, HNX.out, hnl, HBY.out, HY.out⟩
          case measure => simp [intOf]; omega
        | false =>
          rw [hpk] at KP
          have hP := HPC.out
          rw [if_neg (by rw [hpk]; exact fun h => absurd h.2 (by decide))] at hP
          have ke := fun W h => escape_any r (s[q]'hlt) W h
          rw [← hP] at ke
          have hwl : acc.length + (⟨P.toArray⟩ : ByteArray).size ≤ 140737488355328 := by
            have : (⟨P.toArray⟩ : ByteArray).size = P.length := by simp [ByteArray.size]
            omega
          have KE := hide ke
          clear ke hP HX HPC hpk
          go_wp2_with (first | (go_at_call 40; refine (KF.out _).mono ?_; rintro e x ⟨rfl, hbx⟩; have HX2 := hide (bseq HB.out hbx); have HBX2 := hide (HBD.out.below hbx); clear hbx HBD) | (go_at_call 41; refine (KP.out _).mono ?_; rintro e x2 ⟨rfl, hx2⟩; subst hx2) | (go_at_call 43; refine (KE.out _ (HZ.out.below HX2.out)).mono ?_; rintro e z ⟨rfl, hbz⟩; have HX3 := hide (bseq HX2.out hbz); have HBX3 := hide (HBX2.out.below hbz); clear hbz HBX2) | (go_at_call 42; refine (bwriteString _ _ acc _ _ HBX3.out hwl HX3.out.size).mono ?_; rintro e y ⟨⟨ev, rfl⟩, hBy, hby⟩; have HBY := hide hBy; have HY := hide (HX3.out.trans hby); clear hBy hby HBX3))
          go_roundw
          case rel => exact ⟨q + m, acc ++ P, by go_num, by omega, HNX.out, hnl, HBY.out, HY.out⟩
          case measure => simp [intOf]; omega
      · rw [decide_eq_false hw] at KF
        have hP := HPC.out
        rw [if_neg (fun h => hw h.1)] at hP
        have ke := fun W h => escape_any r (s[q]'hlt) W h
        rw [← hP] at ke
        have hwl : acc.length + (⟨P.toArray⟩ : ByteArray).size ≤ 140737488355328 := by
          have : (⟨P.toArray⟩ : ByteArray).size = P.length := by simp [ByteArray.size]
          omega
        have KE := hide ke
        clear ke hP HX HPC
        go_wp2_with (first | (go_at_call 40; refine (KF.out _).mono ?_; rintro e x ⟨rfl, hbx⟩; have HX2 := hide (bseq HB.out hbx); have HBX2 := hide (HBD.out.below hbx); clear hbx HBD) | (go_at_call 43; refine (KE.out _ (HZ.out.below HX2.out)).mono ?_; rintro e z ⟨rfl, hbz⟩; have HX3 := hide (bseq HX2.out hbz); have HBX3 := hide (HBX2.out.below hbz); clear hbz HBX2) | (go_at_call 42; refine (bwriteString _ _ acc _ _ HBX3.out hwl HX3.out.size).mono ?_; rintro e y ⟨⟨ev, rfl⟩, hBy, hby⟩; have HBY := hide hBy; have HY := hide (HX3.out.trans hby); clear hBy hby HBX3))
        go_roundw
        case rel => exact ⟨q + m, acc ++ P, by go_num, by omega, HNX.out, hnl, HBY.out, HY.out⟩
        case measure => simp [intOf]; omega
    · have hltI : (s.size : Int) ≤ (q : Int) := by omega
      have hacc := HACC.out
      rw [List.drop_eq_nil_of_le (by rw [bl_len]; omega), qo_nil, List.append_nil] at hacc
      have hw1 : acc.length + 1 ≤ 140737488355328 := by omega
      go_wp2_with (first | (go_at_call 39; refine (bwriteByte _ _ acc 34 _ HBD.out hw1 HB.out.size).mono ?_; rintro e y ⟨rfl, hBy, hby⟩; have HBY := hide hBy; have HY := hide (HB.out.trans hby); clear hBy hby HBD) | (go_at_call 44; refine (bstring _ _ _ _ HBY.out HY.out.size).mono ?_; rintro e z ⟨rfl, hBz, hbz⟩; have HZ2 := hide (HY.out.trans hbz); clear hBz hbz HBY))
      go_ret
      exact ⟨rfl, HZ2.out⟩
end Go.Proofs.YtaljllbfedfpoaaGreatDoor
