/- ScanBack, walked: all bytes come back out of their quoted text. -/
import Derived.Test.YtmhbhpjpnmggkaaDoorSWrk
import Derived.Test.YtmhbhpjpnmggkaaDoorSUnqF
namespace Go.Proofs.YtmhbhpjpnmggkaaDoor
open Go.RowKit Go.Shelf
set_option linter.unusedVariables false

/-- A quoted text is one token. -/
theorem sc_quoted (l : List UInt8) : Sc (34 :: (qo l ++ [34])) 0 [] = .inl [(3, 0, l, 0)] := by
  have hlen : (34 :: (qo l ++ [34])).length = (qo l).length + 2 := by simp
  have h0 : 0 + skp blankC ((34 :: (qo l ++ [34])).drop 0) = 0 := rfl
  have hq : Qt ((34 :: (qo l ++ [34])).drop (0 + 1)) = (l, (qo l).length + 1, true) := Qt_qo [] l
  rw [Sc_eq [] (Nat.zero_le _) h0, hlen, if_neg (by omega), if_pos (show by' (34 :: (qo l ++ [34])) 0 = 34 from rfl), hq]
  simp only [if_true]
  rw [if_pos (Or.inl (by omega))]
  have hd : (34 :: (qo l ++ [34])).drop (0 + 1 + ((qo l).length + 1)) = [] := List.drop_eq_nil_of_le (by rw [hlen]; omega)
  have h1 : 0 + 1 + ((qo l).length + 1) + skp blankC ((34 :: (qo l ++ [34])).drop (0 + 1 + ((qo l).length + 1))) = (qo l).length + 2 := by rw [hd]; simp [skp]; omega
  rw [Sc_eq _ (by rw [hlen]; omega) h1, hlen, if_pos rfl]
  rfl
theorem one_cell {W : World} {a : Option Addr} {x0 : TkI} (h : SlK W a [x0]) : ∃ b off, a = some ⟨b, off, none⟩ ∧
    (W.cell? ⟨b, off, none⟩ = some (.int .i64 x0.1) ∧ W.cell? ⟨b, off + 1, none⟩ = some (.int .i64 x0.2.1) ∧ W.cell? ⟨b, off + 2, none⟩ = some (.string x0.2.2.1) ∧ W.cell? ⟨b, off + 3, none⟩ = some (.int .i64 x0.2.2.2)) := by
  rcases h with h | ⟨b, off, ha, hb, hc⟩
  · cases h
  · exact ⟨b, off, ha, hc 0 x0 rfl⟩
set_option maxRecDepth 100000 in
set_option maxHeartbeats 8000000 in
theorem back_road (s : ByteArray) (w : World) (hs : s.size ≤ 1048576) (hL : LaidW w) (hZ : LaidZ w) :
    Calls Tryd.prog 6 #[.string s] w fun e w' => e = .returned (.bool true) ∧ Below w.heap.size w w' := by
  have hqs := qo_len (bl s)
  rw [bl_len] at hqs
  obtain ⟨Q, hQ⟩ : ∃ Q : ByteArray, Q = ⟨(34 :: (qo (bl s) ++ [34])).toArray⟩ := ⟨_, rfl⟩
  have hQb : bl Q = 34 :: (qo (bl s) ++ [34]) := by rw [hQ]; rfl
  have kq := quote_any s w (by omega) hZ
  rw [← hQ] at kq
  have hsz : Q.size = (qo (bl s)).length + 2 := by rw [← bl_len, hQb]; simp
  have hok : ∀ i (h : i < Q.size), 32 ≤ (Q[i]'h).toNat ∧ (Q[i]'h).toNat ≠ 127 := by
    intro i h
    have hm : (Q[i]'h) ∈ bl Q := by
      have : (Q[i]'h) = (bl Q)[i]'(by rw [bl_len]; exact h) := rfl
      rw [this]
      exact List.getElem_mem _
    rw [hQb] at hm
    simp only [List.mem_cons, List.mem_append, List.not_mem_nil, or_false] at hm
    rcases hm with h1 | h1 | h1
    · rw [h1]; decide
    · exact qo_ok _ _ h1
    · rw [h1]; decide
  have hz0 : 0 < Q.size := by omega
  have e0 : (Q[0]'hz0).toNat = 34 := by
    have h1 := by'_get Q 0 hz0
    rw [← h1]
    show by' (bl Q) 0 = 34
    rw [hQb]; rfl
  have hzl : Q.size - 1 < Q.size := by omega
  have el : (Q[Q.size - 1]'hzl).toNat = 34 := by
    have h1 := by'_get Q (Q.size - 1) hzl
    rw [← h1]
    show by' (bl Q) (Q.size - 1) = 34
    rw [hQb, hsz]
    unfold by'
    rw [show (qo (bl s)).length + 2 - 1 = (qo (bl s)).length + 1 from rfl, List.getElem?_cons_succ, List.getElem?_append_right (Nat.le_refl _)]
    simp
  have KQ := hide kq
  have HOK := hide hok
  have HL := hide hL
  have HZ := hide hZ
  have HQB := hide hQb
  have h2 : (2 : Int) ≤ (Q.size : Int) := by omega
  have hqm : (Q.size : Int) ≤ 4194306 := by omega
  have hd2 : decide ((Q.size : Int) < 2) = false := decide_eq_false (by omega)
  have HSZ := hide hsz
  clear kq hok hL hZ hQb hQ hsz hqs
  go_enter Tryd.func6, Tryd.ntmps6
  go_wp2_with (go_at_call 7; refine (KQ.out).mono ?_; rintro e x ⟨rfl, hx⟩)
  go_loop [4] (fun i => ∃ k : Nat, i = .int .i64 k ∧ k ≤ Q.size) (fun i => Q.size - (intOf i).toNat)
  case atStart => exact ⟨0, rfl, Nat.zero_le _⟩
  case round =>
    obtain ⟨k, rfl, hk⟩ := hrel
    by_cases hlt : k < Q.size
    · have hltI : (k : Int) < (Q.size : Int) := by omega
      obtain ⟨o1, o2⟩ := HOK.out k hlt
      have o3 : (32 : Int) ≤ ((Q[k]'hlt).toNat : Int) := by omega
      have o4 : (((Q[k]'hlt).toNat : Int) == 127) = false := beq_eq_false_iff_ne.2 (by omega)
      clear o1 o2
      go_wp2
      go_round
      case rel => exact ⟨k + 1, by go_num, by omega⟩
      case measure => simp [intOf]; omega
    · have hge : (Q.size : Int) ≤ (k : Int) := by omega
      by_cases hbig : 16384 < Q.size
      · have hbigI : (16384 : Int) < (Q.size : Int) := by omega
        go_wp2_with (go_at_call 9; refine (works_any _ (HL.out.below hx) (HZ.out.below hx)).mono ?_; rintro e y ⟨rfl, hy⟩)
        go_ret
        exact ⟨rfl, bseq hx hy⟩
      · have hbigI : (Q.size : Int) ≤ 16384 := by omega
        have h34 : isAt Q 0 34 = true := by
          unfold isAt
          rw [decide_eq_true hz0, HQB.out]
          rfl
        have hQt : Qt ((bl Q).drop 1) = (bl s, (qo (bl s)).length + 1, true) := by rw [HQB.out]; exact Qt_qo [] (bl s)
        have ku := fun W => unq_ok Q W (by omega) h34 (bl s) ((qo (bl s)).length + 1) hQt (by have := HSZ.out; omega)
        rw [bl_back] at ku
        have ks := fun W h => scan_any Q W (by omega) h
        rw [HQB.out, sc_quoted] at ks
        have KU := hide ku
        have KS := hide ks
        have g0 := Tryd.noGuardTk
        have g1 := fun W => eql_tk 3 0 s 0 W
        have KW := hide (fun W h1 h2 => works_any W h1 h2)
        clear ku ks h34 hQt
        go_wp2_with (first | (go_at_call 16; refine (KU.out _).mono ?_; rintro e y ⟨rfl, hy⟩; have HY := hide (bseq hx hy); clear hy) | (go_at_call 17; refine (KS.out _ (HL.out.below HY.out)).mono ?_; rintro e z ⟨v, rfl, hrow, hbz⟩; obtain ⟨a, cap, rfl, hsl0⟩ := hrow.slk; have hsl : SlK z a [(3, 0, ⟨(bl s).toArray⟩, 0)] := hsl0; rw [bl_back] at hsl; obtain ⟨b0, off, ha, ⟨c00, c01, c02, c03⟩⟩ := one_cell hsl; subst ha; have HZZ := hide (bseq HY.out hbz); clear hsl hsl0 hrow hbz) | (go_at_call 9; refine (KW.out _ (HL.out.below HZZ.out) (HZ.out.below HZZ.out)).mono ?_; rintro e u ⟨rfl, hu⟩))
        go_ret
        exact ⟨rfl, bseq HZZ.out hu⟩
end Go.Proofs.YtmhbhpjpnmggkaaDoor
