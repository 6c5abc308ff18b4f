/- GapOne. -/
import Derived.Test.YtheefdplbmneeaaGpW
namespace Go.Proofs.Ytheefdplbmneeaa
open Go.RowKit
set_option linter.unusedVariables false
set_option linter.unusedSimpArgs false

theorem rem_in (a : Int) (n : Nat) : -(n : Int) ≤ a.tmod ((n : Int) + 1) ∧ a.tmod ((n : Int) + 1) ≤ n := by
  have h := Int.natAbs_tmod a ((n : Int) + 1)
  have h2 : ((n : Int) + 1).natAbs = n + 1 := by omega
  rw [h2] at h
  have h3 := Nat.mod_lt a.natAbs (show n + 1 > 0 by omega)
  omega
theorem make_none (W : World) : Calls Try.prog 11 #[.string { data := #[] }] W fun e w' => ∃ g, e = .returned (.tuple #[.pointer (some ⟨g, 0, none⟩), .int .i64 0]) ∧ GapL w' g { data := #[] } 0 ∧ W.heap.size ≤ g ∧ Below W.heap.size W w' := make_yes { data := #[] } (by decide)
theorem ext_none (T : ByteArray) (n : Nat) (h : T.size ≤ n) : T.extract n n = { data := #[] } := by
  apply tx_inj
  rw [tx_cut, Nat.sub_self, List.take_zero]
  rfl
theorem ext_grow (T : ByteArray) (n j : Nat) (hj : j + 1 ≤ n) (hn : n ≤ T.size) : (T.extract (j + 1) n).extract 0 0 ++ T.extract j (j + 1) ++ (T.extract (j + 1) n).extract 0 (T.extract (j + 1) n).size = T.extract j n := by
  apply tx_inj
  have e1 : tx ((T.extract (j + 1) n).extract 0 0) = [] := by rw [tx_cut, Nat.sub_self, List.take_zero]
  rw [tx_app, tx_app, e1, List.nil_append, ByteArray.extract_zero_size, tx_cut, tx_cut, tx_cut]
  rw [show j + 1 - j = 1 by omega, show n - j = 1 + (n - (j + 1)) by omega, List.take_add, List.drop_drop]
theorem cut_str (T : ByteArray) (a b : Nat) (hab : a ≤ b) (hb : b ≤ T.size) (W : World) : (Instr.slice 9 (.string T) (some (.int .i64 (a : Int))) (some (.int .i64 (b : Int))) none).run Try.prog W = .ok (.string (T.extract a b)) W := by
  have h1 : (0 : Int) ≤ (b : Int) ∧ (b : Int) ≤ (T.size : Int) := by omega
  have h2 : (0 : Int) ≤ (a : Int) ∧ (a : Int) ≤ (b : Int) := by omega
  simp [Instr.slice, Sem.run_bind, run_underlying Try.underlying9, Instr.sliceBounds, Instr.sliceBound, asIntOf, h1, h2, hab, hb]
theorem eq_blocks {W : World} {P R p : Nat} {S : ByteArray} (h1 : OwnI W P (blk S p)) (h2 : OwnI W R (blk S p)) (hp : p ≤ S.size) (hs : S.size ≤ 252) : Calls Try.prog 23 #[.slice (some ⟨P, 0, none⟩) 256 256, .slice (some ⟨R, 0, none⟩) 256 256] W fun e w' => e = .returned (.bool true) ∧ Below W.heap.size W w' := by
  have k := eqBytes_any (some ⟨P, 0, none⟩) (some ⟨R, 0, none⟩) 256 256 (blk S p) (blk S p) W (h1.sl (blk_lt S p)) (h2.sl (blk_lt S p)) (by rw [blk_len hp hs]; decide)
  rw [blk_len hp hs, decide_eq_true rfl] at k
  exact k.mono fun e w' ⟨h3, n, h4⟩ => ⟨h3, by rw [h4]; exact below_drewN (Below.refl _ _) n⟩
set_option maxHeartbeats 2000000 in
theorem one_walk (s : ByteArray) (at_ : Int) (w : World) (hs : s.size ≤ 9223372036854775807) (h1 : -9223372036854775808 ≤ at_) (h2 : at_ ≤ 9223372036854775807) : Calls Try.prog 6 #[.string s, .int .i64 at_] w fun e w' => e = .returned (.bool true) ∧ Below w.heap.size w w' := by
  by_cases hI : (252 : Int) < (s.size : Int)
  · obtain ⟨T, hT⟩ : ∃ T, T = s.extract 0 252 := ⟨_, rfl⟩
    have hl : T.size ≤ 252 := by rw [hT, ByteArray.size_extract]; omega
    have HT := hide hT
    clear hT
    obtain ⟨hm1, hm2⟩ := rem_in at_ T.size
    have hlI : (T.size : Int) ≤ 252 := by omega
    have KM := hide (make_yes (w := w) T hl)
    have KE := hide make_none
    have HL := hide hl
    have HS := hide hl
    obtain ⟨n, hn⟩ : ∃ n, n = T.size := ⟨_, rfl⟩
    have HN := hide hn.symm
    rw [← hn] at KM
    clear hn hl
    go_enter Try.func6, Try.ntmps6
    go_upto_region 3 with (fail)
    rw [← HT.out]
    go_upto_region 4 with (fail)
    generalize at_.tmod ((T.size : Int) + 1) = m at *
    by_cases hneg : m < 0
    · have hq' : ∃ q : Nat, (q : Int) = m + (T.size : Int) + 1 := ⟨(m + (T.size : Int) + 1).toNat, by omega⟩
      obtain ⟨q, hq⟩ := hq'
      have HQ : Hid (q ≤ T.size) := show q ≤ T.size by omega
      have EQ := hide hq.symm
      clear hq
      go_upto_region 6 with (fail)
      rw [EQ.out]
      clear hm1 hm2
      go_wp2_with (first
        | (go_at_call 11; refine (KM.out).mono ?_; rintro e W1 ⟨g, rfl, hg1, hn1, hb1⟩; have G1 := hide hg1; have N1 := hide hn1; have B1 := hide hb1; clear hg1 hn1 hb1 KM)
        | (go_at_call 11; refine (KE.out _).mono ?_; rintro e W2 ⟨h, rfl, hg2, hn2, hb2⟩; have H2 := hide hg2; have N2 := hide (Nat.le_trans B1.out.size hn2); have G2 := hide (G1.out.below hb2); have NE : Hid (g ≠ h) := (by have := G1.out.lt; show g ≠ h; omega); have B2 := hide (bseq B1.out hb2); clear hg2 hn2 hb2 KE))
      go_loopw [9] (fun iv wr => ∃ (k p : Nat), k ≤ n ∧ iv = .int .i64 ((k : Int) - 1) ∧ GapL wr h (T.extract k n) p ∧ GapL wr g T n ∧ Below w.heap.size w wr) (fun iv _ => (intOf iv + 1).toNat)
      case atStart => exact ⟨n, 0, Nat.le_refl _, by rw [HN.out], by rw [ext_none T n (Nat.le_of_eq HN.out)]; exact H2.out, G2.out, B2.out⟩
      case round =>
        obtain ⟨k, p, hk, rfl, hh, hg, hB⟩ := hrel
        have H3 := hide hh
        have G3 := hide hg
        have B3 := hide hB
        clear hh hg hB
        by_cases hk0 : 0 < k
        · obtain ⟨j, rfl⟩ : ∃ j, k = j + 1 := ⟨k - 1, by omega⟩
          have ej : ((j + 1 : Nat) : Int) - 1 = (j : Int) := by omega
          rw [ej]
          have hjI : (j : Int) + 1 ≤ (T.size : Int) := by have := HN.out; omega
          have hjI2 : (0 : Int) ≤ (j : Int) := by omega
          have ki := insert_yes H3.out 0 (Nat.zero_le _) (T.extract j (j + 1)) (by rw [ByteArray.size_extract, ByteArray.size_extract]; have := HN.out; have := HL.out; omega)
          rw [ext_grow T n j hk (Nat.le_of_eq HN.out.symm)] at ki
          have KI := hide ki
          clear ki ej hk0
          obtain ⟨U, hU⟩ : ∃ U, U = T.extract j (j + 1) := ⟨_, rfl⟩
          have su : ∀ W, (Instr.slice 9 (.string T) (some (.int .i64 (j : Int))) (some (.int .i64 ((j : Int) + 1))) none).run Try.prog W = .ok (.string (T.extract j (j + 1))) W := fun W => by
            have e := cut_str T j (j + 1) (by omega) (by omega) W
            rwa [show ((j + 1 : Nat) : Int) = (j : Int) + 1 by omega] at e
          rw [← hU] at su KI
          clear hU
          go_wp2_with (go_at_call 17; refine (KI.out).mono ?_; rintro e W4 ⟨rfl, hg4, hk4⟩; have H4 := hide hg4; have G4 := hide (G3.out.keep hk4 NE.out); have B4 := hide (in_bel B3.out hk4 N2.out); clear hg4 hk4)
          go_roundw
          case rel => exact ⟨j, _, by omega, rfl, H4.out, G4.out, B4.out⟩
          case measure => simp [intOf]
        · obtain rfl : k = 0 := by omega
          have e0 : T.extract 0 n = T := by rw [← HN.out]; exact ByteArray.extract_zero_size
          rw [e0] at H3
          clear hk0 e0
          have k1 := fun W (hW : GapL W g T n) => move_yes hW q HQ.out
          have k2 := fun W p (hW : GapL W h T p) => move_yes hW q HQ.out
          have K1 := hide k1
          have K2 := hide k2
          clear k1 k2
          go_wp2_with (first
            | (go_at_call 16; refine (K1.out _ G3.out).mono ?_; rintro e W5 ⟨rfl, hg5, hk5⟩; have G5 := hide hg5; have H5 := hide (H3.out.keep hk5 (Ne.symm NE.out)); have B5 := hide (in_bel B3.out hk5 N1.out); clear hg5 hk5 K1)
            | (go_at_call 16; refine (K2.out _ _ H5.out).mono ?_; rintro e W6 ⟨rfl, hg6, hk6⟩; have H6 := hide hg6; have G6 := hide (G5.out.keep hk6 NE.out); have B6 := hide (in_bel B5.out hk6 N2.out); clear hg6 hk6 K2; have K7 := hide (block_any G6.out))
            | (go_at_call 24; refine (K7.out).mono ?_; rintro e W7 ⟨P, rfl, ho7, hn7, hb7⟩; have O7 := hide ho7; have G7 := hide (G6.out.below hb7); have H7 := hide (H6.out.below hb7); have B7 := hide (bseq B6.out hb7); clear ho7 hn7 hb7 K7; have K8 := hide (block_any H7.out))
            | (go_at_call 24; refine (K8.out).mono ?_; rintro e W8 ⟨R, rfl, ho8, hn8, hb8⟩; have O8 := hide ho8; have O78 := hide (O7.out.below hb8 O7.out.lt); have G8 := hide (G7.out.below hb8); have H8 := hide (H7.out.below hb8); have B8 := hide (bseq B7.out hb8); clear ho8 hn8 hb8 K8)
            | (go_at_call 23; refine (eq_blocks O78.out O8.out HQ.out HS.out).mono ?_; rintro e W9 ⟨rfl, hb9⟩; have G9 := hide (G8.out.below hb9); have H9 := hide (H8.out.below hb9); have B9 := hide (bseq B8.out hb9); clear hb9; have KA := hide (text_b G9.out))
            | (go_at_call 19; refine (KA.out).mono ?_; rintro e WA ⟨rfl, hbA⟩; have HA := hide (H9.out.below hbA); have BA := hide (bseq B9.out hbA); clear hbA KA; have KB := hide (text_b HA.out))
            | (go_at_call 19; refine (KB.out).mono ?_; rintro e WB ⟨rfl, hbB⟩; have BB := hide (bseq BA.out hbB); clear hbB KB)
            | (go_at_call 10; refine (works_any _).mono ?_; rintro e WC ⟨rfl, hbC⟩; have BC := hide (bseq BB.out hbC); clear hbC))
          go_ret
          exact ⟨rfl, BC.out⟩
    · have hq' : ∃ q : Nat, (q : Int) = m := ⟨(m).toNat, by omega⟩
      obtain ⟨q, hq⟩ := hq'
      have HQ : Hid (q ≤ T.size) := show q ≤ T.size by omega
      have EQ := hide hq.symm
      clear hq
      go_upto_region 6 with (fail)
      rw [EQ.out]
      clear hm1 hm2
      go_wp2_with (first
        | (go_at_call 11; refine (KM.out).mono ?_; rintro e W1 ⟨g, rfl, hg1, hn1, hb1⟩; have G1 := hide hg1; have N1 := hide hn1; have B1 := hide hb1; clear hg1 hn1 hb1 KM)
        | (go_at_call 11; refine (KE.out _).mono ?_; rintro e W2 ⟨h, rfl, hg2, hn2, hb2⟩; have H2 := hide hg2; have N2 := hide (Nat.le_trans B1.out.size hn2); have G2 := hide (G1.out.below hb2); have NE : Hid (g ≠ h) := (by have := G1.out.lt; show g ≠ h; omega); have B2 := hide (bseq B1.out hb2); clear hg2 hn2 hb2 KE))
      go_loopw [9] (fun iv wr => ∃ (k p : Nat), k ≤ n ∧ iv = .int .i64 ((k : Int) - 1) ∧ GapL wr h (T.extract k n) p ∧ GapL wr g T n ∧ Below w.heap.size w wr) (fun iv _ => (intOf iv + 1).toNat)
      case atStart => exact ⟨n, 0, Nat.le_refl _, by rw [HN.out], by rw [ext_none T n (Nat.le_of_eq HN.out)]; exact H2.out, G2.out, B2.out⟩
      case round =>
        obtain ⟨k, p, hk, rfl, hh, hg, hB⟩ := hrel
        have H3 := hide hh
        have G3 := hide hg
        have B3 := hide hB
        clear hh hg hB
        by_cases hk0 : 0 < k
        · obtain ⟨j, rfl⟩ : ∃ j, k = j + 1 := ⟨k - 1, by omega⟩
          have ej : ((j + 1 : Nat) : Int) - 1 = (j : Int) := by omega
          rw [ej]
          have hjI : (j : Int) + 1 ≤ (T.size : Int) := by have := HN.out; omega
          have hjI2 : (0 : Int) ≤ (j : Int) := by omega
          have ki := insert_yes H3.out 0 (Nat.zero_le _) (T.extract j (j + 1)) (by rw [ByteArray.size_extract, ByteArray.size_extract]; have := HN.out; have := HL.out; omega)
          rw [ext_grow T n j hk (Nat.le_of_eq HN.out.symm)] at ki
          have KI := hide ki
          clear ki ej hk0
          obtain ⟨U, hU⟩ : ∃ U, U = T.extract j (j + 1) := ⟨_, rfl⟩
          have su : ∀ W, (Instr.slice 9 (.string T) (some (.int .i64 (j : Int))) (some (.int .i64 ((j : Int) + 1))) none).run Try.prog W = .ok (.string (T.extract j (j + 1))) W := fun W => by
            have e := cut_str T j (j + 1) (by omega) (by omega) W
            rwa [show ((j + 1 : Nat) : Int) = (j : Int) + 1 by omega] at e
          rw [← hU] at su KI
          clear hU
          go_wp2_with (go_at_call 17; refine (KI.out).mono ?_; rintro e W4 ⟨rfl, hg4, hk4⟩; have H4 := hide hg4; have G4 := hide (G3.out.keep hk4 NE.out); have B4 := hide (in_bel B3.out hk4 N2.out); clear hg4 hk4)
          go_roundw
          case rel => exact ⟨j, _, by omega, rfl, H4.out, G4.out, B4.out⟩
          case measure => simp [intOf]
        · obtain rfl : k = 0 := by omega
          have e0 : T.extract 0 n = T := by rw [← HN.out]; exact ByteArray.extract_zero_size
          rw [e0] at H3
          clear hk0 e0
          have k1 := fun W (hW : GapL W g T n) => move_yes hW q HQ.out
          have k2 := fun W p (hW : GapL W h T p) => move_yes hW q HQ.out
          have K1 := hide k1
          have K2 := hide k2
          clear k1 k2
          go_wp2_with (first
            | (go_at_call 16; refine (K1.out _ G3.out).mono ?_; rintro e W5 ⟨rfl, hg5, hk5⟩; have G5 := hide hg5; have H5 := hide (H3.out.keep hk5 (Ne.symm NE.out)); have B5 := hide (in_bel B3.out hk5 N1.out); clear hg5 hk5 K1)
            | (go_at_call 16; refine (K2.out _ _ H5.out).mono ?_; rintro e W6 ⟨rfl, hg6, hk6⟩; have H6 := hide hg6; have G6 := hide (G5.out.keep hk6 NE.out); have B6 := hide (in_bel B5.out hk6 N2.out); clear hg6 hk6 K2; have K7 := hide (block_any G6.out))
            | (go_at_call 24; refine (K7.out).mono ?_; rintro e W7 ⟨P, rfl, ho7, hn7, hb7⟩; have O7 := hide ho7; have G7 := hide (G6.out.below hb7); have H7 := hide (H6.out.below hb7); have B7 := hide (bseq B6.out hb7); clear ho7 hn7 hb7 K7; have K8 := hide (block_any H7.out))
            | (go_at_call 24; refine (K8.out).mono ?_; rintro e W8 ⟨R, rfl, ho8, hn8, hb8⟩; have O8 := hide ho8; have O78 := hide (O7.out.below hb8 O7.out.lt); have G8 := hide (G7.out.below hb8); have H8 := hide (H7.out.below hb8); have B8 := hide (bseq B7.out hb8); clear ho8 hn8 hb8 K8)
            | (go_at_call 23; refine (eq_blocks O78.out O8.out HQ.out HS.out).mono ?_; rintro e W9 ⟨rfl, hb9⟩; have G9 := hide (G8.out.below hb9); have H9 := hide (H8.out.below hb9); have B9 := hide (bseq B8.out hb9); clear hb9; have KA := hide (text_b G9.out))
            | (go_at_call 19; refine (KA.out).mono ?_; rintro e WA ⟨rfl, hbA⟩; have HA := hide (H9.out.below hbA); have BA := hide (bseq B9.out hbA); clear hbA KA; have KB := hide (text_b HA.out))
            | (go_at_call 19; refine (KB.out).mono ?_; rintro e WB ⟨rfl, hbB⟩; have BB := hide (bseq BA.out hbB); clear hbB KB)
            | (go_at_call 10; refine (works_any _).mono ?_; rintro e WC ⟨rfl, hbC⟩; have BC := hide (bseq BB.out hbC); clear hbC))
          go_ret
          exact ⟨rfl, BC.out⟩
  · obtain ⟨T, hT⟩ : ∃ T, T = s := ⟨_, rfl⟩
    subst hT
    have hl : T.size ≤ 252 := by omega
    obtain ⟨hm1, hm2⟩ := rem_in at_ T.size
    have hlI : (T.size : Int) ≤ 252 := by omega
    have KM := hide (make_yes (w := w) T hl)
    have KE := hide make_none
    have HL := hide hl
    have HS := hide hl
    obtain ⟨n, hn⟩ : ∃ n, n = T.size := ⟨_, rfl⟩
    have HN := hide hn.symm
    rw [← hn] at KM
    clear hn hl
    go_enter Try.func6, Try.ntmps6
    go_upto_region 4 with (fail)
    generalize at_.tmod ((T.size : Int) + 1) = m at *
    by_cases hneg : m < 0
    · have hq' : ∃ q : Nat, (q : Int) = m + (T.size : Int) + 1 := ⟨(m + (T.size : Int) + 1).toNat, by omega⟩
      obtain ⟨q, hq⟩ := hq'
      have HQ : Hid (q ≤ T.size) := show q ≤ T.size by omega
      have EQ := hide hq.symm
      clear hq
      go_upto_region 6 with (fail)
      rw [EQ.out]
      clear hm1 hm2
      go_wp2_with (first
        | (go_at_call 11; refine (KM.out).mono ?_; rintro e W1 ⟨g, rfl, hg1, hn1, hb1⟩; have G1 := hide hg1; have N1 := hide hn1; have B1 := hide hb1; clear hg1 hn1 hb1 KM)
        | (go_at_call 11; refine (KE.out _).mono ?_; rintro e W2 ⟨h, rfl, hg2, hn2, hb2⟩; have H2 := hide hg2; have N2 := hide (Nat.le_trans B1.out.size hn2); have G2 := hide (G1.out.below hb2); have NE : Hid (g ≠ h) := (by have := G1.out.lt; show g ≠ h; omega); have B2 := hide (bseq B1.out hb2); clear hg2 hn2 hb2 KE))
      go_loopw [9] (fun iv wr => ∃ (k p : Nat), k ≤ n ∧ iv = .int .i64 ((k : Int) - 1) ∧ GapL wr h (T.extract k n) p ∧ GapL wr g T n ∧ Below w.heap.size w wr) (fun iv _ => (intOf iv + 1).toNat)
      case atStart => exact ⟨n, 0, Nat.le_refl _, by rw [HN.out], by rw [ext_none T n (Nat.le_of_eq HN.out)]; exact H2.out, G2.out, B2.out⟩
      case round =>
        obtain ⟨k, p, hk, rfl, hh, hg, hB⟩ := hrel
        have H3 := hide hh
        have G3 := hide hg
        have B3 := hide hB
        clear hh hg hB
        by_cases hk0 : 0 < k
        · obtain ⟨j, rfl⟩ : ∃ j, k = j + 1 := ⟨k - 1, by omega⟩
          have ej : ((j + 1 : Nat) : Int) - 1 = (j : Int) := by omega
          rw [ej]
          have hjI : (j : Int) + 1 ≤ (T.size : Int) := by have := HN.out; omega
          have hjI2 : (0 : Int) ≤ (j : Int) := by omega
          have ki := insert_yes H3.out 0 (Nat.zero_le _) (T.extract j (j + 1)) (by rw [ByteArray.size_extract, ByteArray.size_extract]; have := HN.out; have := HL.out; omega)
          rw [ext_grow T n j hk (Nat.le_of_eq HN.out.symm)] at ki
          have KI := hide ki
          clear ki ej hk0
          obtain ⟨U, hU⟩ : ∃ U, U = T.extract j (j + 1) := ⟨_, rfl⟩
          have su : ∀ W, (Instr.slice 9 (.string T) (some (.int .i64 (j : Int))) (some (.int .i64 ((j : Int) + 1))) none).run Try.prog W = .ok (.string (T.extract j (j + 1))) W := fun W => by
            have e := cut_str T j (j + 1) (by omega) (by omega) W
            rwa [show ((j + 1 : Nat) : Int) = (j : Int) + 1 by omega] at e
          rw [← hU] at su KI
          clear hU
          go_wp2_with (go_at_call 17; refine (KI.out).mono ?_; rintro e W4 ⟨rfl, hg4, hk4⟩; have H4 := hide hg4; have G4 := hide (G3.out.keep hk4 NE.out); have B4 := hide (in_bel B3.out hk4 N2.out); clear hg4 hk4)
          go_roundw
          case rel => exact ⟨j, _, by omega, rfl, H4.out, G4.out, B4.out⟩
          case measure => simp [intOf]
        · obtain rfl : k = 0 := by omega
          have e0 : T.extract 0 n = T := by rw [← HN.out]; exact ByteArray.extract_zero_size
          rw [e0] at H3
          clear hk0 e0
          have k1 := fun W (hW : GapL W g T n) => move_yes hW q HQ.out
          have k2 := fun W p (hW : GapL W h T p) => move_yes hW q HQ.out
          have K1 := hide k1
          have K2 := hide k2
          clear k1 k2
          go_wp2_with (first
            | (go_at_call 16; refine (K1.out _ G3.out).mono ?_; rintro e W5 ⟨rfl, hg5, hk5⟩; have G5 := hide hg5; have H5 := hide (H3.out.keep hk5 (Ne.symm NE.out)); have B5 := hide (in_bel B3.out hk5 N1.out); clear hg5 hk5 K1)
            | (go_at_call 16; refine (K2.out _ _ H5.out).mono ?_; rintro e W6 ⟨rfl, hg6, hk6⟩; have H6 := hide hg6; have G6 := hide (G5.out.keep hk6 NE.out); have B6 := hide (in_bel B5.out hk6 N2.out); clear hg6 hk6 K2; have K7 := hide (block_any G6.out))
            | (go_at_call 24; refine (K7.out).mono ?_; rintro e W7 ⟨P, rfl, ho7, hn7, hb7⟩; have O7 := hide ho7; have G7 := hide (G6.out.below hb7); have H7 := hide (H6.out.below hb7); have B7 := hide (bseq B6.out hb7); clear ho7 hn7 hb7 K7; have K8 := hide (block_any H7.out))
            | (go_at_call 24; refine (K8.out).mono ?_; rintro e W8 ⟨R, rfl, ho8, hn8, hb8⟩; have O8 := hide ho8; have O78 := hide (O7.out.below hb8 O7.out.lt); have G8 := hide (G7.out.below hb8); have H8 := hide (H7.out.below hb8); have B8 := hide (bseq B7.out hb8); clear ho8 hn8 hb8 K8)
            | (go_at_call 23; refine (eq_blocks O78.out O8.out HQ.out HS.out).mono ?_; rintro e W9 ⟨rfl, hb9⟩; have G9 := hide (G8.out.below hb9); have H9 := hide (H8.out.below hb9); have B9 := hide (bseq B8.out hb9); clear hb9; have KA := hide (text_b G9.out))
            | (go_at_call 19; refine (KA.out).mono ?_; rintro e WA ⟨rfl, hbA⟩; have HA := hide (H9.out.below hbA); have BA := hide (bseq B9.out hbA); clear hbA KA; have KB := hide (text_b HA.out))
            | (go_at_call 19; refine (KB.out).mono ?_; rintro e WB ⟨rfl, hbB⟩; have BB := hide (bseq BA.out hbB); clear hbB KB)
            | (go_at_call 10; refine (works_any _).mono ?_; rintro e WC ⟨rfl, hbC⟩; have BC := hide (bseq BB.out hbC); clear hbC))
          go_ret
          exact ⟨rfl, BC.out⟩
    · have hq' : ∃ q : Nat, (q : Int) = m := ⟨(m).toNat, by omega⟩
      obtain ⟨q, hq⟩ := hq'
      have HQ : Hid (q ≤ T.size) := show q ≤ T.size by omega
      have EQ := hide hq.symm
      clear hq
      go_upto_region 6 with (fail)
      rw [EQ.out]
      clear hm1 hm2
      go_wp2_with (first
        | (go_at_call 11; refine (KM.out).mono ?_; rintro e W1 ⟨g, rfl, hg1, hn1, hb1⟩; have G1 := hide hg1; have N1 := hide hn1; have B1 := hide hb1; clear hg1 hn1 hb1 KM)
        | (go_at_call 11; refine (KE.out _).mono ?_; rintro e W2 ⟨h, rfl, hg2, hn2, hb2⟩; have H2 := hide hg2; have N2 := hide (Nat.le_trans B1.out.size hn2); have G2 := hide (G1.out.below hb2); have NE : Hid (g ≠ h) := (by have := G1.out.lt; show g ≠ h; omega); have B2 := hide (bseq B1.out hb2); clear hg2 hn2 hb2 KE))
      go_loopw [9] (fun iv wr => ∃ (k p : Nat), k ≤ n ∧ iv = .int .i64 ((k : Int) - 1) ∧ GapL wr h (T.extract k n) p ∧ GapL wr g T n ∧ Below w.heap.size w wr) (fun iv _ => (intOf iv + 1).toNat)
      case atStart => exact ⟨n, 0, Nat.le_refl _, by rw [HN.out], by rw [ext_none T n (Nat.le_of_eq HN.out)]; exact H2.out, G2.out, B2.out⟩
      case round =>
        obtain ⟨k, p, hk, rfl, hh, hg, hB⟩ := hrel
        have H3 := hide hh
        have G3 := hide hg
        have B3 := hide hB
        clear hh hg hB
        by_cases hk0 : 0 < k
        · obtain ⟨j, rfl⟩ : ∃ j, k = j + 1 := ⟨k - 1, by omega⟩
          have ej : ((j + 1 : Nat) : Int) - 1 = (j : Int) := by omega
          rw [ej]
          have hjI : (j : Int) + 1 ≤ (T.size : Int) := by have := HN.out; omega
          have hjI2 : (0 : Int) ≤ (j : Int) := by omega
          have ki := insert_yes H3.out 0 (Nat.zero_le _) (T.extract j (j + 1)) (by rw [ByteArray.size_extract, ByteArray.size_extract]; have := HN.out; have := HL.out; omega)
          rw [ext_grow T n j hk (Nat.le_of_eq HN.out.symm)] at ki
          have KI := hide ki
          clear ki ej hk0
          obtain ⟨U, hU⟩ : ∃ U, U = T.extract j (j + 1) := ⟨_, rfl⟩
          have su : ∀ W, (Instr.slice 9 (.string T) (some (.int .i64 (j : Int))) (some (.int .i64 ((j : Int) + 1))) none).run Try.prog W = .ok (.string (T.extract j (j + 1))) W := fun W => by
            have e := cut_str T j (j + 1) (by omega) (by omega) W
            rwa [show ((j + 1 : Nat) : Int) = (j : Int) + 1 by omega] at e
          rw [← hU] at su KI
          clear hU
          go_wp2_with (go_at_call 17; refine (KI.out).mono ?_; rintro e W4 ⟨rfl, hg4, hk4⟩; have H4 := hide hg4; have G4 := hide (G3.out.keep hk4 NE.out); have B4 := hide (in_bel B3.out hk4 N2.out); clear hg4 hk4)
          go_roundw
          case rel => exact ⟨j, _, by omega, rfl, H4.out, G4.out, B4.out⟩
          case measure => simp [intOf]
        · obtain rfl : k = 0 := by omega
          have e0 : T.extract 0 n = T := by rw [← HN.out]; exact ByteArray.extract_zero_size
          rw [e0] at H3
          clear hk0 e0
          have k1 := fun W (hW : GapL W g T n) => move_yes hW q HQ.out
          have k2 := fun W p (hW : GapL W h T p) => move_yes hW q HQ.out
          have K1 := hide k1
          have K2 := hide k2
          clear k1 k2
          go_wp2_with (first
            | (go_at_call 16; refine (K1.out _ G3.out).mono ?_; rintro e W5 ⟨rfl, hg5, hk5⟩; have G5 := hide hg5; have H5 := hide (H3.out.keep hk5 (Ne.symm NE.out)); have B5 := hide (in_bel B3.out hk5 N1.out); clear hg5 hk5 K1)
            | (go_at_call 16; refine (K2.out _ _ H5.out).mono ?_; rintro e W6 ⟨rfl, hg6, hk6⟩; have H6 := hide hg6; have G6 := hide (G5.out.keep hk6 NE.out); have B6 := hide (in_bel B5.out hk6 N2.out); clear hg6 hk6 K2; have K7 := hide (block_any G6.out))
            | (go_at_call 24; refine (K7.out).mono ?_; rintro e W7 ⟨P, rfl, ho7, hn7, hb7⟩; have O7 := hide ho7; have G7 := hide (G6.out.below hb7); have H7 := hide (H6.out.below hb7); have B7 := hide (bseq B6.out hb7); clear ho7 hn7 hb7 K7; have K8 := hide (block_any H7.out))
            | (go_at_call 24; refine (K8.out).mono ?_; rintro e W8 ⟨R, rfl, ho8, hn8, hb8⟩; have O8 := hide ho8; have O78 := hide (O7.out.below hb8 O7.out.lt); have G8 := hide (G7.out.below hb8); have H8 := hide (H7.out.below hb8); have B8 := hide (bseq B7.out hb8); clear ho8 hn8 hb8 K8)
            | (go_at_call 23; refine (eq_blocks O78.out O8.out HQ.out HS.out).mono ?_; rintro e W9 ⟨rfl, hb9⟩; have G9 := hide (G8.out.below hb9); have H9 := hide (H8.out.below hb9); have B9 := hide (bseq B8.out hb9); clear hb9; have KA := hide (text_b G9.out))
            | (go_at_call 19; refine (KA.out).mono ?_; rintro e WA ⟨rfl, hbA⟩; have HA := hide (H9.out.below hbA); have BA := hide (bseq B9.out hbA); clear hbA KA; have KB := hide (text_b HA.out))
            | (go_at_call 19; refine (KB.out).mono ?_; rintro e WB ⟨rfl, hbB⟩; have BB := hide (bseq BA.out hbB); clear hbB KB)
            | (go_at_call 10; refine (works_any _).mono ?_; rintro e WC ⟨rfl, hbC⟩; have BC := hide (bseq BB.out hbC); clear hbC))
          go_ret
          exact ⟨rfl, BC.out⟩
end Go.Proofs.Ytheefdplbmneeaa
