/- Bytes are put into a gap and taken out; bytes of a gap. -/
import Derived.Test.YtheefdplbmneeaaGpC
namespace Go.Proofs.Ytheefdplbmneeaa
open Go.RowKit
set_option linter.unusedVariables false
set_option linter.unusedSimpArgs false

theorem tx_ins (S T : ByteArray) (a : Nat) (ha : a ≤ S.size) : tx (S.extract 0 a ++ T ++ S.extract a S.size) = (tx S).take a ++ (tx T ++ (tx S).drop a) := by
  have e : ((tx S).drop a).take (S.size - a) = (tx S).drop a := List.take_of_length_le (by rw [List.length_drop, tx_len]; exact Nat.le_refl _)
  rw [tx_app, tx_app, tx_cut, tx_cut, List.drop_zero, Nat.sub_zero, e, List.append_assoc]
theorem tx_del (S : ByteArray) (a b : Nat) (hb : b ≤ S.size) : tx (S.extract 0 a ++ S.extract b S.size) = (tx S).take a ++ (tx S).drop b := by
  have e : ((tx S).drop b).take (S.size - b) = (tx S).drop b := List.take_of_length_le (by rw [List.length_drop, tx_len]; exact Nat.le_refl _)
  rw [tx_app, tx_cut, tx_cut, List.drop_zero, Nat.sub_zero, e]
theorem ins_size (S T : ByteArray) (a : Nat) (ha : a ≤ S.size) : (S.extract 0 a ++ T ++ S.extract a S.size).size = S.size + T.size := by
  rw [← tx_len, tx_ins S T a ha]
  simp only [List.length_append, List.length_take, List.length_drop, tx_len]
  omega
theorem del_size (S : ByteArray) (a b : Nat) (ha : a ≤ b) (hb : b ≤ S.size) : (S.extract 0 a ++ S.extract b S.size).size = S.size - (b - a) := by
  rw [← tx_len, tx_del S a b hb]
  simp only [List.length_append, List.length_take, List.length_drop, tx_len]
  omega
theorem in_one (n a : Nat) (b : Int) (h : inV n (a : Int) b = true) : (a : Int) ≤ b ∧ b ≤ n := by
  unfold inV at h
  simp at h
  omega
theorem in_iff (n : Nat) (a b : Int) : inV n a b = true ↔ 0 ≤ a ∧ a ≤ b ∧ b ≤ n := by
  unfold inV
  simp
  omega
section
variable {w : World} {g p : Nat} {S : ByteArray}
theorem move_yes (h : GapL w g S p) (a : Nat) (ha : a ≤ S.size) : Calls Try.prog 16 #[.pointer (some ⟨g, 0, none⟩), .int .i64 (a : Int)] w fun e w' => e = .returned (.int .i64 0) ∧ GapL w' g S a ∧ Ke (fun k => k = g) w w' := by
  have hv : ckV S.size a a = 0 := by unfold ckV; rw [if_pos ((in_iff _ _ _).2 ⟨by omega, by omega, by omega⟩)]
  have kc := check_b h a a
  rw [hv] at kc
  have KC := hide kc
  have HH := hide h
  have HA := hide ha
  clear kc hv h ha
  go_enter Try.func16, Try.ntmps16
  go_wp2_with (first | (go_at_call 39; refine (KC.out).mono ?_; rintro e w1 ⟨rfl, hb1⟩; have HB := hide hb1; have G1 := hide (HH.out.below hb1); clear hb1) | (go_at_call 40; refine (goTo_any G1.out a HA.out).mono ?_; rintro e w2 ⟨rfl, hg2, hk2⟩; have G2 := hide hg2; have K2 := hide hk2; clear hg2 hk2))
  go_ret
  exact ⟨rfl, G2.out, (Ke.of_below HB.out).trans K2.out⟩
theorem move_no (h : GapL w g S p) (a : Int) (ha : inV S.size a a = false) : Calls Try.prog 16 #[.pointer (some ⟨g, 0, none⟩), .int .i64 a] w fun e w' => e = .returned (.int .i64 6) ∧ Below w.heap.size w w' := by
  have hv : ckV S.size a a = 6 := by unfold ckV; rw [ha]; rfl
  have kc := check_b h a a
  rw [hv] at kc
  have KC := hide kc
  clear kc hv h ha
  go_enter Try.func16, Try.ntmps16
  go_wp2_with (first | (go_at_call 39; refine (KC.out).mono ?_; rintro e w1 ⟨rfl, hb1⟩; have HB := hide hb1; clear hb1))
  go_ret
  exact ⟨rfl, HB.out⟩
theorem insert_no (h : GapL w g S p) (a : Int) (T : ByteArray) (ha : inV S.size a a = false) : Calls Try.prog 17 #[.pointer (some ⟨g, 0, none⟩), .int .i64 a, .string T] w fun e w' => e = .returned (.int .i64 6) ∧ Below w.heap.size w w' := by
  have hv : ckV S.size a a = 6 := by unfold ckV; rw [ha]; rfl
  have kc := check_b h a a
  rw [hv] at kc
  have KC := hide kc
  clear kc hv h ha
  go_enter Try.func17, Try.ntmps17
  go_wp2_with (first | (go_at_call 39; refine (KC.out).mono ?_; rintro e w1 ⟨rfl, hb1⟩; have HB := hide hb1; clear hb1))
  go_ret
  exact ⟨rfl, HB.out⟩
theorem insert_full (h : GapL w g S p) (a : Nat) (ha : a ≤ S.size) (T : ByteArray) (hf : 252 < S.size + T.size) : Calls Try.prog 17 #[.pointer (some ⟨g, 0, none⟩), .int .i64 (a : Int), .string T] w fun e w' => e = .returned (.int .i64 161) ∧ Below w.heap.size w w' := by
  have hv : ckV S.size a a = 0 := by unfold ckV; rw [if_pos ((in_iff _ _ _).2 ⟨by omega, by omega, by omega⟩)]
  have kc := check_b h a a
  rw [hv] at kc
  have KC := hide kc
  have HH := hide h
  obtain ⟨z, hz⟩ : ∃ z, z = 252 - S.size := ⟨_, rfl⟩
  have kr : ∀ W, GapL W g S p → Calls Try.prog 21 #[.pointer (some ⟨g, 0, none⟩)] W fun e w' => e = .returned (.int .i64 (z : Int)) ∧ Below W.heap.size W w' := fun W hW => by rw [hz]; exact room_b hW
  have KR := hide kr
  have hfI : (z : Int) < (T.size : Int) := by have := h.2.1; omega
  clear kc hv h ha hz kr hf
  go_enter Try.func17, Try.ntmps17
  go_wp2_with (first | (go_at_call 39; refine (KC.out).mono ?_; rintro e w1 ⟨rfl, hb1⟩; have HB := hide hb1; have G1 := hide (HH.out.below hb1); clear hb1) | (go_at_call 21; refine (KR.out _ G1.out).mono ?_; rintro e w2 ⟨rfl, hb2⟩; have HB2 := hide hb2; clear hb2))
  go_ret
  exact ⟨rfl, bseq HB.out HB2.out⟩
set_option maxRecDepth 100000 in
set_option maxHeartbeats 1000000 in
theorem insert_yes (h : GapL w g S p) (a : Nat) (ha : a ≤ S.size) (T : ByteArray) (hf : S.size + T.size ≤ 252) : Calls Try.prog 17 #[.pointer (some ⟨g, 0, none⟩), .int .i64 (a : Int), .string T] w fun e w' => e = .returned (.int .i64 0) ∧ GapL w' g (S.extract 0 a ++ T ++ S.extract a S.size) (a + T.size) ∧ Ke (fun k => k = g) w w' := by
  have hv : ckV S.size a a = 0 := by unfold ckV; rw [if_pos ((in_iff _ _ _).2 ⟨by omega, by omega, by omega⟩)]
  have kc := check_b h a a
  rw [hv] at kc
  have KC := hide kc
  have HH := hide h
  obtain ⟨z, hz⟩ : ∃ z, z = 252 - S.size := ⟨_, rfl⟩
  have kr : ∀ W, GapL W g S p → Calls Try.prog 21 #[.pointer (some ⟨g, 0, none⟩)] W fun e w' => e = .returned (.int .i64 (z : Int)) ∧ Below W.heap.size W w' := fun W hW => by rw [hz]; exact room_b hW
  have KR := hide kr
  have hfI : (T.size : Int) ≤ (z : Int) := by omega
  have haI : (a : Int) ≤ 252 := by omega
  have hzI : (z : Int) ≤ 252 := by omega
  have HA := hide ha
  have HF := hide hf
  have HZ := hide hz
  obtain ⟨d, hd⟩ : ∃ d, d = gD (tx S) a := ⟨_, rfl⟩
  have hdl : d.length = 252 := by rw [hd]; exact gD_len _ _ (by rw [tx_len]; exact ha) (by rw [tx_len]; omega)
  have HC : ∀ W, GapL W g S a → GapC W g a (a + z) d := fun W hW => by rw [hd, hz]; exact hW.2.2
  obtain ⟨q1, n1, s1, hp1⟩ := cut_from g a (by omega)
  have S1 := hide s1
  have HP1 : Hid (0 < T.size → (some ⟨g, q1, none⟩ : Option Addr) = some ⟨g, 3 + a, none⟩) := fun h0 => by rw [hp1 (by omega)]
  have HN : Hid (T.size ≤ 252 - a) := by show _ ≤ _; omega
  have HL : Hid (a + T.size ≤ d.length) := by show _ ≤ _; omega
  have HE : Hid (∀ W, GapC W g (a + T.size) (a + z) (splice d a (tx T)) → GapL W g (S.extract 0 a ++ T ++ S.extract a S.size) (a + T.size)) := fun W hW => by
    refine ⟨by rw [ins_size S T a ha]; omega, by rw [ins_size S T a ha]; omega, ?_⟩
    rw [ins_size S T a ha, tx_ins S T a ha]
    obtain ⟨A, C, hS, hA⟩ := split_at (tx S) a (by rw [tx_len]; exact ha)
    have hl := tx_len S
    rw [hS, List.length_append] at hl
    have k := go_in A (tx T) C (by rw [tx_len]; omega)
    rw [hd, hS, ← hA, k, tx_len, hA] at hW
    rw [hS, ← hA, List.take_left, List.drop_left, hA, show a + T.size + (252 - (S.size + T.size)) = a + z by omega]
    exact hW
  have EW : Hid (((a + T.size : Nat) : Int) = (a : Int) + (T.size : Int)) := by show _ = _; omega
  have WR : Hid (IntKind.i64.wrap ((a : Int) + (T.size : Int)) = (a : Int) + (T.size : Int)) := by show _ = _; rw [IntKind.wrap_i64]; omega
  clear kc hv h ha hz kr hf hd hdl s1 hp1
  go_enter Try.func17, Try.ntmps17
  go_wp2_with (first | (go_at_call 39; refine (KC.out).mono ?_; rintro e w1 ⟨rfl, hb1⟩; have HB := hide hb1; have G1 := hide (HH.out.below hb1); clear hb1) | (go_at_call 21; refine (KR.out _ G1.out).mono ?_; rintro e w2 ⟨rfl, hb2⟩; have HB2 := hide hb2; have G2 := hide (G1.out.below hb2); clear hb2) | (go_at_call 40; refine (goTo_any G2.out a HA.out).mono ?_; rintro e w3 ⟨rfl, hg3, hk3⟩; have G3 := hide (HC _ hg3); have K3 := hide hk3; clear hg3 hk3))
  have c1 := G3.out.c1
  have c2 := G3.out.c2
  refine wp_region_early 17 (fun X => X.cell? ⟨g, 1, none⟩ = some (.int .i64 (a : Int))) (by kernel_rfl) c1 (fun hS => ?_)
  refine wpAnyE_take (i := 0) (v := (.pointer (some ⟨g, 0, none⟩))) rfl (by kernel_rfl) (by kernel_rfl) (by kernel_rfl) (by kernel_rfl) (fun _ _ _ h => h) (Or.inl ⟨by kernel_rfl, fun w' hw => by (go_simp)⟩) hS ?_
  refine wpAnyE_take (i := 1) (v := (.pointer (some ⟨g, 0, none⟩))) rfl (by kernel_rfl) (by kernel_rfl) (by kernel_rfl) (by kernel_rfl) (fun _ _ _ h => h) (Or.inl ⟨by kernel_rfl, fun w' hw => by (go_simp)⟩) hS ?_
  refine wpAnyE_take (i := 2) (v := (.pointer (some ⟨g, 1, none⟩))) rfl (by kernel_rfl) (by kernel_rfl) (by kernel_rfl) (by kernel_rfl) (fun _ _ _ h => h) (Or.inl ⟨by kernel_rfl, fun w' hw => by (go_simp)⟩) hS ?_
  refine wpAnyE_take (i := 3) (v := (.int .i64 (a : Int))) rfl (by kernel_rfl) (by kernel_rfl) (by kernel_rfl) (by kernel_rfl) (fun _ _ _ h => h) (Or.inl ⟨by kernel_rfl, fun w' hw => by (go_simp)⟩) hS ?_
  refine wpAnyE_take (i := 4) (v := (.pointer (some ⟨g, 0, none⟩))) rfl (by kernel_rfl) (by kernel_rfl) (by kernel_rfl) (by kernel_rfl) (fun _ _ _ h => h) (Or.inl ⟨by kernel_rfl, fun w' hw => by (go_simp)⟩) hS ?_
  refine wpAnyE_take (i := 5) (v := (.pointer (some ⟨g, 0, none⟩))) rfl (by kernel_rfl) (by kernel_rfl) (by kernel_rfl) (by kernel_rfl) (fun _ _ _ h => h) (Or.inl ⟨by kernel_rfl, fun w' hw => by (go_simp)⟩) hS ?_
  refine wpAnyE_take (i := 6) (v := (.pointer (some ⟨g, 3, none⟩))) rfl (by kernel_rfl) (by kernel_rfl) (by kernel_rfl) (by kernel_rfl) (fun _ _ _ h => h) (Or.inl ⟨by kernel_rfl, fun w' hw => by (go_simp)⟩) hS ?_
  refine wpAnyE_take (i := 7) (v := (.pointer (some ⟨g, 0, none⟩))) rfl (by kernel_rfl) (by kernel_rfl) (by kernel_rfl) (by kernel_rfl) (fun _ _ _ h => h) (Or.inl ⟨by kernel_rfl, fun w' hw => by (go_simp)⟩) hS ?_
  refine wpAnyE_take (i := 8) (v := (.pointer (some ⟨g, 0, none⟩))) rfl (by kernel_rfl) (by kernel_rfl) (by kernel_rfl) (by kernel_rfl) (fun _ _ _ h => h) (Or.inl ⟨by kernel_rfl, fun w' hw => by (go_simp)⟩) hS ?_
  refine wpAnyE_take (i := 9) (v := (.pointer (some ⟨g, 1, none⟩))) rfl (by kernel_rfl) (by kernel_rfl) (by kernel_rfl) (by kernel_rfl) (fun _ _ _ h => h) (Or.inl ⟨by kernel_rfl, fun w' hw => by (go_simp)⟩) hS ?_
  refine wpAnyE_take (i := 10) (v := (.int .i64 (a : Int))) rfl (by kernel_rfl) (by kernel_rfl) (by kernel_rfl) (by kernel_rfl) (fun _ _ _ h => h) (Or.inl ⟨by kernel_rfl, fun w' hw => by (go_simp)⟩) hS ?_
  refine wpAnyE_take (i := 11) (v := (.slice (some ⟨g, q1, none⟩) (252 - a) n1)) rfl (by kernel_rfl) (by kernel_rfl) (by kernel_rfl) (by kernel_rfl) (fun _ _ _ h => h) (Or.inl ⟨by kernel_rfl, fun w' hw => by (have s1 := S1.out; go_simp)⟩) hS ?_
  refine wpAnyE_take (i := 12) (v := (.string T)) rfl (by kernel_rfl) (by kernel_rfl) (by kernel_rfl) (by kernel_rfl) (fun _ _ _ h => h) (Or.inl ⟨by kernel_rfl, fun w' hw => by (go_simp)⟩) hS ?_
  refine wpAnyE_do (i := 13) (by kernel_rfl) rfl (by kernel_rfl) (fun K hK => ?_)
  refine gp_copyS (.tmp 34) (.tmp 35) rfl (some ⟨g, q1, none⟩) (252 - a) n1 T (by kernel_rfl) (by kernel_rfl) g a (a + z) a d G3.out HN.out HP1.out HL.out (fun w4 g4 k4 => ?_)
  have G4 := hide g4
  have K4 := hide k4
  have f1 := g4.frozen 1
  have c14 := g4.c1
  have G5 := hide (g4.set1 (a + T.size))
  rw [EW.out] at G5
  clear g4 k4
  refine hK.out _ _ (fun _ => c14) ?_
  clear hK K
  refine wpAnyE_take (i := 14) (v := (.int .i64 ((a : Int) + (T.size : Int)))) rfl (by kernel_rfl) (by kernel_rfl) (by kernel_rfl) (by kernel_rfl) (fun _ _ _ h => h) (Or.inl ⟨by kernel_rfl, fun w' hw => by (have wr := WR.out; go_simp)⟩) c14 ?_
  refine wpAnyE_do (i := 15) (by kernel_rfl) rfl (by kernel_rfl) (fun K hK => ?_)
  go_wp2_with (fail)
  refine hK.out _ _ (fun _ => c14) ?_
  clear hK K
  refine wpAnyE_take (i := 16) (v := (.pointer (some ⟨g, 1, none⟩))) rfl (by kernel_rfl) (by kernel_rfl) (by kernel_rfl) (by kernel_rfl) (fun _ _ _ h => h) (Or.inl ⟨by kernel_rfl, fun w' hw => by (go_simp)⟩) c14 ?_
  refine wpAnyE_last (by kernel_rfl) rfl (by kernel_rfl) (by kernel_rfl) (fun K hK => ?_)
  go_wp2_with (fail)
  refine hK.out _ _ ?_
  clear hK K
  try simp only [Act.put, List.getElem_toArray, List.getElem_cons_zero, List.getElem_cons_succ, List.setIfInBounds_toArray, List.set_cons_zero, List.set_cons_succ]
  go_wp2_with (fail)
  go_ret
  have hh := HE.out _ G5.out
  exact ⟨rfl, hh, ((Ke.of_below (bseq HB.out HB2.out)).trans K3.out).trans ((Ke.of_below ((Below.refl _ w3).drew)).trans (K4.out.trans (Ke.set _ _ _ _ rfl)))⟩
theorem delete_no (h : GapL w g S p) (a b : Int) (ha : inV S.size a b = false) : Calls Try.prog 18 #[.pointer (some ⟨g, 0, none⟩), .int .i64 a, .int .i64 b] w fun e w' => e = .returned (.int .i64 6) ∧ Below w.heap.size w w' := by
  have hv : ckV S.size a b = 6 := by unfold ckV; rw [ha]; rfl
  have kc := check_b h a b
  rw [hv] at kc
  have KC := hide kc
  clear kc hv h ha
  go_enter Try.func18, Try.ntmps18
  go_wp2_with (first | (go_at_call 39; refine (KC.out).mono ?_; rintro e w1 ⟨rfl, hb1⟩; have HB := hide hb1; clear hb1))
  go_ret
  exact ⟨rfl, HB.out⟩
set_option maxRecDepth 100000 in
set_option maxHeartbeats 1000000 in
theorem delete_yes (h : GapL w g S p) (a b : Nat) (hab : a ≤ b) (hb : b ≤ S.size) : Calls Try.prog 18 #[.pointer (some ⟨g, 0, none⟩), .int .i64 (a : Int), .int .i64 (b : Int)] w fun e w' => e = .returned (.int .i64 0) ∧ GapL w' g (S.extract 0 a ++ S.extract b S.size) a ∧ Ke (fun k => k = g) w w' := by
  have hs := h.2.1
  have hv : ckV S.size a b = 0 := by unfold ckV; rw [if_pos ((in_iff _ _ _).2 ⟨by omega, by omega, by omega⟩)]
  have kc := check_b h a b
  rw [hv] at kc
  have KC := hide kc
  have HH := hide h
  have HA : Hid (a ≤ S.size) := Nat.le_trans hab hb
  obtain ⟨z, hz⟩ : ∃ z, z = 252 - S.size := ⟨_, rfl⟩
  obtain ⟨to, hto⟩ : ∃ to, to = a + z := ⟨_, rfl⟩
  obtain ⟨t2, ht2⟩ : ∃ t2, t2 = to + (b - a) := ⟨_, rfl⟩
  obtain ⟨d, hd⟩ : ∃ d, d = gD (tx S) a := ⟨_, rfl⟩
  have hdl : d.length = 252 := by rw [hd]; exact gD_len _ _ (by rw [tx_len]; omega) (by rw [tx_len]; omega)
  have HC : ∀ W, GapL W g S a → GapC W g a to d := fun W hW => by rw [hd, hto, hz]; exact hW.2.2
  have haI : (a : Int) ≤ 252 := by omega
  have hbI : (b : Int) ≤ 252 := by omega
  have hbaI : (a : Int) ≤ (b : Int) := by omega
  have htI : (to : Int) ≤ 252 := by omega
  have ET : Hid ((to : Int) + ((b : Int) - (a : Int)) = (t2 : Int)) := by show _ = _; omega
  obtain ⟨q1, n1, s1, hp1⟩ := cut_two g a t2 (by omega) (by omega)
  have S1 := hide s1
  have HP1 : Hid (0 < t2 - a → (some ⟨g, q1, none⟩ : Option Addr) = some ⟨g, 3 + a, none⟩) := fun h0 => by rw [hp1 (by omega)]
  have HL : Hid (a + (t2 - a) ≤ d.length) := by show _ ≤ _; omega
  have HE : Hid (∀ W, GapC W g a t2 (splice d a (List.replicate (t2 - a) 0)) → GapL W g (S.extract 0 a ++ S.extract b S.size) a) := fun W hW => by
    refine ⟨by rw [del_size S a b hab hb]; omega, by rw [del_size S a b hab hb]; omega, ?_⟩
    rw [del_size S a b hab hb, tx_del S a b hb]
    obtain ⟨A, B, C, hS, hA, hB⟩ := split_two (tx S) a b hab (by rw [tx_len]; exact hb)
    have hl := tx_len S
    rw [hS, List.length_append, List.length_append] at hl
    have k := go_out A B C (by omega)
    rw [hd, hS, ← hA, show t2 - A.length = 252 - (A.length + (B.length + C.length)) + B.length by omega, k] at hW
    rw [hS, ← hA, List.take_left, ← hB, List.drop_length_add_append, List.drop_left, show A.length + (252 - (S.size - (A.length + B.length - A.length))) = t2 by omega]
    exact hW
  clear kc hv h hz hto ht2 hd hdl s1 hp1 hab hb hs
  go_enter Try.func18, Try.ntmps18
  go_wp2_with (first | (go_at_call 39; refine (KC.out).mono ?_; rintro e w1 ⟨rfl, hb1⟩; have HB := hide hb1; have G1 := hide (HH.out.below hb1); clear hb1) | (go_at_call 40; refine (goTo_any G1.out a HA.out).mono ?_; rintro e w3 ⟨rfl, hg3, hk3⟩; have G3 := hide (HC _ hg3); have K3 := hide hk3; clear hg3 hk3; have c1 := G3.out.c1; have c2 := G3.out.c2; have f2 := G3.out.frozen 2))
  have G4 := hide (G3.out.set2 t2)
  rw [← ET.out] at G4
  have c1 := G4.out.c1
  have c2 := G4.out.c2
  have kk : Ke (fun k => k = g) w3 (w3.setCell ⟨g, 2, none⟩ (.int .i64 ((to : Int) + ((b : Int) - (a : Int))))) := Ke.set w3 g 2 _ rfl
  have KK := hide kk
  clear kk
  generalize w3.setCell ⟨g, 2, none⟩ (.int .i64 ((to : Int) + ((b : Int) - (a : Int)))) = w4 at *
  refine wp_region_held_drew (S := fun X => X.cell? ⟨g, 1, none⟩ = some (.int .i64 (a : Int)) ∧ X.cell? ⟨g, 2, none⟩ = some (.int .i64 (t2 : Int))) (by kernel_rfl) ⟨c1, c2⟩ (fun hS => ?_)
  refine wpAnyH_take (i := 0) (v := (.pointer (some ⟨g, 0, none⟩))) rfl (by kernel_rfl) (by kernel_rfl) (by kernel_rfl) (fun _ _ _ h => h) (Or.inl ⟨by kernel_rfl, fun w' hw => by (go_simp)⟩) hS ?_
  refine wpAnyH_take (i := 1) (v := (.pointer (some ⟨g, 0, none⟩))) rfl (by kernel_rfl) (by kernel_rfl) (by kernel_rfl) (fun _ _ _ h => h) (Or.inl ⟨by kernel_rfl, fun w' hw => by (go_simp)⟩) hS ?_
  refine wpAnyH_take (i := 2) (v := (.pointer (some ⟨g, 3, none⟩))) rfl (by kernel_rfl) (by kernel_rfl) (by kernel_rfl) (fun _ _ _ h => h) (Or.inl ⟨by kernel_rfl, fun w' hw => by (go_simp)⟩) hS ?_
  refine wpAnyH_take (i := 3) (v := (.pointer (some ⟨g, 0, none⟩))) rfl (by kernel_rfl) (by kernel_rfl) (by kernel_rfl) (fun _ _ _ h => h) (Or.inl ⟨by kernel_rfl, fun w' hw => by (go_simp)⟩) hS ?_
  refine wpAnyH_take (i := 4) (v := (.pointer (some ⟨g, 0, none⟩))) rfl (by kernel_rfl) (by kernel_rfl) (by kernel_rfl) (fun _ _ _ h => h) (Or.inl ⟨by kernel_rfl, fun w' hw => by (go_simp)⟩) hS ?_
  refine wpAnyH_take (i := 5) (v := (.pointer (some ⟨g, 1, none⟩))) rfl (by kernel_rfl) (by kernel_rfl) (by kernel_rfl) (fun _ _ _ h => h) (Or.inl ⟨by kernel_rfl, fun w' hw => by (go_simp)⟩) hS ?_
  refine wpAnyH_take (i := 6) (v := (.int .i64 (a : Int))) rfl (by kernel_rfl) (by kernel_rfl) (by kernel_rfl) (fun _ _ _ h => h) (Or.inl ⟨by kernel_rfl, fun w' hw => by (go_simp)⟩) hS ?_
  refine wpAnyH_take (i := 7) (v := (.pointer (some ⟨g, 0, none⟩))) rfl (by kernel_rfl) (by kernel_rfl) (by kernel_rfl) (fun _ _ _ h => h) (Or.inl ⟨by kernel_rfl, fun w' hw => by (go_simp)⟩) hS ?_
  refine wpAnyH_take (i := 8) (v := (.pointer (some ⟨g, 0, none⟩))) rfl (by kernel_rfl) (by kernel_rfl) (by kernel_rfl) (fun _ _ _ h => h) (Or.inl ⟨by kernel_rfl, fun w' hw => by (go_simp)⟩) hS ?_
  refine wpAnyH_take (i := 9) (v := (.pointer (some ⟨g, 2, none⟩))) rfl (by kernel_rfl) (by kernel_rfl) (by kernel_rfl) (fun _ _ _ h => h) (Or.inl ⟨by kernel_rfl, fun w' hw => by (go_simp)⟩) hS ?_
  refine wpAnyH_take (i := 10) (v := (.int .i64 (t2 : Int))) rfl (by kernel_rfl) (by kernel_rfl) (by kernel_rfl) (fun _ _ _ h => h) (Or.inl ⟨by kernel_rfl, fun w' hw => by (go_simp)⟩) hS ?_
  refine wpAnyH_take (i := 11) (v := (.slice (some ⟨g, q1, none⟩) (t2 - a) n1)) rfl (by kernel_rfl) (by kernel_rfl) (by kernel_rfl) (fun _ _ _ h => h) (Or.inl ⟨by kernel_rfl, fun w' hw => by (have s1 := S1.out; go_simp)⟩) hS ?_
  refine gp_op (i := 12) (by kernel_rfl) rfl (by kernel_rfl) (by kernel_rfl) (gp_clear (.tmp 39) rfl (some ⟨g, q1, none⟩) (t2 - a) n1 (by kernel_rfl) g a t2 a d G4.out HP1.out HL.out (fun w5 g5 k5 => ⟨⟨g5.c1, g5.c2⟩, ?_⟩))
  have G5 := hide g5
  have K5 := hide k5
  clear g5 k5
  simp only [Act.put, List.getElem_toArray, List.getElem_cons_zero, List.getElem_cons_succ, List.setIfInBounds_toArray, List.set_cons_zero, List.set_cons_succ]
  go_wp2_with (fail)
  go_ret
  exact ⟨rfl, HE.out _ G5.out, (((Ke.of_below HB.out).trans K3.out).trans KK.out).trans ((Ke.of_below ((Below.refl _ w4).drew)).trans K5.out)⟩
theorem slice_no (h : GapL w g S p) (a b : Int) (ha : inV S.size a b = false) : Calls Try.prog 31 #[.pointer (some ⟨g, 0, none⟩), .int .i64 a, .int .i64 b] w fun e w' => e = .returned (.tuple #[.string ⟨#[]⟩, .int .i64 6]) ∧ Below w.heap.size w w' := by
  have hv : ckV S.size a b = 6 := by unfold ckV; rw [ha]; rfl
  have kc := check_b h a b
  rw [hv] at kc
  have KC := hide kc
  clear kc hv h ha
  go_enter Try.func31, Try.ntmps31
  go_wp2_with (first | (go_at_call 39; refine (KC.out).mono ?_; rintro e w1 ⟨rfl, hb1⟩; have HB := hide hb1; clear hb1))
  go_ret2
  exact ⟨rfl, HB.out⟩
theorem slice_yes (h : GapL w g S p) (a b : Nat) (hab : a ≤ b) (hb : b ≤ S.size) : Calls Try.prog 31 #[.pointer (some ⟨g, 0, none⟩), .int .i64 (a : Int), .int .i64 (b : Int)] w fun e w' => e = .returned (.tuple #[.string (S.extract a b), .int .i64 0]) ∧ Below w.heap.size w w' := by
  have hs := h.2.1
  have hv : ckV S.size a b = 0 := by unfold ckV; rw [if_pos ((in_iff _ _ _).2 ⟨by omega, by omega, by omega⟩)]
  have kc := check_b h a b
  rw [hv] at kc
  have KC := hide kc
  have HH := hide h
  have habI : (a : Int) ≤ (b : Int) := by omega
  have hbI : (b : Int) ≤ (S.size : Int) := by omega
  clear kc hv h
  go_enter Try.func31, Try.ntmps31
  go_wp2_with (first | (go_at_call 39; refine (KC.out).mono ?_; rintro e w1 ⟨rfl, hb1⟩; have HB := hide hb1; have G1 := hide (HH.out.below hb1); clear hb1) | (go_at_call 19; refine (text_b G1.out).mono ?_; rintro e w2 ⟨rfl, hb2⟩; have HB2 := hide hb2; clear hb2))
  go_ret2
  exact ⟨rfl, bseq HB.out HB2.out⟩
end
end Go.Proofs.Ytheefdplbmneeaa
