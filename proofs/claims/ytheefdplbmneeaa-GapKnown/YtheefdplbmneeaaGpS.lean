/- The document's bytes of a gap's block. -/
import Derived.Test.YtheefdplbmneeaaGpR
import Derived.Test.YtheefdplbmneeaaRefB
namespace Go.Proofs.Ytheefdplbmneeaa
open Go.RowKit
set_option linter.unusedVariables false
set_option linter.unusedSimpArgs false

theorem tx_get {T : ByteArray} {k x : Nat} (h : (tx T)[k]? = some x) : ∃ hk : k < T.data.toList.length, (T.data.toList[k]).toNat = x := by
  unfold tx at h
  rw [List.getElem?_map] at h
  obtain ⟨c, hc, rfl⟩ := Option.map_eq_some_iff.1 h
  obtain ⟨hk, e⟩ := List.getElem?_eq_some_iff.1 hc
  exact ⟨hk, by rw [e]⟩
set_option maxHeartbeats 1000000 in
theorem rtext_any (T : ByteArray) (w : World) (hs : T.size ≤ 1000) : Calls Try.prog 45 #[.string T] w fun e w' => ∃ v, e = .returned v ∧ w'.ownsRow w.heap.size 5 1 v T.size ((tx T).map B8) ∧ Below w.heap.size w w' := by
  obtain ⟨i0, hi, hz0, hz1, hz2⟩ := info_parts Try.info5
  obtain ⟨n, hn⟩ : ∃ n, n = T.size := ⟨_, rfl⟩
  have hl := tx_len T
  have HN := hide hn.symm
  have hnI : (T.size : Int) ≤ 1000 := by omega
  have HL := hide hl
  clear hl hn
  go_enter Try.func45, Try.ntmps45
  go_wp2
  go_loopw [3, 4] (fun u i wr => ∃ (k : Nat), k ≤ T.size ∧ i = .int .i64 k ∧ wr.ownsRow w.heap.size 5 1 u k (((tx T).take k).map B8) ∧ Below w.heap.size w wr)
    (fun _ i _ => T.size - (intOf i).toNat)
  case atStart => exact ⟨0, by omega, rfl, World.ownsRow_nil _ _ _ _, Below.refl _ _⟩
  case round =>
    obtain ⟨k, hk, rfl, hown, hB⟩ := hrel
    have HO := hide hown
    have HB := hide hB
    have hsz := hB.size
    clear hown hB
    by_cases hlt : k < T.size
    · obtain ⟨x, hx⟩ : ∃ x, (tx T)[k]? = some x := ⟨_, List.getElem?_eq_getElem (by rw [HL.out]; exact hlt)⟩
      have ix : ∀ W, (Instr.index 9 (.string T) (.int .i64 (k : Int))).run Try.prog W = .ok (.int .u8 (x : Int)) W := fun W => by
        obtain ⟨hk2, e⟩ := tx_get hx
        have h3 : (0 : Int) ≤ (k : Int) ∧ (k : Int) < (T.size : Int) := by omega
        have h4 : T[k]'(by simpa using hlt) = T.data.toList[k] := by simp [ByteArray.getElem_eq_getElem_data]
        simp [Instr.index, Sem.run_bind, run_underlying Try.underlying9, asIntOf, h3, hlt]
        rw [← e, ← h4]
      have hltI : (k : Int) < (T.size : Int) := by omega
      have HX := hide hx
      clear hx
      go_wp2_with (at_builtin; refine wpList_append_own _ rfl _ _ 22 rfl w.heap.size 5 i0 (.int .u8 0) 1 1 Try.underlying22 hi hz0 hz1 hz2 rfl (by omega) _ _ _ rfl (HO.out.alloc _) ⟨wr.heap.size, 0, none⟩ 1 1 [.int .u8 (x : Int)] rfl rfl (cell_one_new _ _ _) (by simp [Value.oneCell']) (by unfold maxLen; omega) (by omega) (by simp; omega) ?_; intro v3 w3 hown3 hgrow3 _)
      have HO3 := hide hown3
      have HB3 : Hid (Below w.heap.size w w3) := (HB.out.alloc (by omega) _).grown hgrow3 (by simp; omega) (fun j e => (HO.out.lt j e).1)
      clear hown3 hgrow3
      go_wp2
      go_roundw
      case rel =>
        refine ⟨k + 1, by omega, by go_num, ?_, HB3.out⟩
        rw [List.take_add_one, HX.out]
        simpa [B8] using HO3.out
      case measure => simp [intOf]; omega
    · obtain rfl : k = T.size := by omega
      go_wp2
      go_ret
      have h := HO.out
      rw [List.take_of_length_le (by rw [HL.out]; exact Nat.le_refl _)] at h
      exact ⟨_, rfl, h, HB.out⟩
set_option maxHeartbeats 400000 in
theorem rtwo_any (a b : Option Addr) (ca cb : Nat) (xs ys : List Nat) (w : World) (hx : Sl w a xs) (hy : Sl w b ys) (h1 : xs.length ≤ 1000000) (h2 : ys.length ≤ 1000000) : Calls Try.prog 8 #[.slice a xs.length ca, .slice b ys.length cb] w fun e w' => ∃ v, e = .returned v ∧ w'.ownsRow w.heap.size 5 1 v (xs.length + ys.length) ((xs ++ ys).map B8) ∧ Below w.heap.size w w' := by
  have hA : Below w.heap.size w (w.alloc (.cells #[.slice a xs.length ca, .slice b ys.length cb] 22)) := (Below.refl _ _).alloc (Nat.le_refl _) _
  have hr : SlR (w.alloc (.cells #[.slice a xs.length ca, .slice b ys.length cb] 22)) (some ⟨w.heap.size, 0, none⟩) [xs, ys] := by
    refine .inr ⟨_, _, rfl, by simp, fun i r hx' => ?_⟩
    match i, hx' with
    | 0, hx' => simp at hx'; subst hx'; exact ⟨a, ca, by simp, hx.below hA, by unfold maxLen; omega⟩
    | 1, hx' => simp at hx'; subst hx'; exact ⟨b, cb, by simp, hy.below hA, by unfold maxLen; omega⟩
    | n + 2, hx' => simp at hx'
  have e : [xs, ys].flatten = xs ++ ys := by simp
  have k := join_any (some ⟨w.heap.size, 0, none⟩) 2 [xs, ys] _ hr (by simp) (by rw [e, List.length_append]; omega)
  rw [e, List.length_append] at k
  have KJ := hide k
  have HA := hide hA
  clear k hr hA hx hy
  go_enter Try.func8, Try.ntmps8
  go_wp2_with (go_at_call 30; refine (KJ.out).mono ?_; rintro e w2 ⟨v, rfl, ho, hb⟩; have HO := hide ho; have HB := hide hb; clear ho hb)
  go_ret
  obtain ⟨hl, h⟩ := HO.out
  refine ⟨_, rfl, ⟨hl, ?_⟩, bseq HA.out HB.out⟩
  rcases h with h | ⟨g, cp, cur, e1, hg, hc⟩
  · exact .inl h
  · exact .inr ⟨g, cp, cur, e1, by simp at hg; omega, hc⟩
theorem two_head {W : World} {a2 a5 : Option Addr} {k2 k5 : Nat} {hd : List Nat} (A : ByteArray) (h1 : Sl W a2 hd) (h2 : Sl W a5 (tx A)) (hA : A.size ≤ 1000) (hl : hd.length = 4 := by assumption) : Calls Try.prog 8 #[.slice a2 4 k2, .slice a5 A.size k5] W fun e w' => ∃ v, e = .returned v ∧ w'.ownsRow W.heap.size 5 1 v (4 + A.size) ((hd ++ tx A).map B8) ∧ Below W.heap.size W w' := by
  have k := rtwo_any a2 a5 k2 k5 hd (tx A) W h1 h2 (by omega) (by rw [tx_len]; omega)
  rw [hl, tx_len] at k
  exact k
theorem own_base {W : World} {base base' : Nat} {e : TypeId} {size : Nat} {v : Value} {k : Nat} {xs : List Value} (h : W.ownsRow base e size v k xs) (hb : base' ≤ base) : W.ownsRow base' e size v k xs := by
  obtain ⟨hl, h | ⟨g, cp, cur, e1, hg, hc⟩⟩ := h
  · exact ⟨hl, .inl h⟩
  · exact ⟨hl, .inr ⟨g, cp, cur, e1, Nat.le_trans hb hg, hc⟩⟩
theorem two_nums {W : World} {a b : Option Addr} {k l p to : Nat} (h1 : Sl W a (leB 2 p)) (h2 : Sl W b (leB 2 to)) : Calls Try.prog 8 #[.slice a 2 k, .slice b 2 l] W fun e w' => ∃ a2 k2, e = .returned (.slice a2 4 k2) ∧ Sl w' a2 (leB 2 p ++ leB 2 to) ∧ Below W.heap.size W w' := by
  have k := rtwo_any a b k l (leB 2 p) (leB 2 to) W h1 h2 (by rw [leB_length]; omega) (by rw [leB_length]; omega)
  rw [leB_length, leB_length] at k
  refine k.mono ?_
  rintro e w' ⟨v, rfl, ho, hb⟩
  obtain ⟨a2, k2, rfl, hs⟩ := sl_of_owns (bs := leB 2 p ++ leB 2 to) (by rw [List.length_append, leB_length, leB_length]; exact ho) (fun x hx => (List.mem_append.1 hx).elim (leB_lt 2 p x) (leB_lt 2 to x))
  rw [List.length_append, leB_length, leB_length]
  exact ⟨a2, k2, rfl, hs, hb⟩
section
variable {w : World} {r p : Nat} {S : ByteArray}
set_option maxRecDepth 100000 in
set_option maxHeartbeats 2000000 in
theorem rblock_any (h : RefG w r S p) (hp : p ≤ S.size) (hs : S.size ≤ 252) : Calls Try.prog 37 #[.pointer (some ⟨r, 0, none⟩)] w fun e w' => ∃ a c, e = .returned (.slice a 256 c) ∧ Sl w' a (blk S p) ∧ Below w.heap.size w w' := by
  obtain ⟨i0, hi, hz0, hz1, hz2⟩ := info_parts Try.info5
  obtain ⟨z, hz⟩ : ∃ z, z = 252 - S.size := ⟨_, rfl⟩
  obtain ⟨to, hto⟩ : ∃ to, to = p + z := ⟨_, rfl⟩
  obtain ⟨A, hA⟩ : ∃ A, A = S.extract 0 p := ⟨_, rfl⟩
  obtain ⟨C, hC⟩ : ∃ C, C = S.extract p S.size := ⟨_, rfl⟩
  have SA : Hid (∀ W, (Instr.slice 9 (.string S) none (some (.int .i64 (p : Int))) none).run Try.prog W = .ok (.string A) W) := fun W => by rw [hA]; exact cut_hd S p hp W
  have SC : Hid (∀ W, (Instr.slice 9 (.string S) (some (.int .i64 (p : Int))) none none).run Try.prog W = .ok (.string C) W) := fun W => by rw [hC]; exact cut_tl S p hp W
  have htA : tx A = (tx S).take p := by rw [hA, tx_cut, List.drop_zero, Nat.sub_zero]
  have htC : tx C = (tx S).drop p := by rw [hC, tx_cut]; exact List.take_of_length_le (by rw [List.length_drop, tx_len]; exact Nat.le_refl _)
  have hAs : A.size = p := by rw [← tx_len, htA, List.length_take, tx_len]; omega
  have hCs : C.size = S.size - p := by rw [← tx_len, htC, List.length_drop, tx_len]
  obtain ⟨hd, hhd⟩ : ∃ hd, hd = leB 2 p ++ leB 2 to := ⟨_, rfl⟩
  have hl : hd.length = 4 := by rw [hhd]; simp [leB_length]
  have eB : ((hd ++ tx A) ++ List.replicate z 0) ++ tx C = blk S p := by
    rw [hhd, htA, htC, hto, hz]
    unfold blk blkC gD
    rw [tx_len]
    simp
  have k1 : ∀ W, Calls Try.prog 44 #[.int .u64 (p : Int), .int .i64 2] W fun e w' => ∃ u, e = .returned u ∧ w'.ownsRow W.heap.size 5 1 u 2 ((leB 2 p).map B8) ∧ Below W.heap.size W w' := fun W => little_any p 2 W (by omega) (by omega)
  have k2 : ∀ W, Calls Try.prog 44 #[.int .u64 (to : Int), .int .i64 2] W fun e w' => ∃ u, e = .returned u ∧ w'.ownsRow W.heap.size 5 1 u 2 ((leB 2 to).map B8) ∧ Below W.heap.size W w' := fun W => little_any to 2 W (by omega) (by omega)
  have c0 := h.c0
  have c1 := h.c1
  have cf : ∀ X, Below w.heap.size w X → X.cell? ⟨r, 0, none⟩ = some (.string S) ∧ X.cell? ⟨r, 1, none⟩ = some (.int .i64 (p : Int)) := fun X hX => ⟨(h.below hX).c0, (h.below hX).c1⟩
  have CF := hide cf
  have hsI : (S.size : Int) ≤ 252 := by omega
  have hpI : (p : Int) ≤ (S.size : Int) := by omega
  have eto : (252 : Int) - ((S.size : Int) - (p : Int)) = (to : Int) := by omega
  have htoI : (to : Int) ≤ 252 := by omega
  have ETO := hide eto
  have KA := hide k1
  have KB := hide k2
  have AS : Hid (A.size ≤ 1000) := show A.size ≤ 1000 by omega
  have CZ : Hid (C.size ≤ 1000) := show C.size ≤ 1000 by omega
  have wp_ : IntKind.u64.wrap (p : Int) = (p : Int) := by rw [IntKind.wrap_u64]; omega
  have wt_ : IntKind.u64.wrap (to : Int) = (to : Int) := by rw [IntKind.wrap_u64]; omega
  have EB := hide eB
  have HBL := hide (blk_len hp hs)
  have HAS := hide hAs
  have HCS := hide hCs
  have HZ := hide hz
  have HTO := hide hto
  have HHD := hide hhd
  clear h k1 k2 hA hC htA htC eB hz hto cf hAs hCs hp hs eto
  go_enter Try.func37, Try.ntmps37
  go_wp2_with (fail)
  go_quiet (fail)
  rw [ETO.out]
  have HB0 := hide (below_drewN (Below.refl w.heap.size w) nq)
  have q0 := (CF.out _ HB0.out).1
  have q1 := (CF.out _ HB0.out).2
  generalize w.drewN nq = W1 at *
  go_upto_region 3 with (first
    | (go_at_call 44; refine (KA.out _).mono ?_; rintro e W2 ⟨u2, rfl, ho2, hb2⟩; obtain ⟨a1, k1, rfl, hs2⟩ := sl_of_owns (bs := leB 2 p) (by rw [leB_length]; exact ho2) (leB_lt 2 p); rw [leB_length]; have S2 := hide hs2; have B2 := hide (bseq HB0.out hb2); clear ho2 hb2 hs2 KA)
    | (go_at_call 44; refine (KB.out _).mono ?_; rintro e W3 ⟨u3, rfl, ho3, hb3⟩; obtain ⟨a3, k3, rfl, hs3⟩ := sl_of_owns (bs := leB 2 to) (by rw [leB_length]; exact ho3) (leB_lt 2 to); rw [leB_length]; have S3 := hide hs3; have T3 := hide (S2.out.below hb3); have B3 := hide (bseq B2.out hb3); clear ho3 hb3 hs3 KB)
    | (go_at_call 8; refine (two_nums T3.out S3.out).mono ?_; rintro e W4 ⟨a2, k2, rfl, hs4, hb4⟩; have R4 := hide hs4; have B4 := hide (bseq B3.out hb4); clear hs4 hb4))
  have R4 : Hid (Sl W4 a2 hd) := by rw [HHD.out]; exact R4.out
  have CS := hide (CF.out _ B4.out.drew)
  clear q0 q1
  refine wp_region_held_drew (S := fun X => X.cell? ⟨r, 0, none⟩ = some (.string S) ∧ X.cell? ⟨r, 1, none⟩ = some (.int .i64 (p : Int))) (by kernel_rfl) CS.out (fun hS => ?_)
  refine wpAnyH_take (i := 0) (v := (.slice a2 4 k2)) rfl (by kernel_rfl) (by kernel_rfl) (by kernel_rfl) (fun _ _ _ h => h) (Or.inl ⟨by kernel_rfl, fun w' hw => by (go_simp)⟩) hS ?_
  refine wpAnyH_take (i := 1) (v := (.pointer (some ⟨r, 0, none⟩))) rfl (by kernel_rfl) (by kernel_rfl) (by kernel_rfl) (fun _ _ _ h => h) (Or.inl ⟨by kernel_rfl, fun w' hw => by (go_simp)⟩) hS ?_
  refine wpAnyH_take (i := 2) (v := (.pointer (some ⟨r, 0, none⟩))) rfl (by kernel_rfl) (by kernel_rfl) (by kernel_rfl) (fun _ _ _ h => h) (Or.inl ⟨by kernel_rfl, fun w' hw => by (go_simp)⟩) hS ?_
  refine wpAnyH_take (i := 3) (v := (.pointer (some ⟨r, 0, none⟩))) rfl (by kernel_rfl) (by kernel_rfl) (by kernel_rfl) (fun _ _ _ h => h) (Or.inl ⟨by kernel_rfl, fun w' hw => by (go_simp)⟩) hS ?_
  refine wpAnyH_take (i := 4) (v := (.string S)) rfl (by kernel_rfl) (by kernel_rfl) (by kernel_rfl) (fun _ _ _ h => h) (Or.inl ⟨by kernel_rfl, fun w' hw => by (go_simp)⟩) hS ?_
  refine wpAnyH_take (i := 5) (v := (.pointer (some ⟨r, 0, none⟩))) rfl (by kernel_rfl) (by kernel_rfl) (by kernel_rfl) (fun _ _ _ h => h) (Or.inl ⟨by kernel_rfl, fun w' hw => by (go_simp)⟩) hS ?_
  refine wpAnyH_take (i := 6) (v := (.pointer (some ⟨r, 0, none⟩))) rfl (by kernel_rfl) (by kernel_rfl) (by kernel_rfl) (fun _ _ _ h => h) (Or.inl ⟨by kernel_rfl, fun w' hw => by (go_simp)⟩) hS ?_
  refine wpAnyH_take (i := 7) (v := (.pointer (some ⟨r, 1, none⟩))) rfl (by kernel_rfl) (by kernel_rfl) (by kernel_rfl) (fun _ _ _ h => h) (Or.inl ⟨by kernel_rfl, fun w' hw => by (go_simp)⟩) hS ?_
  refine wpAnyH_take (i := 8) (v := (.int .i64 (p : Int))) rfl (by kernel_rfl) (by kernel_rfl) (by kernel_rfl) (fun _ _ _ h => h) (Or.inl ⟨by kernel_rfl, fun w' hw => by (go_simp)⟩) hS ?_
  refine wpAnyH_take (i := 9) (v := (.string A)) rfl (by kernel_rfl) (by kernel_rfl) (by kernel_rfl) (fun _ _ _ h => h) (Or.inl ⟨by kernel_rfl, fun w' hw => by (have s1 := SA.out; go_simp)⟩) hS ?_
  refine gp_go (i := 10) (by kernel_rfl) rfl (by kernel_rfl) (fun K hK => ?_)
  go_wp2_with (go_at_call 45; refine (rtext_any A _ AS.out).mono ?_; rintro e W5 ⟨v5, rfl, ho5, hb5⟩; obtain ⟨a5, k5, rfl, hs5⟩ := sl_of_owns (bs := tx A) (by rw [tx_len]; exact ho5) (tx_lt A); rw [tx_len]; have S5 := hide hs5; have B5 := hide (bseq B4.out.drew hb5); have T5 := hide (R4.out.below (bseq ((Below.refl _ W4).drew) hb5)); clear ho5 hb5 hs5)
  have hS1 := CF.out _ B5.out
  refine hK.out _ _ hS1 ?_
  clear hK K
  refine gp_go (i := 11) (by kernel_rfl) rfl (by kernel_rfl) (fun K hK => ?_)
  go_wp2_with (go_at_call 8; refine (two_head A T5.out S5.out AS.out).mono ?_; rintro e W6 ⟨v6, rfl, ho6, hb6⟩; have O6 := hide ho6; have B6 := hide (bseq B5.out hb6); clear hb6 ho6)
  have hS2 := CF.out _ B6.out
  refine hK.out _ _ hS2 ?_
  clear hK K
  refine gp_go (i := 12) (by kernel_rfl) rfl (by kernel_rfl) (fun K hK => ?_)
  go_wp2_with (fail)
  refine hK.out _ _ hS2 ?_
  clear hK K
  refine wpAnyH_done (by kernel_rfl) ?_ _
  try simp only [Act.put, List.getElem_toArray, List.getElem_cons_zero, List.getElem_cons_succ, List.setIfInBounds_toArray, List.set_cons_zero, List.set_cons_succ]
  have hpI2 : (p : Int) ≤ 252 := by omega
  have BW6 : Hid (w.heap.size ≤ W5.heap.size) := B5.out.size
  obtain ⟨q0, q1⟩ := hS2
  have O7 := hide (own_base O6.out BW6.out)
  rw [HAS.out] at O7
  clear hS hS1 CS O6
  go_wp2_with (fail)
  go_loopw [4, 5] (fun v i wr => ∃ k : Nat, k ≤ z ∧ i = .int .i64 ((p : Int) + (k : Int)) ∧ wr.ownsRow w.heap.size 5 1 v (4 + p + k) (((hd ++ tx A) ++ List.replicate k 0).map B8) ∧ Below w.heap.size w wr) (fun _ i _ => (504 - intOf i).toNat)
  case atStart => exact ⟨0, Nat.zero_le _, by simp, by simpa using O7.out, B6.out⟩
  case round =>
    obtain ⟨k, hk, rfl, hown, hB⟩ := hrel
    have HO := hide hown
    have HB := hide hB
    have hsz := hB.size
    clear hown hB
    have htz : (to : Int) = (p : Int) + (z : Int) := by have := HTO.out; omega
    have hzI : (z : Int) ≤ 252 := by have := HZ.out; omega
    by_cases hlt : k < z
    · have hltI : (p : Int) + (k : Int) < (to : Int) := by omega
      have hkI : (k : Int) ≤ 252 := by omega
      clear htz
      go_wp2_with (at_builtin; refine wpList_append_own _ rfl _ _ 22 rfl w.heap.size 5 i0 (.int .u8 0) 1 1 Try.underlying22 hi hz0 hz1 hz2 rfl (by omega) _ _ _ rfl (HO.out.alloc _) ⟨wr.heap.size, 0, none⟩ 1 1 [.int .u8 0] rfl rfl (cell_one_new _ _ _) (by simp [Value.oneCell']) (by unfold maxLen; omega) (by omega) (by simp; omega) ?_; intro v3 w3 hown3 hgrow3 _)
      have HO3 := hide hown3
      have HB3 : Hid (Below w.heap.size w w3) := (HB.out.alloc (by omega) _).grown hgrow3 (by simp; omega) (fun j e => (HO.out.lt j e).1)
      clear hown3 hgrow3
      go_wp2
      go_roundw
      case rel =>
        refine ⟨k + 1, by omega, int_congr' (by omega), ?_, HB3.out⟩
        have h := HO3.out
        rw [List.replicate_succ', ← List.append_assoc, List.map_append]
        simpa [B8, Nat.add_assoc] using h
      case measure => simp [intOf]; omega
    · obtain rfl : k = z := by omega
      have hltI : ¬ ((p : Int) + (k : Int) < (to : Int)) := by omega
      have hrl : ((hd ++ tx A) ++ List.replicate k 0).length = 4 + p + k := by
        rw [List.length_append, List.length_append, List.length_replicate, tx_len, hl, HAS.out]
      obtain ⟨a7, k7, rfl, hs7⟩ := sl_of_owns (bs := (hd ++ tx A) ++ List.replicate k 0) (by rw [hrl]; exact HO.out) (fun x hx => by
        rcases List.mem_append.1 hx with h | h
        · rcases List.mem_append.1 h with h | h
          · rw [HHD.out] at h
            exact (List.mem_append.1 h).elim (leB_lt 2 p x) (leB_lt 2 to x)
          · exact tx_lt A x h
        · have := List.eq_of_mem_replicate h; omega)
      rw [hrl]
      have R7 := hide hs7
      have B7 := HB
      obtain ⟨m, hm⟩ : ∃ m, m = 4 + p + k := ⟨_, rfl⟩
      rw [← hm]
      have tl : ∀ W a a' c c', Sl W a ((hd ++ tx A) ++ List.replicate k 0) → Sl W a' (tx C) → Calls Try.prog 8 #[.slice a m c, .slice a' C.size c'] W fun e w' => ∃ v, e = .returned v ∧ w'.ownsRow W.heap.size 5 1 v 256 ((blk S p).map B8) ∧ Below W.heap.size W w' := fun W a a' c c' h1 h2 => by
        have kk := rtwo_any a a' c c' _ _ W h1 h2 (by rw [hrl]; omega) (by rw [tx_len]; have := CZ.out; omega)
        rw [hrl, EB.out, tx_len, ← hm, show m + C.size = 256 by have := HCS.out; have := HZ.out; omega] at kk
        exact kk
      have TL := hide tl
      have CS := hide (CF.out _ B7.out.drew)
      obtain ⟨q2, q3⟩ := CF.out _ B7.out
      generalize wr = W7 at *
      clear hs7 tl HO HB hsz hm hrl htz hzI
      go_upto_region 8 with (fail)
      refine wp_region_held_drew (S := fun X => X.cell? ⟨r, 0, none⟩ = some (.string S) ∧ X.cell? ⟨r, 1, none⟩ = some (.int .i64 (p : Int))) (by kernel_rfl) CS.out (fun hS => ?_)
      refine wpAnyH_take (i := 0) (v := (.slice a7 m k7)) rfl (by kernel_rfl) (by kernel_rfl) (by kernel_rfl) (fun _ _ _ h => h) (Or.inl ⟨by kernel_rfl, fun w' hw => by (go_simp)⟩) hS ?_
      refine wpAnyH_take (i := 1) (v := (.pointer (some ⟨r, 0, none⟩))) rfl (by kernel_rfl) (by kernel_rfl) (by kernel_rfl) (fun _ _ _ h => h) (Or.inl ⟨by kernel_rfl, fun w' hw => by (go_simp)⟩) hS ?_
      refine wpAnyH_take (i := 2) (v := (.pointer (some ⟨r, 0, none⟩))) rfl (by kernel_rfl) (by kernel_rfl) (by kernel_rfl) (fun _ _ _ h => h) (Or.inl ⟨by kernel_rfl, fun w' hw => by (go_simp)⟩) hS ?_
      refine wpAnyH_take (i := 3) (v := (.pointer (some ⟨r, 0, none⟩))) rfl (by kernel_rfl) (by kernel_rfl) (by kernel_rfl) (fun _ _ _ h => h) (Or.inl ⟨by kernel_rfl, fun w' hw => by (go_simp)⟩) hS ?_
      refine wpAnyH_take (i := 4) (v := (.string S)) rfl (by kernel_rfl) (by kernel_rfl) (by kernel_rfl) (fun _ _ _ h => h) (Or.inl ⟨by kernel_rfl, fun w' hw => by (go_simp)⟩) hS ?_
      refine wpAnyH_take (i := 5) (v := (.pointer (some ⟨r, 0, none⟩))) rfl (by kernel_rfl) (by kernel_rfl) (by kernel_rfl) (fun _ _ _ h => h) (Or.inl ⟨by kernel_rfl, fun w' hw => by (go_simp)⟩) hS ?_
      refine wpAnyH_take (i := 6) (v := (.pointer (some ⟨r, 0, none⟩))) rfl (by kernel_rfl) (by kernel_rfl) (by kernel_rfl) (fun _ _ _ h => h) (Or.inl ⟨by kernel_rfl, fun w' hw => by (go_simp)⟩) hS ?_
      refine wpAnyH_take (i := 7) (v := (.pointer (some ⟨r, 1, none⟩))) rfl (by kernel_rfl) (by kernel_rfl) (by kernel_rfl) (fun _ _ _ h => h) (Or.inl ⟨by kernel_rfl, fun w' hw => by (go_simp)⟩) hS ?_
      refine wpAnyH_take (i := 8) (v := (.int .i64 (p : Int))) rfl (by kernel_rfl) (by kernel_rfl) (by kernel_rfl) (fun _ _ _ h => h) (Or.inl ⟨by kernel_rfl, fun w' hw => by (go_simp)⟩) hS ?_
      refine wpAnyH_take (i := 9) (v := (.string C)) rfl (by kernel_rfl) (by kernel_rfl) (by kernel_rfl) (fun _ _ _ h => h) (Or.inl ⟨by kernel_rfl, fun w' hw => by (have s1 := SC.out; go_simp)⟩) hS ?_
      refine gp_go (i := 10) (by kernel_rfl) rfl (by kernel_rfl) (fun K hK => ?_)
      go_wp2_with (go_at_call 45; refine (rtext_any C _ CZ.out).mono ?_; rintro e W8 ⟨v8, rfl, ho8, hb8⟩; obtain ⟨a8, k8, rfl, hs8⟩ := sl_of_owns (bs := tx C) (by rw [tx_len]; exact ho8) (tx_lt C); rw [tx_len]; have S8 := hide hs8; have B8 := hide (bseq B7.out.drew hb8); have T8 := hide (R7.out.below (bseq ((Below.refl _ W7).drew) hb8)); clear ho8 hb8 hs8)
      have hS1 := CF.out _ B8.out
      refine hK.out _ _ hS1 ?_
      clear hK K
      refine gp_go (i := 11) (by kernel_rfl) rfl (by kernel_rfl) (fun K hK => ?_)
      go_wp2_with (go_at_call 8; refine (TL.out _ _ _ _ _ T8.out S8.out).mono ?_; rintro e W9 ⟨v9, rfl, ho9, hb9⟩; have O9 := hide ho9; have B9 := hide (bseq B8.out hb9); clear hb9 ho9)
      have hS2 := CF.out _ B9.out
      refine hK.out _ _ hS2 ?_
      clear hK K
      refine gp_go (i := 12) (by kernel_rfl) rfl (by kernel_rfl) (fun K hK => ?_)
      go_wp2_with (fail)
      refine hK.out _ _ hS2 ?_
      clear hK K
      refine wpAnyH_done (by kernel_rfl) ?_ _
      try simp only [Act.put, List.getElem_toArray, List.getElem_cons_zero, List.getElem_cons_succ, List.setIfInBounds_toArray, List.set_cons_zero, List.set_cons_succ]
      obtain ⟨a9, c9, hv9, hs9⟩ := sl_of_owns (bs := blk S p) (by rw [HBL.out]; exact O9.out) (blk_lt S p)
      rw [HBL.out] at hv9
      subst hv9
      have S9 := hide hs9
      clear hs9 O9
      go_wp2_with (fail)
      go_ret
      exact ⟨a9, c9, rfl, S9.out, B9.out⟩
end
end Go.Proofs.Ytheefdplbmneeaa
