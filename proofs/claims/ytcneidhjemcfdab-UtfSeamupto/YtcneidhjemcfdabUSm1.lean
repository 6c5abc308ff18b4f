/- The road of UtfSeam where bytes are closed at the seam: it returns true, and writes nothing that was there. -/
import Derived.Test.YtcneidhjemcfdabUSmW
import Derived.BigRegion
namespace Go.Proofs.Ytcneidhjemcfdab
open Go.RowKit
set_option linter.unusedVariables false

namespace utfSeam
theorem slu_left {w : World} {a : Option Addr} {xs ys : List Int} (h : SlU w a (xs ++ ys)) : SlU w a xs := by
  rcases h with h | ⟨b, off, ha, hl, hc⟩
  · exact .inl (List.append_eq_nil_iff.1 h).1
  · exact .inr ⟨b, off, ha, hl, fun i x hx => hc i x (by rw [List.getElem?_append_left (List.getElem?_eq_some_iff.1 hx).1]; exact hx)⟩
theorem slu_right {w : World} {g : Nat} {xs ys : List Int} (h : SlU w (some ⟨g, 0, none⟩) (xs ++ ys)) : SlU w (some ⟨g, xs.length, none⟩) ys := by
  rcases h with h | ⟨b, off, ha, hl, hc⟩
  · exact .inl (List.append_eq_nil_iff.1 h).2
  · cases ha
    refine .inr ⟨g, xs.length, rfl, hl, fun i x hx => ?_⟩
    have := hc (xs.length + i) x (by rw [List.getElem?_append_right (by omega), Nat.add_sub_cancel_left]; exact hx)
    rwa [Nat.zero_add] at this

set_option maxRecDepth 100000 in
set_option maxHeartbeats 40000000 in
theorem walk1 (a b : ByteArray) (w : World) (hs : a.size + b.size ≤ 1048576) (h00 : closesV ((bl a).drop (a.size - pendingV (bl a))) (bl b) ≠ 0) :
    Calls Try.prog 4 #[.string a, .string b] w fun e w' => e = .returned (.bool true) ∧ Below w.heap.size w w' := by
  obtain ⟨n, k, hn, hk, h3, hna, hkb, hnk, h0, hcase⟩ := smfacts (bl a) (bl b)
  rw [bl_len] at hna hkb hk hcase
  have hpend : AnsI 20 #[.string a] n := fun w => by rw [hn]; exact pending_any a w (by omega)
  have hclo : AnsI 21 #[.string (a.extract (a.size - n) a.size), .string b] k := fun w => by
    have := closes_any (a.extract (a.size - n) a.size) b w (by omega)
    rw [bl_from, ← hk] at this
    exact this
  have hlA := Cs_len_le (bl a)
  have hlB := Cs_len_le (bl b)
  rw [bl_len] at hlA hlB
  obtain ⟨zl, rZ⟩ := ansR (a ++ b) (by rw [ByteArray.size_append]; omega)
  obtain ⟨xl, rX⟩ := ansR a (by omega)
  obtain ⟨yl, rY⟩ := ansR b (by omega)
  have cA : AnsI 14 #[.string a] ((Cs 0 (bl a)).length : Nat) := fun w => count_any a w (by omega)
  have cB : AnsI 14 #[.string b] ((Cs 0 (bl b)).length : Nat) := fun w => count_any b w (by omega)
  rw [bl_append] at rZ zl
  have hZl := Cs_len_le (bl a ++ bl b)
  rw [List.length_append, bl_len, bl_len] at hZl
  generalize (Cs 0 (bl a ++ bl b)).length = c at *
  generalize (Cs 0 (bl a)).length = ca at *
  generalize (Cs 0 (bl b)).length = cb at *
  have hP := hide hpend
  have hC := hide hclo
  have hZ := hide rZ
  have hX := hide rX
  have hY := hide rY
  have hcA := hide cA
  have hcB := hide cB
  have e1 : ((a.size : Int) - (n : Int)).toNat = a.size - n := by omega
  have i1 : (n : Int) ≤ 3 := by omega
  have i2 : (n : Int) ≤ (a.size : Int) := by omega
  have i3 : (k : Int) ≤ 3 := by omega
  have i4 : (k : Int) ≤ (b.size : Int) := by omega
  have i5 : (n : Int) + (k : Int) ≤ 4 := by omega
  have i6 : (a.size : Int) ≤ 1048576 := by omega
  have i7 : (b.size : Int) ≤ 1048576 := by omega
  clear hpend hclo rZ rX rY cA cB
  have M1 := hide trivial
  have M2 := hide trivial
  have M3 := hide trivial
  rcases hcase with ⟨hk00, hzz⟩ | ⟨hk0, R, S, e1', e2', e3', hW, hcp, hcq⟩
  · rw [hn, hk00] at hk
    exact absurd hk.symm h00
  · have hbp : bl (a.extract (a.size - n) a.size) = (bl a).drop (a.size - n) := bl_from a _
    have hbq : bl (b.extract 0 k) = (bl b).take k := bl_to b k
    have hps : (a.extract (a.size - n) a.size).size = n := by rw [ByteArray.size_extract]; omega
    have hqs : (b.extract 0 k).size = k := by rw [ByteArray.size_extract]; omega
    rw [← hbp] at e3' hW hcp
    rw [← hbq] at e3' hW hcq
    have cP : AnsI 14 #[.string (a.extract (a.size - n) a.size)] n := fun w => by
      have := count_any (a.extract (a.size - n) a.size) w (by omega)
      rw [hcp] at this
      exact this
    have cQ : AnsI 14 #[.string (b.extract 0 k)] k := fun w => by
      have := count_any (b.extract 0 k) w (by omega)
      rw [hcq] at this
      exact this
    generalize hp : a.extract (a.size - n) a.size = p at *
    generalize hq : b.extract 0 k = q at *
    rw [← bl_append p q] at e3' hW
    have hpq : (p ++ q).size = n + k := by rw [ByteArray.size_append, hps, hqs]
    have hpne : bl (p ++ q) ≠ [] := bl_ne (by omega)
    have kf : ∀ w, Calls Try.prog 12 #[.string (p ++ q)] w fun e w' => e = .returned (.tuple #[.int .i32 (rune (bl (p ++ q)) : Int), .int .i64 ((n : Int) + (k : Int)), .bool true]) ∧ Below w.heap.size w w' := fun w => by
      have := first_any (p ++ q) w (by omega)
      rw [firstV_ne hpne, cw_W (l := bl (p ++ q)) (by omega), hW, decide_eq_true (p := n + k ≠ 0) (by omega)] at this
      have e : ((n + k : Nat) : Int) = (n : Int) + (k : Int) := by omega
      rw [e] at this
      exact this
    have ke : ∀ (w : World) (h : Nat), SlU w (some ⟨h, 0, none⟩) [(rune (bl (p ++ q)) : Int)] → Calls Try.prog 23 #[.slice (some ⟨h, 0, none⟩) 1 1] w fun e w' => e = .returned (.string (p ++ q)) ∧ w' = w := fun w h hh => by
      have := encode_any (some ⟨h, 0, none⟩) 1 [(rune (bl (p ++ q)) : Int)] w hh
      have hrb : runesBytes [(rune (bl (p ++ q)) : Int)] = p ++ q := runesBytes_right (p ++ q) (by rw [hpq]; exact hW) (by omega)
      rw [hrb] at this
      exact this
    generalize ((rune (bl (p ++ q)) : Nat) : Int) = r at *
    obtain ⟨m, hm⟩ : ∃ m : Int, m = (n : Int) + (k : Int) := ⟨_, rfl⟩
    rw [← hm] at kf
    have HM := hide hm
    have hRl : R.length + n = ca := by rw [← xl, e1', List.length_append, List.length_replicate]
    have hSl : k + S.length = cb := by rw [← yl, e2', List.length_append, List.length_replicate]
    have hZl2 : c = R.length + 1 + S.length := by rw [← zl, e3', List.length_append, List.length_cons]; omega
    subst hZl2
    rw [e1'] at hX
    rw [e2'] at hY
    rw [e3'] at hZ zl
    generalize runesZ (bl a ++ bl b) = Z0 at *
    generalize runesZ (bl a) = X at *
    generalize runesZ (bl b) = Y at *
    have KF := hide kf
    have KE := hide ke
    have hcP := hide cP
    have hcQ := hide cQ
    have i8 : (n : Int) ≤ (ca : Int) := by omega
    have i9 : (k : Int) ≤ (cb : Int) := by omega
    have i10 : ((k : Int) == 0) = false := by simp; omega
    have i11 : ((n : Int) == 0) = false := by have : n ≠ 0 := fun h => by have := h0 h; omega
                                              simp; omega
    have i12 : (ca : Int) ≤ 1048576 := by omega
    have i13 : (cb : Int) ≤ 1048576 := by omega
    have e2 : ((ca : Int) - (n : Int)).toNat = ca - n := by omega
    have ks := fun (w : World) (a b : Option Addr) (c1 d : Nat) (h1 : SlU w a (R ++ r :: S)) (h2 : SlU w b (R ++ r :: S)) => same_yes a b c1 d (R ++ r :: S) _ zl w h1 h2 (by omega)
    have KS := hide ks
    have kj1 := fun (w : World) (ax ay : Addr) (cx cy : Nat) (h1 : SlU w (some ax) R) (h2 : SlU w (some ay) [r]) (h3 : ay.block < w.heap.size) => join_sl ax ay cx cy (ca - n) 1 R [r] w (by omega) rfl h1 h2 (.inr h3) (by omega)
    have KJ1 := hide kj1
    have kj2 := fun (w : World) (ax ay : Addr) (cx cy : Nat) (h1 : SlU w (some ax) (R ++ [r])) (h2 : SlU w (some ay) S) (h3 : S = [] ∨ ay.block < w.heap.size) => join_sl ax ay cx cy (ca - n + 1) (cb - k) (R ++ [r]) S w (by rw [List.length_append, List.length_singleton]; omega) (by omega) h1 h2 h3 (by omega)
    have KJ2 := hide kj2
    clear hn hk kf ke cP cQ e1' e2' e3' hW hcp hcq hbp hbq hpne ks kj1 kj2 hps hqs hpq zl hm
    subst hp hq
    have M4 := hide trivial
    have M5 := hide trivial
    have M6 := hide trivial
    go_enter Try.func4, Try.ntmps4
    go_wp2_with (first | (go_at_call 9; refine (awake_any _).mono ?_; rintro e w0 ⟨rfl, hB0⟩) | (go_at_call 20; refine (hP.out _).mono ?_; rintro e w1 ⟨rfl, hB1⟩) | (go_at_call 21; refine (hC.out _).mono ?_; rintro e w2 ⟨rfl, hB2⟩) | (go_at_call 16; clear M1; refine (hZ.out _).mono ?_; rintro e w3 ⟨gz, rfl, sz, lz, hB3⟩) | (go_at_call 16; clear M2; refine (hX.out _).mono ?_; rintro e w4 ⟨gx, rfl, sx, lx, hB4⟩) | (go_at_call 16; refine (hY.out _).mono ?_; rintro e w5 ⟨gy, rfl, sy, ly, hB5⟩) | (go_at_call 14; clear M3; refine (hcA.out _).mono ?_; rintro e w6 ⟨rfl, hB6⟩) | (go_at_call 14; clear M4; refine (hcB.out _).mono ?_; rintro e w7 ⟨rfl, hB7⟩) | (go_at_call 12; refine (KF.out _).mono ?_; rintro e w8 ⟨rfl, hB8⟩))
    go_cut [145] (fun c wx => c = .bool false ∧ Below w8.heap.size w8 wx)
    case rest =>
      obtain ⟨rfl, hBc⟩ := hcut
      go_wp2
      obtain ⟨ad, had1, had2⟩ : ∃ ad : Addr, (cb = k → ad = ⟨gy, 0, none⟩) ∧ (cb ≠ k → ad = ⟨gy, k, none⟩) := by
        by_cases h : cb = k
        · exact ⟨_, fun _ => rfl, fun h' => absurd h h'⟩
        · exact ⟨_, fun h' => absurd h' h, fun _ => rfl⟩
      have hBD : Below w3.heap.size w3 wc.drew := (bseq (bseq (bseq (bseq (bseq hB4 hB5) hB6) hB7) hB8) hBc).drew
      have hXD : Below w4.heap.size w4 wc.drew := (bseq (bseq (bseq (bseq hB5 hB6) hB7) hB8) hBc).drew
      have hYD : Below w5.heap.size w5 wc.drew := (bseq (bseq (bseq hB6 hB7) hB8) hBc).drew
      have sZ := sz.below hBD
      have sR := slu_left (sx.below hXD)
      have sS : SlU wc.drew (some ad) S := by
        by_cases h : cb = k
        · exact .inl (List.eq_nil_of_length_eq_zero (by omega))
        · rw [had2 h]
          have := slu_right (sy.below hYD)
          rw [List.length_replicate] at this
          exact this
      have hadb : ad.block = gy := by
        by_cases h : cb = k
        · rw [had1 h]
        · rw [had2 h]
      have hlen : ca - n + 1 + (cb - k) = R.length + 1 + S.length := by omega
      have HLEN := hide hlen
      clear hlen
      have lyD : gy < wc.heap.size := by have := hYD.size; simp at this; omega
      refine wp_region_any (by kernel_rfl) ?_
      try (change wpAny _ _ _ _ _ _ _ (World.drew _))
      refine wpAny_take (i := 0) (v := .slice (some ⟨gz, 0, none⟩) (R.length + 1 + S.length) (R.length + 1 + S.length)) rfl (by kernel_rfl) (by kernel_rfl) (by kernel_rfl) (fun _ _ _ h => h) (Or.inl ⟨by kernel_rfl, fun w => by go_simp⟩) ?_
      refine wpAny_take (i := 1) (v := .slice (some ⟨gx, 0, none⟩) ca ca) rfl (by kernel_rfl) (by kernel_rfl) (by kernel_rfl) (fun _ _ _ h => h) (Or.inl ⟨by kernel_rfl, fun w => by go_simp⟩) ?_
      refine wpAny_take (i := 2) (v := .slice (some ⟨gx, 0, none⟩) ca ca) rfl (by kernel_rfl) (by kernel_rfl) (by kernel_rfl) (fun _ _ _ h => h) (Or.inl ⟨by kernel_rfl, fun w => by go_simp⟩) ?_
      refine wpAny_take (i := 3) (v := .int .i64 ca) rfl (by kernel_rfl) (by kernel_rfl) (by kernel_rfl) (fun _ _ _ h => h) (Or.inl ⟨by kernel_rfl, fun w => by go_simp⟩) ?_
      refine wpAny_take (i := 4) (v := .int .i64 n) rfl (by kernel_rfl) (by kernel_rfl) (by kernel_rfl) (fun _ _ _ h => h) (Or.inl ⟨by kernel_rfl, fun w => by go_simp⟩) ?_
      refine wpAny_take (i := 5) (v := .int .i64 ((ca : Int) - n)) rfl (by kernel_rfl) (by kernel_rfl) (by kernel_rfl) (fun _ _ _ h => h) (Or.inl ⟨by kernel_rfl, fun w => by go_simp; rw [IntKind.wrap_i64]; omega⟩) ?_
      refine wpAny_take (i := 6) (v := .slice (some ⟨gx, 0, none⟩) (ca - n) ca) rfl (by kernel_rfl) (by kernel_rfl) (by kernel_rfl) (fun _ _ _ h => h) (Or.inl ⟨by kernel_rfl, fun w => by go_simp; intro h; omega⟩) ?_
      refine wpAny_take (i := 7) (v := .int .i32 r) rfl (by kernel_rfl) (by kernel_rfl) (by kernel_rfl) (fun _ _ _ h => h) (Or.inl ⟨by kernel_rfl, fun w => by go_simp⟩) ?_
      refine wpAny_take (i := 10) (v := .slice (some ⟨gy, 0, none⟩) cb cb) rfl (by kernel_rfl) (by kernel_rfl) (by kernel_rfl) (fun _ _ _ h => h) (Or.inl ⟨by kernel_rfl, fun w => by go_simp⟩) ?_
      refine wpAny_take (i := 11) (v := .int .i64 k) rfl (by kernel_rfl) (by kernel_rfl) (by kernel_rfl) (fun _ _ _ h => h) (Or.inl ⟨by kernel_rfl, fun w => by go_simp⟩) ?_
      refine wpAny_take (i := 12) (v := .slice (some ad) (cb - k) (cb - k)) rfl (by kernel_rfl) (by kernel_rfl) (by kernel_rfl) (fun _ _ _ h => h) (Or.inl ⟨by kernel_rfl, fun w => by
        by_cases hck : cb = k
        · rw [had1 hck]
          go_simp
          all_goals (first | omega | simp [hck])
        · rw [had2 hck]
          go_simp
          all_goals (first | exact hck | omega)⟩) ?_
      refine wpAny_ready (rs := [8]) (by kernel_rfl) (by simp) ?_
      refine BigFrame.allReady_want rfl (by kernel_rfl) (fun K hK => ?_) AllReady.nil
      go_simp
      try (refine hK _ _ ?_; clear hK K)
      refine wpAny_ready (rs := [9]) (by kernel_rfl) (by simp) ?_
      refine BigFrame.allReady_want rfl (by kernel_rfl) (fun K hK => ?_) AllReady.nil
      go_simp
      go_wp2_with (go_at_call 22; refine (KJ1.out _ _ _ _ _ (sR.below ((Below.refl _ _).alloc (Nat.le_refl _) _)) (one_slu _ _ _ (by simp)) (by simp)).mono ?_; rintro e w12 ⟨aj, cj, rfl, sj, lj, hB12⟩; obtain ⟨gj, rfl, lgj⟩ := lj (by omega))
      try (refine hK _ _ ?_; clear hK K)
      have hAl : Below wc.drew.heap.size wc.drew w12 := bseq ((Below.refl _ _).alloc (Nat.le_refl _) _) hB12
      refine wpAny_ready (rs := [13]) (by kernel_rfl) (by simp) ?_
      refine BigFrame.allReady_want rfl (by kernel_rfl) (fun K hK => ?_) AllReady.nil
      go_simp
      go_wp2_with (go_at_call 22; refine (KJ2.out _ _ _ _ _ sj (sS.below hAl) (.inr (by rw [hadb]; have := hAl.size; simp at this; omega))).mono ?_; rintro e w13 ⟨aq, cq, rfl, sq, lq, hB13⟩)
      try (refine hK _ _ ?_; clear hK K)
      rw [List.append_assoc, List.singleton_append] at sq
      rw [HLEN.out]
      refine wpAny_ready (rs := [14]) (by kernel_rfl) (by simp) ?_
      refine BigFrame.allReady_want rfl (by kernel_rfl) (fun K hK => ?_) AllReady.nil
      go_simp
      go_wp2_with (go_at_call 15; refine (KS.out _ _ _ _ _ ((sZ.below hAl).below hB13) sq).mono ?_; rintro e w14 ⟨rfl, hB14⟩)
      try (refine hK _ _ ?_; clear hK K)
      refine wpAny_take (i := 15) (v := .bool true) rfl (by kernel_rfl) (by kernel_rfl) (by kernel_rfl) (fun _ _ _ h => h) (Or.inl ⟨by kernel_rfl, fun w => by go_simp⟩) ?_
      refine wpAny_done (by kernel_rfl) ?_ _
      go_wp2
      go_ret
      exact ⟨rfl, bseq (bseq (bseq (bseq (bseq (bseq (bseq hB0 hB1) hB2) hB3) hBD) hAl) hB13) hB14⟩
    case first =>
      have hm1 : (m != (n : Int) + (k : Int)) = false := by rw [HM.out]; simp
      have hm2 : IntKind.i64.wrap ((n : Int) + (k : Int)) = m := by have := HM.out; rw [IntKind.wrap_i64]; omega
      have hm3 : ((n : Int) + (k : Int) + 9223372036854775808) % 18446744073709551616 - 9223372036854775808 = m := by have := HM.out; omega
      have hm4 : (m != ((n : Int) + (k : Int) + 9223372036854775808) % 18446744073709551616 - 9223372036854775808) = false := by rw [hm3]; simp
      clear hP hC hZ hX hY hcA hcB KS KJ1 KJ2 KF
      refine wp_region_any (by kernel_rfl) ?_
      try (change wpAny _ _ _ _ _ _ _ (World.drew _))
      refine wpAny_take (i := 0) (v := .bool true) rfl (by kernel_rfl) (by kernel_rfl) (by kernel_rfl) (fun _ _ _ h => h) (Or.inl ⟨by kernel_rfl, fun w => by go_simp⟩) ?_
      refine wpAny_take (i := 1) (v := .bool false) rfl (by kernel_rfl) (by kernel_rfl) (by kernel_rfl) (fun _ _ _ h => h) (Or.inl ⟨by kernel_rfl, fun w => by go_simp⟩) ?_
      refine wpAny_take (i := 2) (v := .bool false) rfl (by kernel_rfl) (by kernel_rfl) (by kernel_rfl) (fun _ _ _ h => h) (Or.inl ⟨by kernel_rfl, fun w => by go_simp⟩) ?_
      refine wpAny_take (i := 3) (v := .int .i64 m) rfl (by kernel_rfl) (by kernel_rfl) (by kernel_rfl) (fun _ _ _ h => h) (Or.inl ⟨by kernel_rfl, fun w => by go_simp⟩) ?_
      refine wpAny_take (i := 4) (v := .int .i64 n) rfl (by kernel_rfl) (by kernel_rfl) (by kernel_rfl) (fun _ _ _ h => h) (Or.inl ⟨by kernel_rfl, fun w => by go_simp⟩) ?_
      refine wpAny_take (i := 5) (v := .int .i64 k) rfl (by kernel_rfl) (by kernel_rfl) (by kernel_rfl) (fun _ _ _ h => h) (Or.inl ⟨by kernel_rfl, fun w => by go_simp⟩) ?_
      refine wpAny_take (i := 6) (v := .int .i64 m) rfl (by kernel_rfl) (by kernel_rfl) (by kernel_rfl) (fun _ _ _ h => h) (Or.inl ⟨by kernel_rfl, fun w => by go_simp⟩) ?_
      refine wpAny_take (i := 7) (v := .bool false) rfl (by kernel_rfl) (by kernel_rfl) (by kernel_rfl) (fun _ _ _ h => h) (Or.inl ⟨by kernel_rfl, fun w => by go_simp⟩) ?_
      refine wpAny_take (i := 8) (v := .bool false) rfl (by kernel_rfl) (by kernel_rfl) (by kernel_rfl) (fun _ _ _ h => h) (Or.inl ⟨by kernel_rfl, fun w => by go_simp⟩) ?_
      refine wpAny_take (i := 9) (v := .bool false) rfl (by kernel_rfl) (by kernel_rfl) (by kernel_rfl) (fun _ _ _ h => h) (Or.inl ⟨by kernel_rfl, fun w => by go_simp⟩) ?_
      refine wpAny_take (i := 10) (v := .string (a.extract (a.size - n) a.size)) rfl (by kernel_rfl) (by kernel_rfl) (by kernel_rfl) (fun _ _ _ h => h) (Or.inl ⟨by kernel_rfl, fun w => by go_simp⟩) ?_
      refine wpAny_take (i := 12) (v := .int .i64 n) rfl (by kernel_rfl) (by kernel_rfl) (by kernel_rfl) (fun _ _ _ h => h) (Or.inl ⟨by kernel_rfl, fun w => by go_simp⟩) ?_
      refine wpAny_ready (rs := [11]) (by kernel_rfl) (by simp) ?_
      refine BigFrame.allReady_want rfl (by kernel_rfl) (fun K hK => ?_) AllReady.nil
      go_simp
      go_wp2_with (go_at_call 14; refine (hcP.out _).mono ?_; rintro e w9 ⟨rfl, hB9⟩)
      try (refine hK _ _ ?_; clear hK K)
      refine wpAny_take (i := 13) (v := .bool false) rfl (by kernel_rfl) (by kernel_rfl) (by kernel_rfl) (fun _ _ _ h => h) (Or.inl ⟨by kernel_rfl, fun w => by go_simp⟩) ?_
      refine wpAny_take (i := 14) (v := .bool false) rfl (by kernel_rfl) (by kernel_rfl) (by kernel_rfl) (fun _ _ _ h => h) (Or.inl ⟨by kernel_rfl, fun w => by go_simp⟩) ?_
      refine wpAny_take (i := 15) (v := .bool false) rfl (by kernel_rfl) (by kernel_rfl) (by kernel_rfl) (fun _ _ _ h => h) (Or.inl ⟨by kernel_rfl, fun w => by go_simp⟩) ?_
      refine wpAny_take (i := 16) (v := .string b) rfl (by kernel_rfl) (by kernel_rfl) (by kernel_rfl) (fun _ _ _ h => h) (Or.inl ⟨by kernel_rfl, fun w => by go_simp⟩) ?_
      refine wpAny_take (i := 17) (v := .int .i64 k) rfl (by kernel_rfl) (by kernel_rfl) (by kernel_rfl) (fun _ _ _ h => h) (Or.inl ⟨by kernel_rfl, fun w => by go_simp⟩) ?_
      refine wpAny_take (i := 18) (v := .string (b.extract 0 k)) rfl (by kernel_rfl) (by kernel_rfl) (by kernel_rfl) (fun _ _ _ h => h) (Or.inl ⟨by kernel_rfl, fun w => by go_simp⟩) ?_
      refine wpAny_take (i := 20) (v := .int .i64 k) rfl (by kernel_rfl) (by kernel_rfl) (by kernel_rfl) (fun _ _ _ h => h) (Or.inl ⟨by kernel_rfl, fun w => by go_simp⟩) ?_
      refine wpAny_ready (rs := [19]) (by kernel_rfl) (by simp) ?_
      refine BigFrame.allReady_want rfl (by kernel_rfl) (fun K hK => ?_) AllReady.nil
      go_simp
      go_wp2_with (go_at_call 14; refine (hcQ.out _).mono ?_; rintro e w10 ⟨rfl, hB10⟩)
      try (refine hK _ _ ?_; clear hK K)
      refine wpAny_take (i := 21) (v := .bool false) rfl (by kernel_rfl) (by kernel_rfl) (by kernel_rfl) (fun _ _ _ h => h) (Or.inl ⟨by kernel_rfl, fun w => by go_simp⟩) ?_
      refine wpAny_take (i := 22) (v := .bool false) rfl (by kernel_rfl) (by kernel_rfl) (by kernel_rfl) (fun _ _ _ h => h) (Or.inl ⟨by kernel_rfl, fun w => by go_simp⟩) ?_
      refine wpAny_take (i := 23) (v := .bool false) rfl (by kernel_rfl) (by kernel_rfl) (by kernel_rfl) (fun _ _ _ h => h) (Or.inl ⟨by kernel_rfl, fun w => by go_simp⟩) ?_
      refine wpAny_take (i := 24) (v := .int .i32 r) rfl (by kernel_rfl) (by kernel_rfl) (by kernel_rfl) (fun _ _ _ h => h) (Or.inl ⟨by kernel_rfl, fun w => by go_simp⟩) ?_
      refine wpAny_take (i := 27) (v := .string (a.extract (a.size - n) a.size)) rfl (by kernel_rfl) (by kernel_rfl) (by kernel_rfl) (fun _ _ _ h => h) (Or.inl ⟨by kernel_rfl, fun w => by go_simp⟩) ?_
      refine wpAny_take (i := 28) (v := .string b) rfl (by kernel_rfl) (by kernel_rfl) (by kernel_rfl) (fun _ _ _ h => h) (Or.inl ⟨by kernel_rfl, fun w => by go_simp⟩) ?_
      refine wpAny_take (i := 29) (v := .int .i64 k) rfl (by kernel_rfl) (by kernel_rfl) (by kernel_rfl) (fun _ _ _ h => h) (Or.inl ⟨by kernel_rfl, fun w => by go_simp⟩) ?_
      refine wpAny_take (i := 30) (v := .string (b.extract 0 k)) rfl (by kernel_rfl) (by kernel_rfl) (by kernel_rfl) (fun _ _ _ h => h) (Or.inl ⟨by kernel_rfl, fun w => by go_simp⟩) ?_
      refine wpAny_take (i := 31) (v := .string ((a.extract (a.size - n) a.size) ++ (b.extract 0 k))) rfl (by kernel_rfl) (by kernel_rfl) (by kernel_rfl) (fun _ _ _ h => h) (Or.inl ⟨by kernel_rfl, fun w => by go_simp; omega⟩) ?_
      refine wpAny_ready (rs := [25]) (by kernel_rfl) (by simp) ?_
      refine BigFrame.allReady_want rfl (by kernel_rfl) (fun K hK => ?_) AllReady.nil
      go_simp
      try (refine hK _ _ ?_; clear hK K)
      refine wpAny_ready (rs := [26]) (by kernel_rfl) (by simp) ?_
      refine BigFrame.allReady_want rfl (by kernel_rfl) (fun K hK => ?_) AllReady.nil
      go_simp
      go_wp2_with (go_at_call 23; refine (KE.out _ _ (one_slu _ _ _ (by simp))).mono ?_; rintro e w11 ⟨rfl, rfl⟩)
      try (refine hK _ _ ?_; clear hK K)
      refine wpAny_take (i := 32) (v := .bool false) rfl (by kernel_rfl) (by kernel_rfl) (by kernel_rfl) (fun _ _ _ h => h) (Or.inl ⟨by kernel_rfl, fun w => by go_simp⟩) ?_
      refine wpAny_take (i := 33) (v := .bool false) rfl (by kernel_rfl) (by kernel_rfl) (by kernel_rfl) (fun _ _ _ h => h) (Or.inl ⟨by kernel_rfl, fun w => by go_simp⟩) ?_
      refine wpAny_done (by kernel_rfl) ?_ _
      go_wp2
      go_meet
      have hB11 := bseq (bseq ((Below.refl _ w8).drew) hB9) hB10
      exact ⟨rfl, hB11.alloc hB11.size _⟩
end utfSeam
end Go.Proofs.Ytcneidhjemcfdab
