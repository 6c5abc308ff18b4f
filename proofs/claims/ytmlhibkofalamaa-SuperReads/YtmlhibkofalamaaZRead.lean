/- Package super: Read. -/
import Derived.Test.YtmlhibkofalamaaZLine
import Derived.Test.YtmlhibkofalamaaPLd
namespace Go.Proofs.Ytmlhibkofalamaa
open Go.RowKit Go.Shelf
set_option linter.unusedVariables false

section
variable {w : World} {b : Nat} {L : Lay} {σ : St}
set_option maxRecDepth 100000 in
set_option maxHeartbeats 400000 in
theorem read_any (h : DevL w b L σ) (hok : σ.Ok) (ho : σ.off = false) (hs : okS ((64 * σ.n : Nat) : Int)) :
    Calls Try.prog 9 #[.pointer (some ⟨b, 0, none⟩)] w fun e w' => e = .returned (if (σ.bytes.take 64) = sbX ((64 * σ.n : Nat) : Int) then .tuple #[.agg (plC ((64 * σ.n : Nat) : Int)), .int .i64 0] else .tuple #[.agg noC, .int .i64 100]) ∧ Below w.heap.size w w' := by
  have hp := hok.pos
  have kl : ∀ W, Below w.heap.size w W → Calls Try.prog 27 #[.pointer (some ⟨b, 0, none⟩), .int .i64 0, .int .i64 64] W fun e w' => ∃ R, e = .returned (.tuple #[.slice (some ⟨R, 0, none⟩) 64 64, .int .i64 0]) ∧ W.heap.size ≤ R ∧ w'.heap[R]? = some (.cells ((σ.bytes.take 64).map B8).toArray 5 (0, 0)) ∧ Below W.heap.size W w' := fun W hB => by
    have k := callsIn_wide.1 (pload_in (at_ := 0) (n := 64) (h.below hB) hok ho (by omega))
    rw [List.drop_zero] at k
    exact k
  have hlen : (σ.bytes.take 64).length = 64 := by rw [List.length_take, hok.len]; omega
  obtain ⟨x, hx⟩ : ∃ x : Int, x = ((64 * σ.n : Nat) : Int) := ⟨_, rfl⟩
  have kz : ∀ W, Below w.heap.size w W → Calls Try.prog 28 #[.pointer (some ⟨b, 0, none⟩)] W fun e w' => e = .returned (.int .i64 x) ∧ w' = W := fun W hB => by
    rw [hx]
    exact psize_any (h.below hB) hok.max
  rw [← hx] at hs ⊢
  generalize σ.bytes.take 64 = tk at *
  have kp : ∀ W, Calls Try.prog 25 #[.int .i64 x] W fun e w' => e = .returned (.tuple #[.agg #[.int .i64 x, .int .i64 128, .int .i64 32768, .int .i64 32896, .int .i64 ((x - 32896) / 256)], .int .i64 0]) ∧ Below W.heap.size W w' := fun W => plan_ok x W hs
  have kb := fun W => block_any x W hs
  have hsl := sbX_len x
  generalize sbX x = sb at *
  unfold plC noC suC
  generalize (x - 32896) / 256 = q at *
  have KL := hide kl
  have KZ := hide kz
  have KP := hide kp
  have KB := hide kb
  have HTL := hide hlen
  have HSL := hide hsl
  clear kl kz kp kb hlen hsl h hok ho hs hx hp
  have h0 : Below w.heap.size w (w.alloc (.cells #[.int .i64 0, .int .i64 0, .int .i64 0, .int .i64 0, .int .i64 0] 36)) := (Below.refl _ w).alloc (Nat.le_refl _) _
  have H0 := hide h0
  clear h0
  by_cases hne : tk = sb
  · rw [if_pos hne]
    have l3 : ∀ W : World, (Op.equalIn 10000 73 (.agg (tk.map B8).toArray) (.agg (sb.map B8).toArray)).run Try.prog W = .ok true W := fun W => by rw [eql_line tk sb W HTL.out HSL.out, decide_eq_true hne]
    clear hne
    go_enter Try.func9, Try.ntmps9
    go_upto_region 5 with (first
      | (go_at_call 27; refine (KL.out _ H0.out).mono ?_; rintro e W1 ⟨R, rfl, hR1, hR2, hR3⟩; have hw1 := H0.out.trans (hR3.mono (by simp)); have hz1 := row_after hR3; have HW1 := hide hw1; have HZ1 := hide hz1; have HR1 := hide hR2; have KZ1 := hide (KZ.out W1 hw1); clear hR1 hR2 hR3 hw1 hz1)
      | (go_at_call 28; refine (KZ1.out).mono ?_; rintro e w' ⟨rfl, hw⟩; obtain rfl := hw.symm)
      | (go_at_call 25; refine (KP.out _).mono ?_; rintro e W2 ⟨rfl, hB2⟩; have HB2 := hide hB2; clear hB2))
    have mk : ∀ W, Below (W2.alloc (.cells #[.int .i64 x, .int .i64 128, .int .i64 32768, .int .i64 32896, .int .i64 q] 36)).heap.size (W2.alloc (.cells #[.int .i64 x, .int .i64 128, .int .i64 32768, .int .i64 32896, .int .i64 q] 36)) W → Below (W2.alloc (.cells #[.int .i64 x, .int .i64 128, .int .i64 32768, .int .i64 32896, .int .i64 q] 36)).heap.size (W2.alloc (.cells #[.int .i64 x, .int .i64 128, .int .i64 32768, .int .i64 32896, .int .i64 q] 36)) W ∧ W.rangeAt R 0 (tk.map B8) ∧ W.cell? ⟨W2.heap.size, 0, none⟩ = some (.int .i64 x) ∧ W.cell? ⟨W2.heap.size, 1, none⟩ = some (.int .i64 128) ∧ W.cell? ⟨W2.heap.size, 2, none⟩ = some (.int .i64 32768) ∧ W.cell? ⟨W2.heap.size, 3, none⟩ = some (.int .i64 32896) ∧ W.cell? ⟨W2.heap.size, 4, none⟩ = some (.int .i64 q) := fun W hB => by
      have hr := row_keep (row_keep (row_keep HR1.out HB2.out) ((Below.refl _ W2).alloc (Nat.le_refl _) _)) hB
      exact ⟨hB, range_all hr, suBox (row_after hB)⟩
    have mz : ∀ W, Below (W2.alloc (.cells #[.int .i64 x, .int .i64 128, .int .i64 32768, .int .i64 32896, .int .i64 q] 36)).heap.size (W2.alloc (.cells #[.int .i64 x, .int .i64 128, .int .i64 32768, .int .i64 32896, .int .i64 q] 36)) W → W.heap[w.heap.size]? = some (.cells #[.int .i64 0, .int .i64 0, .int .i64 0, .int .i64 0, .int .i64 0] 36 (0, 0)) ∧ Below w.heap.size w W := fun W hB => by
      refine ⟨row_keep (row_keep (row_keep HZ1.out HB2.out) ((Below.refl _ W2).alloc (Nat.le_refl _) _)) hB, ?_⟩
      have h5 := HW1.out.trans (HB2.out.mono HW1.out.size)
      have h6 := h5.alloc (o := .cells #[.int .i64 x, .int .i64 128, .int .i64 32768, .int .i64 32896, .int .i64 q] 36) h5.size
      exact h6.trans (hB.mono h6.size)
    have MK := hide mk
    have MZ := hide mz
    clear mk mz
    refine wp_region_held_drew (S := fun W => Below (W2.alloc (.cells #[.int .i64 x, .int .i64 128, .int .i64 32768, .int .i64 32896, .int .i64 q] 36)).heap.size (W2.alloc (.cells #[.int .i64 x, .int .i64 128, .int .i64 32768, .int .i64 32896, .int .i64 q] 36)) W ∧ W.rangeAt R 0 (tk.map B8) ∧ W.cell? ⟨W2.heap.size, 0, none⟩ = some (.int .i64 x) ∧ W.cell? ⟨W2.heap.size, 1, none⟩ = some (.int .i64 128) ∧ W.cell? ⟨W2.heap.size, 2, none⟩ = some (.int .i64 32768) ∧ W.cell? ⟨W2.heap.size, 3, none⟩ = some (.int .i64 32896) ∧ W.cell? ⟨W2.heap.size, 4, none⟩ = some (.int .i64 q)) (by kernel_rfl) (MK.out _ (Below.refl _ _).drew) (fun hS => ?_)
    refine wpAnyH_take (i := 0) (v := (.int .i64 0)) rfl (by kernel_rfl) (by kernel_rfl) (by kernel_rfl) (fun _ _ _ h => h) (Or.inl ⟨by kernel_rfl, fun w' hw => by (go_simp)⟩) hS ?_
    refine wpAnyH_take (i := 1) (v := (.bool false)) rfl (by kernel_rfl) (by kernel_rfl) (by kernel_rfl) (fun _ _ _ h => h) (Or.inl ⟨by kernel_rfl, fun w' hw => by (go_simp)⟩) hS ?_
    refine wpAnyH_take (i := 2) (v := (.bool false)) rfl (by kernel_rfl) (by kernel_rfl) (by kernel_rfl) (fun _ _ _ h => h) (Or.inl ⟨by kernel_rfl, fun w' hw => by (go_simp)⟩) hS ?_
    refine wpAnyH_take (i := 3) (v := (.slice (some ⟨R, 0, none⟩) 64 64)) rfl (by kernel_rfl) (by kernel_rfl) (by kernel_rfl) (fun _ _ _ h => h) (Or.inl ⟨by kernel_rfl, fun w' hw => by (go_simp)⟩) hS ?_
    refine wpAnyH_take (i := 4) (v := (.pointer (some ⟨R, 0, none⟩))) rfl (by kernel_rfl) (by kernel_rfl) (by kernel_rfl) (fun _ _ _ h => h) (Or.inl ⟨by kernel_rfl, fun w' hw => by (have e := array_line R 0 64 64 (by omega) w'; go_simp)⟩) hS ?_
    refine wpAnyH_take (i := 5) (v := (.agg (tk.map B8).toArray)) rfl (by kernel_rfl) (by kernel_rfl) (by kernel_rfl) (fun _ _ _ h => h) (yieldsIf_load_mid (by kernel_rfl) 73 (.tmp 26) (by kernel_rfl) R 0 (by kernel_rfl) (tk.map B8) (.array 64 5) (fun w hw => hw.2.1) (by kernel_rfl) rfl (by rw [List.length_map, HTL.out]; kernel_rfl)) hS ?_
    refine wpAnyH_take (i := 6) (v := (.agg #[.int .i64 x, .int .i64 128, .int .i64 32768, .int .i64 32896, .int .i64 q])) rfl (by kernel_rfl) (by kernel_rfl) (by kernel_rfl) (fun _ _ _ h => h) (Or.inl ⟨by kernel_rfl, fun w' hw => by (obtain ⟨_, z9, z0, z1, z2, z3, z4⟩ := hw; go_simp)⟩) hS ?_
    refine wpAnyH_ready (rs := [7]) (by kernel_rfl) (by simp) ?_
    refine AllReadyH.cons rfl (fun K hK => ?_) AllReadyH.nil
    rw [if_pos (by kernel_rfl)]
    go_simp
    go_wp2_with (go_at_call 29; refine (KB.out _).mono ?_; rintro e W3 ⟨rfl, hb3⟩)
    have hw3 := bseq (Below.refl _ (W2.alloc (.cells #[.int .i64 x, .int .i64 128, .int .i64 32768, .int .i64 32896, .int .i64 q] 36))).drew hb3
    refine hK.out _ _ (MK.out _ hw3) (fun hS2 => ?_)
    refine wpAnyH_take (i := 8) (v := (.bool false)) rfl (by kernel_rfl) (by kernel_rfl) (by kernel_rfl) (fun _ _ _ h => h) (Or.inl ⟨by kernel_rfl, fun w' hw => by (have e := l3 w'; go_simp)⟩) hS2 ?_
    refine wpAnyH_take (i := 9) (v := (.bool false)) rfl (by kernel_rfl) (by kernel_rfl) (by kernel_rfl) (fun _ _ _ h => h) (Or.inl ⟨by kernel_rfl, fun w' hw => by (go_simp)⟩) hS2 ?_
    refine wpAnyH_done (by kernel_rfl) ?_ _
    simp only [Act.put, List.getElem_toArray, List.getElem_cons_zero, List.getElem_cons_succ, List.setIfInBounds_toArray, List.set_cons_zero, List.set_cons_succ]
    obtain ⟨_, _, y0, y1, y2, y3, y4⟩ := hS2
    have hbz := MZ.out _ hw3
    obtain ⟨⟨d0, d1, d2, d3, d4⟩, ⟨f0, f1, f2, f3, f4⟩, RR, _, BB⟩ := chain5 hbz.1 (.int .i64 x) (.int .i64 128) (.int .i64 32768) (.int .i64 32896) (.int .i64 q)
    have R9 := hide RR
    have B9 := hide BB
    have BZ := hide hbz.2
    clear RR BB hbz hw3 hb3 hS
    go_wp2_with (fail)
    (try simp only [Exit.inBlock, Exit.then])
    refine bodyPost_ret (results_row_tmp rfl _ _ w.heap.size _ _ _ _ rfl R9.out Try.underlying36 rfl (by kernel_rfl)) rfl ?_
    exact ⟨rfl, B9.out _ _ (Nat.le_refl _) BZ.out⟩
  · rw [if_neg hne]
    have l3 : ∀ W : World, (Op.equalIn 10000 73 (.agg (tk.map B8).toArray) (.agg (sb.map B8).toArray)).run Try.prog W = .ok false W := fun W => by rw [eql_line tk sb W HTL.out HSL.out, decide_eq_false hne]
    clear hne
    go_enter Try.func9, Try.ntmps9
    go_upto_region 5 with (first
      | (go_at_call 27; refine (KL.out _ H0.out).mono ?_; rintro e W1 ⟨R, rfl, hR1, hR2, hR3⟩; have hw1 := H0.out.trans (hR3.mono (by simp)); have hz1 := row_after hR3; have HW1 := hide hw1; have HZ1 := hide hz1; have HR1 := hide hR2; have KZ1 := hide (KZ.out W1 hw1); clear hR1 hR2 hR3 hw1 hz1)
      | (go_at_call 28; refine (KZ1.out).mono ?_; rintro e w' ⟨rfl, hw⟩; obtain rfl := hw.symm)
      | (go_at_call 25; refine (KP.out _).mono ?_; rintro e W2 ⟨rfl, hB2⟩; have HB2 := hide hB2; clear hB2))
    have mk : ∀ W, Below (W2.alloc (.cells #[.int .i64 x, .int .i64 128, .int .i64 32768, .int .i64 32896, .int .i64 q] 36)).heap.size (W2.alloc (.cells #[.int .i64 x, .int .i64 128, .int .i64 32768, .int .i64 32896, .int .i64 q] 36)) W → Below (W2.alloc (.cells #[.int .i64 x, .int .i64 128, .int .i64 32768, .int .i64 32896, .int .i64 q] 36)).heap.size (W2.alloc (.cells #[.int .i64 x, .int .i64 128, .int .i64 32768, .int .i64 32896, .int .i64 q] 36)) W ∧ W.rangeAt R 0 (tk.map B8) ∧ W.cell? ⟨W2.heap.size, 0, none⟩ = some (.int .i64 x) ∧ W.cell? ⟨W2.heap.size, 1, none⟩ = some (.int .i64 128) ∧ W.cell? ⟨W2.heap.size, 2, none⟩ = some (.int .i64 32768) ∧ W.cell? ⟨W2.heap.size, 3, none⟩ = some (.int .i64 32896) ∧ W.cell? ⟨W2.heap.size, 4, none⟩ = some (.int .i64 q) := fun W hB => by
      have hr := row_keep (row_keep (row_keep HR1.out HB2.out) ((Below.refl _ W2).alloc (Nat.le_refl _) _)) hB
      exact ⟨hB, range_all hr, suBox (row_after hB)⟩
    have mz : ∀ W, Below (W2.alloc (.cells #[.int .i64 x, .int .i64 128, .int .i64 32768, .int .i64 32896, .int .i64 q] 36)).heap.size (W2.alloc (.cells #[.int .i64 x, .int .i64 128, .int .i64 32768, .int .i64 32896, .int .i64 q] 36)) W → W.heap[w.heap.size]? = some (.cells #[.int .i64 0, .int .i64 0, .int .i64 0, .int .i64 0, .int .i64 0] 36 (0, 0)) ∧ Below w.heap.size w W := fun W hB => by
      refine ⟨row_keep (row_keep (row_keep HZ1.out HB2.out) ((Below.refl _ W2).alloc (Nat.le_refl _) _)) hB, ?_⟩
      have h5 := HW1.out.trans (HB2.out.mono HW1.out.size)
      have h6 := h5.alloc (o := .cells #[.int .i64 x, .int .i64 128, .int .i64 32768, .int .i64 32896, .int .i64 q] 36) h5.size
      exact h6.trans (hB.mono h6.size)
    have MK := hide mk
    have MZ := hide mz
    clear mk mz
    refine wp_region_held_drew (S := fun W => Below (W2.alloc (.cells #[.int .i64 x, .int .i64 128, .int .i64 32768, .int .i64 32896, .int .i64 q] 36)).heap.size (W2.alloc (.cells #[.int .i64 x, .int .i64 128, .int .i64 32768, .int .i64 32896, .int .i64 q] 36)) W ∧ W.rangeAt R 0 (tk.map B8) ∧ W.cell? ⟨W2.heap.size, 0, none⟩ = some (.int .i64 x) ∧ W.cell? ⟨W2.heap.size, 1, none⟩ = some (.int .i64 128) ∧ W.cell? ⟨W2.heap.size, 2, none⟩ = some (.int .i64 32768) ∧ W.cell? ⟨W2.heap.size, 3, none⟩ = some (.int .i64 32896) ∧ W.cell? ⟨W2.heap.size, 4, none⟩ = some (.int .i64 q)) (by kernel_rfl) (MK.out _ (Below.refl _ _).drew) (fun hS => ?_)
    refine wpAnyH_take (i := 0) (v := (.int .i64 0)) rfl (by kernel_rfl) (by kernel_rfl) (by kernel_rfl) (fun _ _ _ h => h) (Or.inl ⟨by kernel_rfl, fun w' hw => by (go_simp)⟩) hS ?_
    refine wpAnyH_take (i := 1) (v := (.bool false)) rfl (by kernel_rfl) (by kernel_rfl) (by kernel_rfl) (fun _ _ _ h => h) (Or.inl ⟨by kernel_rfl, fun w' hw => by (go_simp)⟩) hS ?_
    refine wpAnyH_take (i := 2) (v := (.bool false)) rfl (by kernel_rfl) (by kernel_rfl) (by kernel_rfl) (fun _ _ _ h => h) (Or.inl ⟨by kernel_rfl, fun w' hw => by (go_simp)⟩) hS ?_
    refine wpAnyH_take (i := 3) (v := (.slice (some ⟨R, 0, none⟩) 64 64)) rfl (by kernel_rfl) (by kernel_rfl) (by kernel_rfl) (fun _ _ _ h => h) (Or.inl ⟨by kernel_rfl, fun w' hw => by (go_simp)⟩) hS ?_
    refine wpAnyH_take (i := 4) (v := (.pointer (some ⟨R, 0, none⟩))) rfl (by kernel_rfl) (by kernel_rfl) (by kernel_rfl) (fun _ _ _ h => h) (Or.inl ⟨by kernel_rfl, fun w' hw => by (have e := array_line R 0 64 64 (by omega) w'; go_simp)⟩) hS ?_
    refine wpAnyH_take (i := 5) (v := (.agg (tk.map B8).toArray)) rfl (by kernel_rfl) (by kernel_rfl) (by kernel_rfl) (fun _ _ _ h => h) (yieldsIf_load_mid (by kernel_rfl) 73 (.tmp 26) (by kernel_rfl) R 0 (by kernel_rfl) (tk.map B8) (.array 64 5) (fun w hw => hw.2.1) (by kernel_rfl) rfl (by rw [List.length_map, HTL.out]; kernel_rfl)) hS ?_
    refine wpAnyH_take (i := 6) (v := (.agg #[.int .i64 x, .int .i64 128, .int .i64 32768, .int .i64 32896, .int .i64 q])) rfl (by kernel_rfl) (by kernel_rfl) (by kernel_rfl) (fun _ _ _ h => h) (Or.inl ⟨by kernel_rfl, fun w' hw => by (obtain ⟨_, z9, z0, z1, z2, z3, z4⟩ := hw; go_simp)⟩) hS ?_
    refine wpAnyH_ready (rs := [7]) (by kernel_rfl) (by simp) ?_
    refine AllReadyH.cons rfl (fun K hK => ?_) AllReadyH.nil
    rw [if_pos (by kernel_rfl)]
    go_simp
    go_wp2_with (go_at_call 29; refine (KB.out _).mono ?_; rintro e W3 ⟨rfl, hb3⟩)
    have hw3 := bseq (Below.refl _ (W2.alloc (.cells #[.int .i64 x, .int .i64 128, .int .i64 32768, .int .i64 32896, .int .i64 q] 36))).drew hb3
    refine hK.out _ _ (MK.out _ hw3) (fun hS2 => ?_)
    refine wpAnyH_take (i := 8) (v := (.bool true)) rfl (by kernel_rfl) (by kernel_rfl) (by kernel_rfl) (fun _ _ _ h => h) (Or.inl ⟨by kernel_rfl, fun w' hw => by (have e := l3 w'; go_simp)⟩) hS2 ?_
    refine wpAnyH_take (i := 9) (v := (.bool true)) rfl (by kernel_rfl) (by kernel_rfl) (by kernel_rfl) (fun _ _ _ h => h) (Or.inl ⟨by kernel_rfl, fun w' hw => by (go_simp)⟩) hS2 ?_
    refine wpAnyH_done (by kernel_rfl) ?_ _
    simp only [Act.put, List.getElem_toArray, List.getElem_cons_zero, List.getElem_cons_succ, List.setIfInBounds_toArray, List.set_cons_zero, List.set_cons_succ]
    obtain ⟨_, _, y0, y1, y2, y3, y4⟩ := hS2
    have hbz := MZ.out _ hw3
    obtain ⟨⟨d0, d1, d2, d3, d4⟩, ⟨f0, f1, f2, f3, f4⟩, RR, _, BB⟩ := chain5 hbz.1 (.int .i64 0) (.int .i64 0) (.int .i64 0) (.int .i64 0) (.int .i64 0)
    have R9 := hide RR
    have B9 := hide BB
    have BZ := hide hbz.2
    clear RR BB hbz hw3 hb3 hS
    go_wp2_with (fail)
    (try simp only [Exit.inBlock, Exit.then])
    refine bodyPost_ret (results_row_tmp rfl _ _ w.heap.size _ _ _ _ rfl R9.out Try.underlying36 rfl (by kernel_rfl)) rfl ?_
    exact ⟨rfl, B9.out _ _ (Nat.le_refl _) BZ.out⟩
end
end Go.Proofs.Ytmlhibkofalamaa
