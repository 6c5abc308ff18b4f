/- What the document's Join answers, of two tallies that may be and whose bytes together are an int. -/
import Derived.Test.YtojbclifafmllaaTRj
namespace Go.Proofs.Ytojbclifafmllaa
open Go.RowKit
set_option linter.unusedVariables false

set_option maxRecDepth 100000 in
set_option maxHeartbeats 4000000 in
theorem refJoin_yes (ab ac al : Int) (ah at' : ByteArray) (bb bc bl' : Int) (bh bt : ByteArray) (w : World) (hab : ab ≤ 9223372036854775807) (hbb : bb ≤ 9223372036854775807) (ha : mayT ab ac al ah at' = true) (hb : mayT bb bc bl' bh bt = true) (hsm : ab ≤ 9223372036854775807 - bb) :
    Calls Try.prog 25 #[(.agg #[.int .i64 ab, .int .i64 ac, .int .i64 al, .string ah, .string at']), (.agg #[.int .i64 bb, .int .i64 bc, .int .i64 bl', .string bh, .string bt])] w fun e w' => e = .returned (.tuple #[(if mayT (ab + bb) (ac + bc + (seamT at' bh).1) (jL al bl' (seamT at' bh).2) (jH ah bh) (jT at' bt) = true then .agg #[.int .i64 (ab + bb), .int .i64 (ac + bc + (seamT at' bh).1), .int .i64 (jL al bl' (seamT at' bh).2), .string (jH ah bh), .string (jT at' bt)] else (.agg #[.int .i64 0, .int .i64 0, .int .i64 0, .string ⟨#[]⟩, .string ⟨#[]⟩])), .int .i64 (okE (mayT (ab + bb) (ac + bc + (seamT at' bh).1) (jL al bl' (seamT at' bh).2) (jH ah bh) (jT at' bt)))]) ∧ Below w.heap.size w w' := by
  have KS := hide (fun w => refSeam_yes ab ac al ah at' bb bc bl' bh bt w hab hbb ha hb)
  have K2 := hide (fun W hB => two_boxes w W ab ac al ah at' bb bc bl' bh bt hB)
  have h0 := may_sizes hb
  have h1 := may_sizes ha
  have hsc := seam_counts (bl at') (bl bh)
  have hD : (seamT at' bh).1 = (seamV (bl at') (bl bh)).1 := rfl
  have hM : (seamT at' bh).2 = (seamV (bl at') (bl bh)).2 := rfl
  have hw1 : IntKind.i64.wrap (9223372036854775807 - bb) = 9223372036854775807 - bb := by rw [IntKind.wrap_i64]; omega
  have hw2 : IntKind.i64.wrap (ab + bb) = ab + bb := by rw [IntKind.wrap_i64]; omega
  have hw3 : IntKind.i64.wrap (ac + bc) = ac + bc := by rw [IntKind.wrap_i64]; omega
  have hw4 : IntKind.i64.wrap (ac + bc + (seamT at' bh).1) = ac + bc + (seamT at' bh).1 := by rw [IntKind.wrap_i64]; omega
  have hw5 : IntKind.i64.wrap (al + bl') = al + bl' := by rw [IntKind.wrap_i64]; omega
  have hw6 : IntKind.i64.wrap (al + bl' + (seamT at' bh).2) = jL al bl' (seamT at' bh).2 := rfl
  have KH := hide (fun w => refHead_b (ah ++ bh) w)
  have KT := hide (fun w => refTail_b (at' ++ bt) w (by rw [ByteArray.size_append]; omega))
  have KC := hide (fun w => refMay_any (ab + bb) (ac + bc + (seamT at' bh).1) (jL al bl' (seamT at' bh).2) (jH ah bh) (jT at' bt) w (by omega))
  have ad1 := fun w => run_string_add_sum (P := Try.prog) w ah bh (by omega)
  have ad2 := fun w => run_string_add_sum (P := Try.prog) w at' bt (by omega)
  have eH : hd (ah ++ bh) = jH ah bh := rfl
  have eT : tl (at' ++ bt) = jT at' bt := rfl
  rw [eH] at KH
  rw [eT] at KT
  have hD3 : -3 ≤ (seamT at' bh).1 ∧ (seamT at' bh).1 ≤ 0 := by omega
  clear hsc hD hM eH eT
  generalize (seamT at' bh).1 = D at *
  generalize (seamT at' bh).2 = M at *
  generalize jL al bl' M = L at *
  generalize jH ah bh = H at *
  generalize jT at' bt = T at *
  generalize mayT (ab + bb) (ac + bc + D) L H T = g at *
  have hlo : 0 ≤ bb := by omega
  have nbig : decide (9223372036854775807 - bb < ab) = false := decide_eq_false (by omega)
  clear ha hb h0 h1
  go_enter Try.func25, Try.ntmps25
  go_wp2_with (go_at_call 24; refine (KS.out _).mono ?_; rintro e w1 ⟨rfl, hB⟩; obtain ⟨⟨q0, q1, q2, q3, q4⟩, ⟨p0, p1, p2, p3, p4⟩, _⟩ := K2.out _ (bseq ((Below.refl _ _).alloc (Nat.le_refl _) _) hB))
  have hlt1 : w.heap.size + 1 < w1.heap.size := by have := hB.size; simp at this; omega
  have mk : ∀ W, Below w1.heap.size w1 W → (Below w1.heap.size w1 W ∧ W.cell? ⟨w.heap.size, 0, none⟩ = some (.int .i64 ab) ∧ W.cell? ⟨w.heap.size, 1, none⟩ = some (.int .i64 ac) ∧ W.cell? ⟨w.heap.size, 2, none⟩ = some (.int .i64 al) ∧ W.cell? ⟨w.heap.size, 3, none⟩ = some (.string ah) ∧ W.cell? ⟨w.heap.size, 4, none⟩ = some (.string at') ∧ W.cell? ⟨w.heap.size + 1, 0, none⟩ = some (.int .i64 bb) ∧ W.cell? ⟨w.heap.size + 1, 1, none⟩ = some (.int .i64 bc) ∧ W.cell? ⟨w.heap.size + 1, 2, none⟩ = some (.int .i64 bl') ∧ W.cell? ⟨w.heap.size + 1, 3, none⟩ = some (.string bh) ∧ W.cell? ⟨w.heap.size + 1, 4, none⟩ = some (.string bt)) := fun W h =>
    ⟨h, cell_below q0 h (by simp; omega), cell_below q1 h (by simp; omega), cell_below q2 h (by simp; omega), cell_below q3 h (by simp; omega), cell_below q4 h (by simp; omega), cell_below p0 h (by simp; omega), cell_below p1 h (by simp; omega), cell_below p2 h (by simp; omega), cell_below p3 h (by simp; omega), cell_below p4 h (by simp; omega)⟩
  have MK := hide mk
  clear mk
  go_cut [9] (fun p wx => ∃ B9 : Nat, p = .pointer (some ⟨B9, 0, none⟩) ∧ w1.heap.size ≤ B9 ∧ wx.heap[B9]? = some (.cells #[.int .i64 (ab + bb), .int .i64 (ac + bc + D), .int .i64 L, .string H, .string T] 24 (0, 0)) ∧ Below w1.heap.size w1 wx)
  case first =>
    clear KS KC K2
    refine wp_region_held_drew (S := (fun w' => Below w1.heap.size w1 w' ∧ w'.cell? ⟨w.heap.size, 0, none⟩ = some (.int .i64 ab) ∧ w'.cell? ⟨w.heap.size, 1, none⟩ = some (.int .i64 ac) ∧ w'.cell? ⟨w.heap.size, 2, none⟩ = some (.int .i64 al) ∧ w'.cell? ⟨w.heap.size, 3, none⟩ = some (.string ah) ∧ w'.cell? ⟨w.heap.size, 4, none⟩ = some (.string at') ∧ w'.cell? ⟨w.heap.size + 1, 0, none⟩ = some (.int .i64 bb) ∧ w'.cell? ⟨w.heap.size + 1, 1, none⟩ = some (.int .i64 bc) ∧ w'.cell? ⟨w.heap.size + 1, 2, none⟩ = some (.int .i64 bl') ∧ w'.cell? ⟨w.heap.size + 1, 3, none⟩ = some (.string bh) ∧ w'.cell? ⟨w.heap.size + 1, 4, none⟩ = some (.string bt))) (by kernel_rfl) (MK.out _ (Below.refl _ _).drew) (fun hS => ?_)
    refine wpAnyH_take (i := 0) (v := .pointer (some ⟨w.heap.size, 0, none⟩)) rfl (by kernel_rfl) (by kernel_rfl) (by kernel_rfl) (fun _ _ _ h => h) (Or.inl ⟨by kernel_rfl, fun w' hw => by (obtain ⟨_, z0, z1, z2, z3, z4, y0, y1, y2, y3, y4⟩ := hw; go_simp)⟩) hS ?_
    refine wpAnyH_take (i := 1) (v := .int .i64 ab) rfl (by kernel_rfl) (by kernel_rfl) (by kernel_rfl) (fun _ _ _ h => h) (Or.inl ⟨by kernel_rfl, fun w' hw => by (obtain ⟨_, z0, z1, z2, z3, z4, y0, y1, y2, y3, y4⟩ := hw; go_simp)⟩) hS ?_
    refine wpAnyH_take (i := 2) (v := .pointer (some ⟨w.heap.size + 1, 0, none⟩)) rfl (by kernel_rfl) (by kernel_rfl) (by kernel_rfl) (fun _ _ _ h => h) (Or.inl ⟨by kernel_rfl, fun w' hw => by (obtain ⟨_, z0, z1, z2, z3, z4, y0, y1, y2, y3, y4⟩ := hw; go_simp)⟩) hS ?_
    refine wpAnyH_take (i := 3) (v := .int .i64 bb) rfl (by kernel_rfl) (by kernel_rfl) (by kernel_rfl) (fun _ _ _ h => h) (Or.inl ⟨by kernel_rfl, fun w' hw => by (obtain ⟨_, z0, z1, z2, z3, z4, y0, y1, y2, y3, y4⟩ := hw; go_simp)⟩) hS ?_
    refine wpAnyH_take (i := 4) (v := .int .i64 (ab + bb)) rfl (by kernel_rfl) (by kernel_rfl) (by kernel_rfl) (fun _ _ _ h => h) (Or.inl ⟨by kernel_rfl, fun w' hw => by (obtain ⟨_, z0, z1, z2, z3, z4, y0, y1, y2, y3, y4⟩ := hw; go_simp)⟩) hS ?_
    refine wpAnyH_take (i := 5) (v := .pointer (some ⟨w.heap.size, 1, none⟩)) rfl (by kernel_rfl) (by kernel_rfl) (by kernel_rfl) (fun _ _ _ h => h) (Or.inl ⟨by kernel_rfl, fun w' hw => by (obtain ⟨_, z0, z1, z2, z3, z4, y0, y1, y2, y3, y4⟩ := hw; go_simp)⟩) hS ?_
    refine wpAnyH_take (i := 6) (v := .int .i64 ac) rfl (by kernel_rfl) (by kernel_rfl) (by kernel_rfl) (fun _ _ _ h => h) (Or.inl ⟨by kernel_rfl, fun w' hw => by (obtain ⟨_, z0, z1, z2, z3, z4, y0, y1, y2, y3, y4⟩ := hw; go_simp)⟩) hS ?_
    refine wpAnyH_take (i := 7) (v := .pointer (some ⟨w.heap.size + 1, 1, none⟩)) rfl (by kernel_rfl) (by kernel_rfl) (by kernel_rfl) (fun _ _ _ h => h) (Or.inl ⟨by kernel_rfl, fun w' hw => by (obtain ⟨_, z0, z1, z2, z3, z4, y0, y1, y2, y3, y4⟩ := hw; go_simp)⟩) hS ?_
    refine wpAnyH_take (i := 8) (v := .int .i64 bc) rfl (by kernel_rfl) (by kernel_rfl) (by kernel_rfl) (fun _ _ _ h => h) (Or.inl ⟨by kernel_rfl, fun w' hw => by (obtain ⟨_, z0, z1, z2, z3, z4, y0, y1, y2, y3, y4⟩ := hw; go_simp)⟩) hS ?_
    refine wpAnyH_take (i := 9) (v := .int .i64 (ac + bc)) rfl (by kernel_rfl) (by kernel_rfl) (by kernel_rfl) (fun _ _ _ h => h) (Or.inl ⟨by kernel_rfl, fun w' hw => by (obtain ⟨_, z0, z1, z2, z3, z4, y0, y1, y2, y3, y4⟩ := hw; go_simp)⟩) hS ?_
    refine wpAnyH_take (i := 10) (v := .int .i64 D) rfl (by kernel_rfl) (by kernel_rfl) (by kernel_rfl) (fun _ _ _ h => h) (Or.inl ⟨by kernel_rfl, fun w' hw => by (obtain ⟨_, z0, z1, z2, z3, z4, y0, y1, y2, y3, y4⟩ := hw; go_simp)⟩) hS ?_
    refine wpAnyH_take (i := 11) (v := .int .i64 (ac + bc + D)) rfl (by kernel_rfl) (by kernel_rfl) (by kernel_rfl) (fun _ _ _ h => h) (Or.inl ⟨by kernel_rfl, fun w' hw => by (obtain ⟨_, z0, z1, z2, z3, z4, y0, y1, y2, y3, y4⟩ := hw; go_simp)⟩) hS ?_
    refine wpAnyH_take (i := 12) (v := .pointer (some ⟨w.heap.size, 2, none⟩)) rfl (by kernel_rfl) (by kernel_rfl) (by kernel_rfl) (fun _ _ _ h => h) (Or.inl ⟨by kernel_rfl, fun w' hw => by (obtain ⟨_, z0, z1, z2, z3, z4, y0, y1, y2, y3, y4⟩ := hw; go_simp)⟩) hS ?_
    refine wpAnyH_take (i := 13) (v := .int .i64 al) rfl (by kernel_rfl) (by kernel_rfl) (by kernel_rfl) (fun _ _ _ h => h) (Or.inl ⟨by kernel_rfl, fun w' hw => by (obtain ⟨_, z0, z1, z2, z3, z4, y0, y1, y2, y3, y4⟩ := hw; go_simp)⟩) hS ?_
    refine wpAnyH_take (i := 14) (v := .pointer (some ⟨w.heap.size + 1, 2, none⟩)) rfl (by kernel_rfl) (by kernel_rfl) (by kernel_rfl) (fun _ _ _ h => h) (Or.inl ⟨by kernel_rfl, fun w' hw => by (obtain ⟨_, z0, z1, z2, z3, z4, y0, y1, y2, y3, y4⟩ := hw; go_simp)⟩) hS ?_
    refine wpAnyH_take (i := 15) (v := .int .i64 bl') rfl (by kernel_rfl) (by kernel_rfl) (by kernel_rfl) (fun _ _ _ h => h) (Or.inl ⟨by kernel_rfl, fun w' hw => by (obtain ⟨_, z0, z1, z2, z3, z4, y0, y1, y2, y3, y4⟩ := hw; go_simp)⟩) hS ?_
    refine wpAnyH_take (i := 16) (v := .int .i64 (al + bl')) rfl (by kernel_rfl) (by kernel_rfl) (by kernel_rfl) (fun _ _ _ h => h) (Or.inl ⟨by kernel_rfl, fun w' hw => by (obtain ⟨_, z0, z1, z2, z3, z4, y0, y1, y2, y3, y4⟩ := hw; go_simp)⟩) hS ?_
    refine wpAnyH_take (i := 17) (v := .int .i64 M) rfl (by kernel_rfl) (by kernel_rfl) (by kernel_rfl) (fun _ _ _ h => h) (Or.inl ⟨by kernel_rfl, fun w' hw => by (obtain ⟨_, z0, z1, z2, z3, z4, y0, y1, y2, y3, y4⟩ := hw; go_simp)⟩) hS ?_
    refine wpAnyH_take (i := 18) (v := .int .i64 L) rfl (by kernel_rfl) (by kernel_rfl) (by kernel_rfl) (fun _ _ _ h => h) (Or.inl ⟨by kernel_rfl, fun w' hw => by (obtain ⟨_, z0, z1, z2, z3, z4, y0, y1, y2, y3, y4⟩ := hw; go_simp)⟩) hS ?_
    refine wpAnyH_take (i := 19) (v := .pointer (some ⟨w.heap.size, 3, none⟩)) rfl (by kernel_rfl) (by kernel_rfl) (by kernel_rfl) (fun _ _ _ h => h) (Or.inl ⟨by kernel_rfl, fun w' hw => by (obtain ⟨_, z0, z1, z2, z3, z4, y0, y1, y2, y3, y4⟩ := hw; go_simp)⟩) hS ?_
    refine wpAnyH_take (i := 20) (v := .string ah) rfl (by kernel_rfl) (by kernel_rfl) (by kernel_rfl) (fun _ _ _ h => h) (Or.inl ⟨by kernel_rfl, fun w' hw => by (obtain ⟨_, z0, z1, z2, z3, z4, y0, y1, y2, y3, y4⟩ := hw; go_simp)⟩) hS ?_
    refine wpAnyH_take (i := 21) (v := .pointer (some ⟨w.heap.size + 1, 3, none⟩)) rfl (by kernel_rfl) (by kernel_rfl) (by kernel_rfl) (fun _ _ _ h => h) (Or.inl ⟨by kernel_rfl, fun w' hw => by (obtain ⟨_, z0, z1, z2, z3, z4, y0, y1, y2, y3, y4⟩ := hw; go_simp)⟩) hS ?_
    refine wpAnyH_take (i := 22) (v := .string bh) rfl (by kernel_rfl) (by kernel_rfl) (by kernel_rfl) (fun _ _ _ h => h) (Or.inl ⟨by kernel_rfl, fun w' hw => by (obtain ⟨_, z0, z1, z2, z3, z4, y0, y1, y2, y3, y4⟩ := hw; go_simp)⟩) hS ?_
    refine wpAnyH_take (i := 23) (v := .string (ah ++ bh)) rfl (by kernel_rfl) (by kernel_rfl) (by kernel_rfl) (fun _ _ _ h => h) (Or.inl ⟨by kernel_rfl, fun w' hw => by (obtain ⟨_, z0, z1, z2, z3, z4, y0, y1, y2, y3, y4⟩ := hw; go_simp)⟩) hS ?_
    refine wpAnyH_take (i := 25) (v := .pointer (some ⟨w.heap.size, 4, none⟩)) rfl (by kernel_rfl) (by kernel_rfl) (by kernel_rfl) (fun _ _ _ h => h) (Or.inl ⟨by kernel_rfl, fun w' hw => by (obtain ⟨_, z0, z1, z2, z3, z4, y0, y1, y2, y3, y4⟩ := hw; go_simp)⟩) hS ?_
    refine wpAnyH_take (i := 26) (v := .string at') rfl (by kernel_rfl) (by kernel_rfl) (by kernel_rfl) (fun _ _ _ h => h) (Or.inl ⟨by kernel_rfl, fun w' hw => by (obtain ⟨_, z0, z1, z2, z3, z4, y0, y1, y2, y3, y4⟩ := hw; go_simp)⟩) hS ?_
    refine wpAnyH_take (i := 27) (v := .pointer (some ⟨w.heap.size + 1, 4, none⟩)) rfl (by kernel_rfl) (by kernel_rfl) (by kernel_rfl) (fun _ _ _ h => h) (Or.inl ⟨by kernel_rfl, fun w' hw => by (obtain ⟨_, z0, z1, z2, z3, z4, y0, y1, y2, y3, y4⟩ := hw; go_simp)⟩) hS ?_
    refine wpAnyH_take (i := 28) (v := .string bt) rfl (by kernel_rfl) (by kernel_rfl) (by kernel_rfl) (fun _ _ _ h => h) (Or.inl ⟨by kernel_rfl, fun w' hw => by (obtain ⟨_, z0, z1, z2, z3, z4, y0, y1, y2, y3, y4⟩ := hw; go_simp)⟩) hS ?_
    refine wpAnyH_take (i := 29) (v := .string (at' ++ bt)) rfl (by kernel_rfl) (by kernel_rfl) (by kernel_rfl) (fun _ _ _ h => h) (Or.inl ⟨by kernel_rfl, fun w' hw => by (obtain ⟨_, z0, z1, z2, z3, z4, y0, y1, y2, y3, y4⟩ := hw; go_simp)⟩) hS ?_
    refine wpAnyH_ready (rs := [24, 32]) (by kernel_rfl) (by simp) ?_
    refine AllReadyH.cons rfl (fun K hK => ?_) (AllReadyH.cons rfl (fun K hK => ?_) AllReadyH.nil)
    · rw [if_pos (by kernel_rfl)]
      go_simp
      go_wp2_with (go_at_call 22; refine (KH.out _).mono ?_; rintro e w2 ⟨rfl, hB2⟩)
      have hW2 : Below w1.heap.size w1 w2 := bseq ((Below.refl _ w1).drew) hB2
      refine hK.out _ _ (MK.out _ hW2) (fun _ => ?_)
      refine wpAnyH_ready (rs := [30, 32]) (by kernel_rfl) (by simp) ?_
      refine AllReadyH.cons rfl (fun K hK => ?_) (AllReadyH.cons rfl (fun K hK => ?_) AllReadyH.nil)
      · rw [if_pos (by kernel_rfl)]
        go_simp
        go_wp2_with (go_at_call 23; refine (KT.out _).mono ?_; rintro e w3 ⟨rfl, hB3⟩)
        have hW3 : Below w1.heap.size w1 w3 := bseq hW2 hB3
        refine hK.out _ _ (MK.out _ hW3) (fun hS3 => ?_)
        refine wpAnyH_take (i := 31) (v := (.agg #[.int .i64 (ab + bb), .int .i64 (ac + bc + D), .int .i64 L, .string H, .string T])) rfl (by kernel_rfl) (by kernel_rfl) (by kernel_rfl) (fun _ _ _ h => h) (Or.inl ⟨by kernel_rfl, fun w' hw => by (clear hw; go_simp)⟩) hS3 ?_
        refine wpAnyH_ready (rs := [32]) (by kernel_rfl) (by simp) ?_
        refine AllReadyH.cons rfl (fun K hK => ?_) AllReadyH.nil
        rw [if_pos (by kernel_rfl)]
        go_simp
        refine hK.out _ _ (MK.out _ (hW3.alloc hW3.size _)) (fun _ => ?_)
        refine wpAnyH_ready (rs := [33]) (by kernel_rfl) (by simp) ?_
        refine AllReadyH.cons rfl (fun K hK => ?_) AllReadyH.nil
        rw [if_pos (by kernel_rfl)]
        go_simp
        refine hK.out _ _ (MK.out _ (hW3.alloc hW3.size _)) (fun _ => ?_)
        refine wpAnyH_done (by kernel_rfl) ?_ _
        go_wp2
        go_meet
        exact ⟨_, rfl, hW3.size, heap_alloc_new _ _, hW3.alloc hW3.size _⟩
      · rw [if_pos (by kernel_rfl)]
        go_simp
        refine hK.out _ _ (MK.out _ (hW2.alloc hW2.size _)) (fun _ => ?_)
        refine wpAnyH_ready (rs := [30]) (by kernel_rfl) (by simp) ?_
        refine AllReadyH.cons rfl (fun K hK => ?_) AllReadyH.nil
        rw [if_pos (by kernel_rfl)]
        go_simp
        go_wp2_with (go_at_call 23; refine (KT.out _).mono ?_; rintro e w3 ⟨rfl, hB3⟩)
        have hW3 : Below w1.heap.size w1 w3 := bseq (hW2.alloc hW2.size _) hB3
        refine hK.out _ _ (MK.out _ hW3) (fun hS3 => ?_)
        have hz3 : w3.heap[w2.heap.size]? = some (.cells #[.int .i64 0, .int .i64 0, .int .i64 0, .string ⟨#[]⟩, .string ⟨#[]⟩] 24 (0, 0)) := row_after hB3
        refine wpAnyH_take (i := 31) (v := (.agg #[.int .i64 (ab + bb), .int .i64 (ac + bc + D), .int .i64 L, .string H, .string T])) rfl (by kernel_rfl) (by kernel_rfl) (by kernel_rfl) (fun _ _ _ h => h) (Or.inl ⟨by kernel_rfl, fun w' hw => by (clear hw; go_simp)⟩) hS3 ?_
        obtain ⟨⟨d0, d1, d2, d3, d4⟩, ⟨f0, f1, f2, f3, f4⟩, R, _, BB⟩ := chain5 hz3 (.int .i64 (ab + bb)) (.int .i64 (ac + bc + D)) (.int .i64 L) (.string H) (.string T)
        have HR := hide R
        have HBB := hide BB
        clear R BB
        refine wpAnyH_ready (rs := [33]) (by kernel_rfl) (by simp) ?_
        refine AllReadyH.cons rfl (fun K hK => ?_) AllReadyH.nil
        rw [if_pos (by kernel_rfl)]
        go_simp
        refine hK.out _ _ (MK.out _ (HBB.out _ _ hW2.size hW3)) (fun _ => ?_)
        refine wpAnyH_done (by kernel_rfl) ?_ _
        go_wp2
        go_meet
        exact ⟨_, rfl, hW2.size, HR.out, HBB.out _ _ hW2.size hW3⟩
    · rw [if_pos (by kernel_rfl)]
      go_simp
      refine hK.out _ _ (MK.out _ ((Below.refl _ w1).drew.alloc (Nat.le_refl _) _)) (fun _ => ?_)
      refine wpAnyH_ready (rs := [24]) (by kernel_rfl) (by simp) ?_
      refine AllReadyH.cons rfl (fun K hK => ?_) AllReadyH.nil
      rw [if_pos (by kernel_rfl)]
      go_simp
      go_wp2_with (go_at_call 22; refine (KH.out _).mono ?_; rintro e w2 ⟨rfl, hB2⟩)
      have hW2 : Below w1.heap.size w1 w2 := bseq (((Below.refl _ w1).alloc (Nat.le_refl _) _).drew) hB2
      have hz2 : w2.heap[w1.heap.size]? = some (.cells #[.int .i64 0, .int .i64 0, .int .i64 0, .string ⟨#[]⟩, .string ⟨#[]⟩] 24 (0, 0)) := row_after_drew hB2
      refine hK.out _ _ (MK.out _ hW2) (fun _ => ?_)
      refine wpAnyH_ready (rs := [30]) (by kernel_rfl) (by simp) ?_
      refine AllReadyH.cons rfl (fun K hK => ?_) AllReadyH.nil
      rw [if_pos (by kernel_rfl)]
      go_simp
      go_wp2_with (go_at_call 23; refine (KT.out _).mono ?_; rintro e w3 ⟨rfl, hB3⟩)
      have hW3 : Below w1.heap.size w1 w3 := bseq hW2 hB3
      have hz3 : w3.heap[w1.heap.size]? = some (.cells #[.int .i64 0, .int .i64 0, .int .i64 0, .string ⟨#[]⟩, .string ⟨#[]⟩] 24 (0, 0)) := row_keep hz2 hB3
      refine hK.out _ _ (MK.out _ hW3) (fun hS3 => ?_)
      refine wpAnyH_take (i := 31) (v := (.agg #[.int .i64 (ab + bb), .int .i64 (ac + bc + D), .int .i64 L, .string H, .string T])) rfl (by kernel_rfl) (by kernel_rfl) (by kernel_rfl) (fun _ _ _ h => h) (Or.inl ⟨by kernel_rfl, fun w' hw => by (clear hw; go_simp)⟩) hS3 ?_
      obtain ⟨⟨d0, d1, d2, d3, d4⟩, ⟨f0, f1, f2, f3, f4⟩, R, _, BB⟩ := chain5 hz3 (.int .i64 (ab + bb)) (.int .i64 (ac + bc + D)) (.int .i64 L) (.string H) (.string T)
      have HR := hide R
      have HBB := hide BB
      clear R BB
      refine wpAnyH_ready (rs := [33]) (by kernel_rfl) (by simp) ?_
      refine AllReadyH.cons rfl (fun K hK => ?_) AllReadyH.nil
      rw [if_pos (by kernel_rfl)]
      go_simp
      refine hK.out _ _ (MK.out _ (HBB.out _ _ (Nat.le_refl _) hW3)) (fun _ => ?_)
      refine wpAnyH_done (by kernel_rfl) ?_ _
      go_wp2
      go_meet
      exact ⟨_, rfl, (Nat.le_refl _), HR.out, HBB.out _ _ (Nat.le_refl _) hW3⟩
  case rest =>
    obtain ⟨B9, rfl, hb9, hrow, hBx⟩ := hcut
    have hBa : Below w.heap.size w wc := bseq (bseq ((((Below.refl _ w).alloc (Nat.le_refl _) _).alloc (by simp) _).alloc (by simp; omega) _) hB) hBx
    have hrow4 : wc.heap[w.heap.size + 2]? = some (.cells #[.int .i64 0, .int .i64 0, .int .i64 0, .string ⟨#[]⟩, .string ⟨#[]⟩] 24 (0, 0)) := row_keep (third_row w w1 _ _ _ hB) hBx
    obtain ⟨c0, c1, c2, c3, c4⟩ := box_at hrow
    have HROW := hide hrow
    have HROW4 := hide hrow4
    clear hrow hrow4 KS K2 MK KH KT ad1 ad2 q0 q1 q2 q3 q4 p0 p1 p2 p3 p4
    cases g
    · have e2 : okE false = 30 := rfl
      go_wp2_with (go_at_call 38; refine (KC.out _).mono ?_; rintro e w5 ⟨rfl, hB5⟩; obtain ⟨⟨d0, d1, d2, d3, d4⟩, ⟨f0, f1, f2, f3, f4⟩, R, _, BB⟩ := chain5 (row_keep HROW4.out hB5) (.int .i64 0) (.int .i64 0) (.int .i64 0) (.string ⟨#[]⟩) (.string ⟨#[]⟩); replace R := hide R; replace BB := hide BB)
      (try simp only [Exit.inBlock, Exit.then])
      refine bodyPost_ret (results_row_tmp rfl _ _ (w.heap.size + 2) _ _ _ _ rfl R.out Try.underlying24 rfl (by kernel_rfl)) rfl ?_
      exact ⟨rfl, BB.out _ _ (by omega) (bseq hBa hB5)⟩
    · have e2 : okE true = 0 := rfl
      go_wp2_with (go_at_call 38; refine (KC.out _).mono ?_; rintro e w5 ⟨rfl, hB5⟩; obtain ⟨⟨d0, d1, d2, d3, d4⟩, ⟨f0, f1, f2, f3, f4⟩, R, _, BB⟩ := chain5 (row_keep HROW4.out hB5) (.int .i64 (ab + bb)) (.int .i64 (ac + bc + D)) (.int .i64 L) (.string H) (.string T); replace R := hide R; replace BB := hide BB; obtain ⟨x0, x1, x2, x3, x4⟩ := box_at (row_keep HROW.out hB5))
      (try simp only [Exit.inBlock, Exit.then])
      refine bodyPost_ret (results_row_tmp rfl _ _ (w.heap.size + 2) _ _ _ _ rfl R.out Try.underlying24 rfl (by kernel_rfl)) rfl ?_
      exact ⟨rfl, BB.out _ _ (by omega) (bseq hBa hB5)⟩
end Go.Proofs.Ytojbclifafmllaa
