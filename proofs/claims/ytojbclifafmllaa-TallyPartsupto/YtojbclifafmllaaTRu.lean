/- What the document's Sum answers, of every list of tallies. -/
import Derived.Test.YtojbclifafmllaaTSu
import Derived.Test.YtojbclifafmllaaTJoW
import Derived.Deep.DeepCutAuto
namespace Go.Proofs.Ytojbclifafmllaa
open Go.RowKit
set_option linter.unusedVariables false

set_option maxRecDepth 100000 in
set_option maxHeartbeats 10000000 in
theorem refSum_any (a : Option Addr) (cap : Nat) (xs : List (Int × Int × Int × ByteArray × ByteArray)) (w : World) (hx : SlT w a xs) (hb : ∀ x ∈ xs, x.1 ≤ 9223372036854775807) (hl : xs.length ≤ 9223372036854775807) :
    Calls Try.prog 27 #[.slice a xs.length cap] w fun e w' => e = .returned (.tuple #[tv (sumV zT xs).1, .int .i64 (sumV zT xs).2]) ∧ Below w.heap.size w w' := by
  have HX := hide hx
  have HBD := hide hb
  clear hx hb
  have hrs : ((w.alloc (.cells #[.int .i64 0, .int .i64 0, .int .i64 0, .string ⟨#[]⟩, .string ⟨#[]⟩] 24)).alloc (.cells #[.int .i64 0, .int .i64 0, .int .i64 0, .string ⟨#[]⟩, .string ⟨#[]⟩] 24)).heap[w.heap.size]? = some (.cells #[.int .i64 0, .int .i64 0, .int .i64 0, .string ⟨#[]⟩, .string ⟨#[]⟩] 24 (0, 0)) := by
    rw [Below.heap_alloc _ _ _ (by simp)]
    exact heap_alloc_new w _
  have hra := heap_alloc2_new w (.cells #[.int .i64 0, .int .i64 0, .int .i64 0, .string ⟨#[]⟩, .string ⟨#[]⟩] 24) (.cells #[.int .i64 0, .int .i64 0, .int .i64 0, .string ⟨#[]⟩, .string ⟨#[]⟩] 24)
  have hBb : Below w.heap.size w ((w.alloc (.cells #[.int .i64 0, .int .i64 0, .int .i64 0, .string ⟨#[]⟩, .string ⟨#[]⟩] 24)).alloc (.cells #[.int .i64 0, .int .i64 0, .int .i64 0, .string ⟨#[]⟩, .string ⟨#[]⟩] 24)) := ((Below.refl _ w).alloc (Nat.le_refl _) _).alloc (by simp) _
  have HRS := hide hrs
  have HRA := hide hra
  have HBB := hide hBb
  clear hrs hra hBb
  go_enter Try.func27, Try.ntmps27
  go_wp2_with (fail)
  go_loopw [5] (fun i wr => ∃ (k : Nat) (ab ac al : Int) (ah at' : ByteArray), i = .int .i64 k ∧ k ≤ xs.length ∧ ab ≤ 9223372036854775807 ∧ sumV (ab, ac, al, ah, at') (xs.drop k) = sumV zT xs ∧
      wr.heap[w.heap.size]? = some (.cells #[.int .i64 0, .int .i64 0, .int .i64 0, .string ⟨#[]⟩, .string ⟨#[]⟩] 24 (0, 0)) ∧
      wr.heap[w.heap.size + 1]? = some (.cells #[.int .i64 ab, .int .i64 ac, .int .i64 al, .string ah, .string at'] 24 (0, 0)) ∧ Below w.heap.size w wr) (fun i _ => xs.length - (intOf i).toNat)
  case atStart => exact ⟨0, 0, 0, 0, ⟨#[]⟩, ⟨#[]⟩, rfl, by omega, by omega, rfl, HRS.out, HRA.out, HBB.out⟩
  case round =>
    clear HRS HRA HBB
    obtain ⟨k, ab, ac, al, ah, at', rfl, hk, hab, hsum, hrs, hra, hB⟩ := hrel
    have hsz : w.heap.size + 1 < wr.heap.size := (Array.getElem?_eq_some_iff.1 hra).1
    by_cases hlt : k < xs.length
    · obtain ⟨x, hx⟩ : ∃ x, xs[k]? = some x := ⟨_, List.getElem?_eq_getElem hlt⟩
      have hxb := HBD.out x (List.mem_of_getElem? hx)
      have hdr : xs.drop k = x :: xs.drop (k + 1) := by
        rw [List.drop_eq_getElem_cons hlt]
        congr 1
        exact Option.some.inj ((List.getElem?_eq_getElem hlt).symm.trans hx)
      rw [hdr] at hsum
      obtain ⟨b0, off, rfl, hb0, hcl⟩ : ∃ b off, a = some ⟨b, off, none⟩ ∧ b < wr.heap.size ∧ ∀ (i : Nat) (x : (Int × Int × Int × ByteArray × ByteArray)), xs[i]? = some x → wr.cell? ⟨b, off + i * 5, none⟩ = some (.int .i64 x.1) ∧ wr.cell? ⟨b, off + i * 5 + 1, none⟩ = some (.int .i64 x.2.1) ∧ wr.cell? ⟨b, off + i * 5 + 2, none⟩ = some (.int .i64 x.2.2.1) ∧ wr.cell? ⟨b, off + i * 5 + 3, none⟩ = some (.string x.2.2.2.1) ∧ wr.cell? ⟨b, off + i * 5 + 4, none⟩ = some (.string x.2.2.2.2) := by
        rcases HX.out.below hB with h | h
        · rw [h] at hlt; simp at hlt
        · exact h
      obtain ⟨v0, v1, v2, v3, v4⟩ := hcl k x hx
      obtain ⟨bb, bc, bl', bh, bt⟩ := x
      dsimp only at *
      have hlt' : (k : Int) < (xs.length : Int) := by omega
      have kj := fun w => refJoin_ok ab ac al ah at' bb bc bl' bh bt w hab hxb
      have hjs : jE2 (ab, ac, al, ah, at') (bb, bc, bl', bh, bt) = jE ab ac al ah at' bb bc bl' bh bt := rfl
      obtain ⟨jb, jc, jl, jh, jt, hv⟩ := jV_agg ab ac al ah at' bb bc bl' bh bt
      have hjv0 : jE ab ac al ah at' bb bc bl' bh bt = 0 → (jb, jc, jl, jh, jt) = jT2 (ab, ac, al, ah, at') (bb, bc, bl', bh, bt) ∧ jb ≤ 9223372036854775807 := by
        intro h0
        have h1 := jE_size h0
        unfold jV at hv
        rw [if_pos h0] at hv
        simp only [Value.agg.injEq, Array.mk.injEq, List.cons.injEq, Value.int.injEq, true_and, Value.string.injEq, and_true] at hv
        obtain ⟨rfl, rfl, rfl, rfl, rfl⟩ := hv
        exact ⟨rfl, h1⟩
      rw [hv] at kj
      have HJ0 := hide hjv0
      have HJS := hide hjs
      generalize jE ab ac al ah at' bb bc bl' bh bt = E at *
      have KJ := hide kj
      have HRS := hide hrs
      have HRA := hide hra
      have HB := hide hB
      have HSUM := hide hsum
      have HV := hide (And.intro v0 (And.intro v1 (And.intro v2 (And.intro v3 v4))))
      clear hcl kj hv hjv0 hjs hdr hx hsum hrs hra hB v0 v1 v2 v3 v4 hxb
      go_wp2_with (fail)
      go_cut [6, 7] (fun p e wx => ∃ B6 : Nat, p = .pointer (some ⟨B6, 0, none⟩) ∧ e = .int .i64 E ∧ wr.heap.size ≤ B6 ∧ wx.heap[B6]? = some (.cells #[.int .i64 jb, .int .i64 jc, .int .i64 jl, .string jh, .string jt] 24 (0, 0)) ∧ Below wr.heap.size wr wx)
      case first =>
        refine wp_region_held_drew (S := fun w' => Below wr.heap.size wr w') (by kernel_rfl) ((Below.refl _ _).drew) (fun hS => ?_)
        refine wpAnyH_take (i := 0) (v := .agg #[.int .i64 ab, .int .i64 ac, .int .i64 al, .string ah, .string at']) rfl (by kernel_rfl) (by kernel_rfl) (by kernel_rfl) (fun _ _ _ h => h) (Or.inl ⟨by kernel_rfl, fun w' hw => by (obtain ⟨z0, z1, z2, z3, z4⟩ := box_at (row_keep HRA.out hw); clear hw; go_simp)⟩) hS ?_
        refine wpAnyH_take (i := 1) (v := .slice (some ⟨b0, off, none⟩) xs.length cap) rfl (by kernel_rfl) (by kernel_rfl) (by kernel_rfl) (fun _ _ _ h => h) (Or.inl ⟨by kernel_rfl, fun w' hw => by (clear hw; go_simp)⟩) hS ?_
        refine wpAnyH_take (i := 2) (v := .int .i64 k) rfl (by kernel_rfl) (by kernel_rfl) (by kernel_rfl) (fun _ _ _ h => h) (Or.inl ⟨by kernel_rfl, fun w' hw => by (clear hw; go_simp)⟩) hS ?_
        refine wpAnyH_take (i := 3) (v := .pointer (some ⟨b0, off + k * 5, none⟩)) rfl (by kernel_rfl) (by kernel_rfl) (by kernel_rfl) (fun _ _ _ h => h) (Or.inl ⟨by kernel_rfl, fun w' hw => by (clear hw; go_simp)⟩) hS ?_
        refine wpAnyH_take (i := 4) (v := .agg #[.int .i64 bb, .int .i64 bc, .int .i64 bl', .string bh, .string bt]) rfl (by kernel_rfl) (by kernel_rfl) (by kernel_rfl) (fun _ _ _ h => h) (Or.inl ⟨by kernel_rfl, fun w' hw => by (obtain ⟨c0, c1, c2, c3, c4⟩ := HV.out; have z0 := cell_below c0 hw hb0; have z1 := cell_below c1 hw hb0; have z2 := cell_below c2 hw hb0; have z3 := cell_below c3 hw hb0; have z4 := cell_below c4 hw hb0; clear hw c0 c1 c2 c3 c4; go_simp)⟩) hS ?_
        refine wpAnyH_ready (rs := [5, 9]) (by kernel_rfl) (by simp) ?_
        refine AllReadyH.cons rfl (fun K hK => ?_) (AllReadyH.cons rfl (fun K hK => ?_) AllReadyH.nil)
        · rw [if_pos (by kernel_rfl)]
          go_simp
          go_wp2_with (go_at_call 25; refine (KJ.out _).mono ?_; rintro e w1 ⟨rfl, hB1⟩)
          have hW1 : Below wr.heap.size wr w1 := bseq ((Below.refl _ wr).drew) hB1
          refine hK.out _ _ hW1 (fun hS1 => ?_)
          refine wpAnyH_take (i := 6) (v := .tuple #[(.agg #[.int .i64 jb, .int .i64 jc, .int .i64 jl, .string jh, .string jt]), .int .i64 E]) rfl (by kernel_rfl) (by kernel_rfl) (by kernel_rfl) (fun _ _ _ h => h) (Or.inl ⟨by kernel_rfl, fun w' hw => by (clear hw; go_simp)⟩) hS1 ?_
          refine wpAnyH_take (i := 7) (v := (.agg #[.int .i64 jb, .int .i64 jc, .int .i64 jl, .string jh, .string jt])) rfl (by kernel_rfl) (by kernel_rfl) (by kernel_rfl) (fun _ _ _ h => h) (Or.inl ⟨by kernel_rfl, fun w' hw => by (clear hw; go_simp)⟩) hS1 ?_
          refine wpAnyH_take (i := 8) (v := .int .i64 E) rfl (by kernel_rfl) (by kernel_rfl) (by kernel_rfl) (fun _ _ _ h => h) (Or.inl ⟨by kernel_rfl, fun w' hw => by (clear hw; go_simp)⟩) hS1 ?_
          refine wpAnyH_ready (rs := [9]) (by kernel_rfl) (by simp) ?_
          refine AllReadyH.cons rfl (fun K hK => ?_) AllReadyH.nil
          rw [if_pos (by kernel_rfl)]
          go_simp
          refine hK.out _ _ (hW1.alloc hW1.size _) (fun hS2 => ?_)
          refine wpAnyH_ready (rs := [10]) (by kernel_rfl) (by simp) ?_
          refine AllReadyH.cons rfl (fun K hK => ?_) AllReadyH.nil
          rw [if_pos (by kernel_rfl)]
          go_simp
          refine hK.out _ _ (hW1.alloc hW1.size _) (fun hS3 => ?_)
          refine wpAnyH_take (i := 11) (v := .int .i64 E) rfl (by kernel_rfl) (by kernel_rfl) (by kernel_rfl) (fun _ _ _ h => h) (Or.inl ⟨by kernel_rfl, fun w' hw => by (clear hw; go_simp)⟩) hS3 ?_
          refine wpAnyH_done (by kernel_rfl) ?_ _
          go_wp2
          go_meet
          exact ⟨_, rfl, rfl, hW1.size, heap_alloc_new _ _, hW1.alloc hW1.size _⟩
        · rw [if_pos (by kernel_rfl)]
          go_simp
          refine hK.out _ _ ((Below.refl _ wr).drew.alloc (Nat.le_refl _) _) (fun _ => ?_)
          refine wpAnyH_ready (rs := [5]) (by kernel_rfl) (by simp) ?_
          refine AllReadyH.cons rfl (fun K hK => ?_) AllReadyH.nil
          rw [if_pos (by kernel_rfl)]
          go_simp
          go_wp2_with (go_at_call 25; refine (KJ.out _).mono ?_; rintro e w1 ⟨rfl, hB1⟩)
          have hW1 : Below wr.heap.size wr w1 := bseq (((Below.refl _ wr).alloc (Nat.le_refl _) _).drew) hB1
          have hz3 : w1.heap[wr.heap.size]? = some (.cells #[.int .i64 0, .int .i64 0, .int .i64 0, .string ⟨#[]⟩, .string ⟨#[]⟩] 24 (0, 0)) := row_after_drew hB1
          refine hK.out _ _ hW1 (fun hS1 => ?_)
          refine wpAnyH_take (i := 6) (v := .tuple #[(.agg #[.int .i64 jb, .int .i64 jc, .int .i64 jl, .string jh, .string jt]), .int .i64 E]) rfl (by kernel_rfl) (by kernel_rfl) (by kernel_rfl) (fun _ _ _ h => h) (Or.inl ⟨by kernel_rfl, fun w' hw => by (clear hw; go_simp)⟩) hS1 ?_
          refine wpAnyH_take (i := 7) (v := (.agg #[.int .i64 jb, .int .i64 jc, .int .i64 jl, .string jh, .string jt])) rfl (by kernel_rfl) (by kernel_rfl) (by kernel_rfl) (fun _ _ _ h => h) (Or.inl ⟨by kernel_rfl, fun w' hw => by (clear hw; go_simp)⟩) hS1 ?_
          refine wpAnyH_take (i := 8) (v := .int .i64 E) rfl (by kernel_rfl) (by kernel_rfl) (by kernel_rfl) (fun _ _ _ h => h) (Or.inl ⟨by kernel_rfl, fun w' hw => by (clear hw; go_simp)⟩) hS1 ?_
          obtain ⟨⟨d0, d1, d2, d3, d4⟩, ⟨f0, f1, f2, f3, f4⟩, R, _, BB⟩ := chain5 hz3 (.int .i64 jb) (.int .i64 jc) (.int .i64 jl) (.string jh) (.string jt)
          have HR := hide R
          have HBB := hide BB
          clear R BB
          refine wpAnyH_ready (rs := [10]) (by kernel_rfl) (by simp) ?_
          refine AllReadyH.cons rfl (fun K hK => ?_) AllReadyH.nil
          rw [if_pos (by kernel_rfl)]
          go_simp
          refine hK.out _ _ (HBB.out _ _ (Nat.le_refl _) hW1) (fun hS3 => ?_)
          refine wpAnyH_take (i := 11) (v := .int .i64 E) rfl (by kernel_rfl) (by kernel_rfl) (by kernel_rfl) (fun _ _ _ h => h) (Or.inl ⟨by kernel_rfl, fun w' hw => by (clear hw; go_simp)⟩) hS3 ?_
          refine wpAnyH_done (by kernel_rfl) ?_ _
          go_wp2
          go_meet
          exact ⟨_, rfl, rfl, Nat.le_refl _, HR.out, HBB.out _ _ (Nat.le_refl _) hW1⟩
      case rest =>
        obtain ⟨B6, rfl, rfl, hb6, hrow, hBx⟩ := hcut
        have hra2 := row_keep HRA.out hBx
        have hrs2 := row_keep HRS.out hBx
        obtain ⟨c0, c1, c2, c3, c4⟩ := box_at hrow
        have HBw := hide (bseq HB.out hBx)
        by_cases hE : E = 0
        · obtain ⟨hj1, hj2⟩ := HJ0.out hE
          have hE' : (E != 0) = false := by simp [hE]
          obtain ⟨⟨d0, d1, d2, d3, d4⟩, ⟨f0, f1, f2, f3, f4⟩, R, O, BB⟩ := chain5 hra2 (.int .i64 jb) (.int .i64 jc) (.int .i64 jl) (.string jh) (.string jt)
          replace R := hide R
          replace O := hide O
          replace BB := hide BB
          have HRS2 := hide hrs2
          have hs2 : sumV (jb, jc, jl, jh, jt) (xs.drop (k + 1)) = sumV zT xs := by
            rw [← HSUM.out, hj1]
            show _ = if jE2 (ab, ac, al, ah, at') (bb, bc, bl', bh, bt) = 0 then _ else _
            rw [if_pos (HJS.out.trans hE)]
          have HS2 := hide hs2
          clear hE hj1 hs2 hra2 hrs2 hrow
          go_wp2_with (fail)
          go_roundw
          case rel => exact ⟨k + 1, jb, jc, jl, jh, jt, by go_num, by omega, hj2, HS2.out, (O.out _ (by omega)).trans HRS2.out, R.out, BB.out _ _ (by omega) HBw.out⟩
          case measure => simp [intOf]; omega
        · have hE' : (E != 0) = true := by simp [hE]
          obtain ⟨⟨d0, d1, d2, d3, d4⟩, ⟨f0, f1, f2, f3, f4⟩, R, O, BB⟩ := chain5 hrs2 (.int .i64 0) (.int .i64 0) (.int .i64 0) (.string ⟨#[]⟩) (.string ⟨#[]⟩)
          replace R := hide R
          replace O := hide O
          replace BB := hide BB
          have hs2 : sumV zT xs = (zT, E) := by
            rw [← HSUM.out]
            show (if jE2 (ab, ac, al, ah, at') (bb, bc, bl', bh, bt) = 0 then _ else _) = _
            rw [if_neg (fun h => hE (HJS.out.symm.trans h)), HJS.out]
          have HS2 := hide hs2
          clear hE hs2 hra2 hrs2 hrow
          go_wp2_with (fail)
          (try simp only [Exit.inBlock, Exit.then])
          refine bodyPost_ret (results_row_tmp rfl _ _ w.heap.size _ _ _ _ rfl R.out Try.underlying24 rfl (by kernel_rfl)) rfl ?_
          refine ⟨?_, BB.out _ _ (Nat.le_refl _) HBw.out⟩
          rw [HS2.out]
          rfl
    · have hkk : xs.drop k = [] := List.drop_eq_nil_of_le (by omega)
      rw [hkk] at hsum
      obtain ⟨⟨d0, d1, d2, d3, d4⟩, ⟨f0, f1, f2, f3, f4⟩, R, _, BB⟩ := chain5 hrs (.int .i64 ab) (.int .i64 ac) (.int .i64 al) (.string ah) (.string at')
      replace R := hide R
      replace BB := hide BB
      obtain ⟨q0, q1, q2, q3, q4⟩ := box_at hra
      have HB := hide hB
      have HS := hide hsum
      have hge : (xs.length : Int) ≤ (k : Int) := by omega
      clear hB hrs hra hsum hkk hlt
      go_wp2_with (fail)
      (try simp only [Exit.inBlock, Exit.then])
      refine bodyPost_ret (results_row_tmp rfl _ _ w.heap.size _ _ _ _ rfl R.out Try.underlying24 rfl (by kernel_rfl)) rfl ?_
      refine ⟨?_, BB.out _ _ (Nat.le_refl _) HB.out⟩
      rw [← HS.out]
      rfl
end Go.Proofs.Ytojbclifafmllaa
