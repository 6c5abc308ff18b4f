/- The stops of a text, as the document lists them. -/
import Derived.Test.YtihfnnhfpohakaaKSt1
namespace Go.Proofs.Ytihfnnhfpohakaa
open Go.RowKit Go.Shelf
set_option linter.unusedVariables false

set_option maxHeartbeats 4000000 in
theorem rstops_any (s : ByteArray) (w : World) (hs : s.size ≤ 1048576) :
    Calls Try.prog 16 #[.string s] w fun e w' => ∃ v, e = .returned v ∧ (∃ base, w'.ownsRow base 3 1 v ((Sp (bl s)).length + 1) ((Sp (bl s) ++ [s.size]).map I64k)) ∧ Below w.heap.size w w' := by
  obtain ⟨i0, hi, hz0, hz1, hz2⟩ := info_parts Try.info64k
  have kc := fun w => chars_any s w hs
  have hcl := Cs_len_le (bl s)
  rw [bl_len] at hcl
  have krc := fun e w he => rclass_any (bl s) e w he
  have hSp : Sp (bl s) = stp 7 (Cs 0 (bl s)) := rfl
  rw [hSp]
  clear hSp
  generalize Cs 0 (bl s) = L at *
  obtain ⟨m, hm⟩ : ∃ m, L.length = m := ⟨_, rfl⟩
  rw [hm] at hcl kc
  have KC := hide kc
  have KR := hide krc
  have HM := hide hm
  clear kc krc hm
  go_enter Try.func16, Try.ntmps16
  go_wp2_with (go_at_call 28; refine (KC.out _).mono ?_; rintro e w1 ⟨a, cap, rfl, hsl, hB⟩)
  have HSL := hide hsl
  have HB := hide hB
  clear hsl hB KC
  go_loopw [3, 5] (fun v q wr => ∃ k : Nat, q = .int .i64 (k : Int) ∧ k ≤ m ∧ wr.ownsRow w1.heap.size 3 1 v (stp 7 (L.take k)).length ((stp 7 (L.take k)).map I64k) ∧ Below w1.heap.size w1 wr) (fun _ q _ => m - (intOf q).toNat)
  case atStart => exact ⟨0, rfl, by omega, World.ownsRow_nil _ _ _ _, Below.refl _ _⟩
  case round =>
    obtain ⟨k, rfl, hk, hown, hBr⟩ := hrel
    by_cases hlt : k < m
    · have hltI : (k : Int) < (m : Int) := by omega
      obtain ⟨e, he⟩ : ∃ e, L[k]? = some e := ⟨_, List.getElem?_eq_getElem (by rw [HM.out]; exact hlt)⟩
      have htk : L.take (k + 1) = L.take k ++ [e] := (take_snoc he).symm
      obtain ⟨b, rfl, hbx, hall⟩ : ∃ b, a = some ⟨b, 0, none⟩ ∧ b < wr.heap.size ∧ (∀ (i : Nat) (e : Nat × Nat × Nat), L[i]? = some e → wr.cell? ⟨b, i * 4, none⟩ = some (.int .i64 (e.1 : Int)) ∧ wr.cell? ⟨b, i * 4 + 1, none⟩ = some (.int .i32 (e.2.1 : Int)) ∧ wr.cell? ⟨b, i * 4 + 2, none⟩ = some (.int .i64 (e.2.2 : Int)) ∧ wr.cell? ⟨b, i * 4 + 3, none⟩ = some (.bool (rightE e))) := by
        rcases (HSL.out.below hBr) with h | ⟨b, ha, hl, hh⟩
        · rw [h] at he; simp at he
        · exact ⟨b, ha, hl, hh⟩
      obtain ⟨x0, x1, x2, x3⟩ := hall k e he
      have kre := fun w => KR.out e w (List.mem_of_getElem? he)
      unfold aggC at kre
      have mk : ∀ W : World, Below wr.heap.size wr W → (Below wr.heap.size wr W ∧ W.cell? ⟨b, k * 4, none⟩ = some (.int .i64 (e.1 : Int)) ∧ W.cell? ⟨b, k * 4 + 1, none⟩ = some (.int .i32 (e.2.1 : Int)) ∧ W.cell? ⟨b, k * 4 + 2, none⟩ = some (.int .i64 (e.2.2 : Int)) ∧ W.cell? ⟨b, k * 4 + 3, none⟩ = some (.bool (rightE e))) := fun W hW =>
        ⟨hW, (hW.cell (p := ⟨b, k * 4, none⟩) hbx).trans x0, (hW.cell (p := ⟨b, k * 4 + 1, none⟩) hbx).trans x1, (hW.cell (p := ⟨b, k * 4 + 2, none⟩) hbx).trans x2, (hW.cell (p := ⟨b, k * 4 + 3, none⟩) hbx).trans x3⟩
      have MK := hide mk
      clear mk
      by_cases hq1 : clsE e = 1
      · have hst : stp 7 (L.take (k + 1)) = stp 7 (L.take k) := by rw [htk]; exact stp_stay _ _ _ (.inl hq1)
        have hph : phi (clsE e) = 0 := by rw [hq1]; decide
        rw [hph] at kre
        have KRE := hide kre
        have HST := hide hst
        have HO := hide hown
        clear kre hst hown htk hall he hq1 hph KR
        go_wp2_with (fail)
        refine wp_region_held_drew (S := fun W => Below wr.heap.size wr W ∧ W.cell? ⟨b, k * 4, none⟩ = some (.int .i64 (e.1 : Int)) ∧ W.cell? ⟨b, k * 4 + 1, none⟩ = some (.int .i32 (e.2.1 : Int)) ∧ W.cell? ⟨b, k * 4 + 2, none⟩ = some (.int .i64 (e.2.2 : Int)) ∧ W.cell? ⟨b, k * 4 + 3, none⟩ = some (.bool (rightE e))) (by kernel_rfl) (MK.out _ (Below.refl _ wr).drew) (fun hS => ?_)
        refine wpAnyH_take (i := 0) (v := .slice (some ⟨b, 0, none⟩) m cap) rfl (by kernel_rfl) (by kernel_rfl) (by kernel_rfl) (fun _ _ _ h => h) (Or.inl ⟨by kernel_rfl, fun w' hw => by (obtain ⟨_, z0, z1, z2, z3⟩ := hw; go_simp)⟩) hS ?_
        refine wpAnyH_take (i := 1) (v := .int .i64 (k : Int)) rfl (by kernel_rfl) (by kernel_rfl) (by kernel_rfl) (fun _ _ _ h => h) (Or.inl ⟨by kernel_rfl, fun w' hw => by (obtain ⟨_, z0, z1, z2, z3⟩ := hw; go_simp)⟩) hS ?_
        refine wpAnyH_take (i := 2) (v := .pointer (some ⟨b, k * 4, none⟩)) rfl (by kernel_rfl) (by kernel_rfl) (by kernel_rfl) (fun _ _ _ h => h) (Or.inl ⟨by kernel_rfl, fun w' hw => by (obtain ⟨_, z0, z1, z2, z3⟩ := hw; go_simp)⟩) hS ?_
        refine wpAnyH_take (i := 3) (v := (.agg #[.int .i64 (e.1 : Int), .int .i32 (e.2.1 : Int), .int .i64 (e.2.2 : Int), .bool (rightE e)])) rfl (by kernel_rfl) (by kernel_rfl) (by kernel_rfl) (fun _ _ _ h => h) (Or.inl ⟨by kernel_rfl, fun w' hw => by (obtain ⟨_, z0, z1, z2, z3⟩ := hw; go_simp)⟩) hS ?_
        refine wpAnyH_ready (rs := [4]) (by kernel_rfl) (by simp) ?_
        refine AllReadyH.cons rfl (fun K hK => ?_) AllReadyH.nil
        rw [if_pos (by kernel_rfl)]
        go_simp
        go_wp2_with (go_at_call 29; refine (KRE.out _).mono ?_; rintro e w2 ⟨rfl, hBw2⟩)
        have hWw2 : Below wr.heap.size wr w2 := bseq (Below.refl _ wr).drew hBw2
        refine hK.out _ _ (MK.out _ hWw2) (fun hS2 => ?_)
        refine wpAnyH_take (i := 5) (v := .bool false) rfl (by kernel_rfl) (by kernel_rfl) (by kernel_rfl) (fun _ _ _ h => h) (Or.inl ⟨by kernel_rfl, fun w' hw => by (obtain ⟨_, z0, z1, z2, z3⟩ := hw; go_simp)⟩) hS2 ?_
        refine wpAnyH_take (i := 6) (v := .bool false) rfl (by kernel_rfl) (by kernel_rfl) (by kernel_rfl) (fun _ _ _ h => h) (Or.inl ⟨by kernel_rfl, fun w' hw => by (obtain ⟨_, z0, z1, z2, z3⟩ := hw; go_simp)⟩) hS2 ?_
        refine wpAnyH_take (i := 7) (v := undef) rfl (by kernel_rfl) (by kernel_rfl) (by kernel_rfl) (fun _ _ _ h => h) (Or.inr ⟨by kernel_rfl, rfl⟩) hS2 ?_
        refine wpAnyH_take (i := 8) (v := undef) rfl (by kernel_rfl) (by kernel_rfl) (by kernel_rfl) (fun _ _ _ h => h) (Or.inr ⟨by kernel_rfl, rfl⟩) hS2 ?_
        refine wpAnyH_take (i := 9) (v := undef) rfl (by kernel_rfl) (by kernel_rfl) (by kernel_rfl) (fun _ _ _ h => h) (Or.inr ⟨by kernel_rfl, rfl⟩) hS2 ?_
        refine wpAnyH_take (i := 10) (v := undef) rfl (by kernel_rfl) (by kernel_rfl) (by kernel_rfl) (fun _ _ _ h => h) (Or.inr ⟨by kernel_rfl, rfl⟩) hS2 ?_
        refine wpAnyH_take (i := 11) (v := undef) rfl (by kernel_rfl) (by kernel_rfl) (by kernel_rfl) (fun _ _ _ h => h) (Or.inr ⟨by kernel_rfl, rfl⟩) hS2 ?_
        refine wpAnyH_take (i := 12) (v := undef) rfl (by kernel_rfl) (by kernel_rfl) (by kernel_rfl) (fun _ _ _ h => h) (Or.inr ⟨by kernel_rfl, rfl⟩) hS2 ?_
        refine wpAnyH_take (i := 13) (v := undef) rfl (by kernel_rfl) (by kernel_rfl) (by kernel_rfl) (fun _ _ _ h => h) (Or.inr ⟨by kernel_rfl, rfl⟩) hS2 ?_
        refine wpAnyH_take (i := 14) (v := undef) rfl (by kernel_rfl) (by kernel_rfl) (by kernel_rfl) (fun _ _ _ h => h) (Or.inr ⟨by kernel_rfl, rfl⟩) hS2 ?_
        refine wpAnyH_take (i := 15) (v := undef) rfl (by kernel_rfl) (by kernel_rfl) (by kernel_rfl) (fun _ _ _ h => h) (Or.inr ⟨by kernel_rfl, rfl⟩) hS2 ?_
        refine wpAnyH_take (i := 16) (v := undef) rfl (by kernel_rfl) (by kernel_rfl) (by kernel_rfl) (fun _ _ _ h => h) (Or.inr ⟨by kernel_rfl, rfl⟩) hS2 ?_
        refine wpAnyH_take (i := 17) (v := undef) rfl (by kernel_rfl) (by kernel_rfl) (by kernel_rfl) (fun _ _ _ h => h) (Or.inr ⟨by kernel_rfl, rfl⟩) hS2 ?_
        refine wpAnyH_take (i := 18) (v := undef) rfl (by kernel_rfl) (by kernel_rfl) (by kernel_rfl) (fun _ _ _ h => h) (Or.inr ⟨by kernel_rfl, rfl⟩) hS2 ?_
        refine wpAnyH_take (i := 19) (v := undef) rfl (by kernel_rfl) (by kernel_rfl) (by kernel_rfl) (fun _ _ _ h => h) (Or.inr ⟨by kernel_rfl, rfl⟩) hS2 ?_
        refine wpAnyH_take (i := 20) (v := undef) rfl (by kernel_rfl) (by kernel_rfl) (by kernel_rfl) (fun _ _ _ h => h) (Or.inr ⟨by kernel_rfl, rfl⟩) hS2 ?_
        refine wpAnyH_take (i := 21) (v := undef) rfl (by kernel_rfl) (by kernel_rfl) (by kernel_rfl) (fun _ _ _ h => h) (Or.inr ⟨by kernel_rfl, rfl⟩) hS2 ?_
        refine wpAnyH_take (i := 22) (v := undef) rfl (by kernel_rfl) (by kernel_rfl) (by kernel_rfl) (fun _ _ _ h => h) (Or.inr ⟨by kernel_rfl, rfl⟩) hS2 ?_
        refine wpAnyH_take (i := 23) (v := .bool false) rfl (by kernel_rfl) (by kernel_rfl) (by kernel_rfl) (fun _ _ _ h => h) (Or.inl ⟨by kernel_rfl, fun w' hw => by (obtain ⟨_, z0, z1, z2, z3⟩ := hw; go_simp)⟩) hS2 ?_
        refine wpAnyH_done (by kernel_rfl) ?_ _
        simp only [Act.put, List.getElem_toArray, List.getElem_cons_zero, List.getElem_cons_succ, List.setIfInBounds_toArray, List.set_cons_zero, List.set_cons_succ]
        go_wp2_with (fail)
        go_roundw
        case rel => exact ⟨k + 1, by go_num, by omega, by rw [HST.out]; exact ownsRow_belowK HO.out hWw2, bseq hBr hWw2⟩
        case measure => simp [intOf]; omega
      · have hn0 : phi (clsE e) ≠ 0 := fun h => hq1 ((phi_blank _).1 h)
        have hb0 : (phi (clsE e) != 0) = true := by simp [hn0]
        have hsl : (stp 7 (L.take k)).length ≤ 1048576 := by
          have h1 := stp_len (L.take k) 7
          have h2 := List.length_take_le k L
          omega
        by_cases hk0 : k = 0
        · have hst : stp 7 (L.take (k + 1)) = stp 7 (L.take k) ++ [e.1] := by
            rw [htk]
            refine stp_new _ _ _ hq1 ?_
            rw [hk0, List.take_zero, lcl_nil]
            intro h7
            rcases clsK_vals (e.2.1 : Int) with h | h | h <;> (unfold clsE at h7; rw [h] at h7; cases h7)
          have hd0 : ((k : Int) == 0) = true := by rw [hk0]; rfl
          have KRE := hide kre
          have HST := hide hst
          have HO := hide hown
          clear kre hst hown htk hall he hq1 KR hn0 hk0
          go_wp2_with (fail)
          refine wp_region_held_drew (S := fun W => Below wr.heap.size wr W ∧ W.cell? ⟨b, k * 4, none⟩ = some (.int .i64 (e.1 : Int)) ∧ W.cell? ⟨b, k * 4 + 1, none⟩ = some (.int .i32 (e.2.1 : Int)) ∧ W.cell? ⟨b, k * 4 + 2, none⟩ = some (.int .i64 (e.2.2 : Int)) ∧ W.cell? ⟨b, k * 4 + 3, none⟩ = some (.bool (rightE e))) (by kernel_rfl) (MK.out _ (Below.refl _ _).drew) (fun hS => ?_)
          refine wpAnyH_take (i := 0) (v := .slice (some ⟨b, 0, none⟩) m cap) rfl (by kernel_rfl) (by kernel_rfl) (by kernel_rfl) (fun _ _ _ h => h) (Or.inl ⟨by kernel_rfl, fun w' hw => by (obtain ⟨_, z0, z1, z2, z3⟩ := hw; go_simp)⟩) hS ?_
          refine wpAnyH_take (i := 1) (v := .int .i64 (k : Int)) rfl (by kernel_rfl) (by kernel_rfl) (by kernel_rfl) (fun _ _ _ h => h) (Or.inl ⟨by kernel_rfl, fun w' hw => by (obtain ⟨_, z0, z1, z2, z3⟩ := hw; go_simp)⟩) hS ?_
          refine wpAnyH_take (i := 2) (v := .pointer (some ⟨b, k * 4, none⟩)) rfl (by kernel_rfl) (by kernel_rfl) (by kernel_rfl) (fun _ _ _ h => h) (Or.inl ⟨by kernel_rfl, fun w' hw => by (obtain ⟨_, z0, z1, z2, z3⟩ := hw; go_simp)⟩) hS ?_
          refine wpAnyH_take (i := 3) (v := (.agg #[.int .i64 (e.1 : Int), .int .i32 (e.2.1 : Int), .int .i64 (e.2.2 : Int), .bool (rightE e)])) rfl (by kernel_rfl) (by kernel_rfl) (by kernel_rfl) (fun _ _ _ h => h) (Or.inl ⟨by kernel_rfl, fun w' hw => by (obtain ⟨_, z0, z1, z2, z3⟩ := hw; go_simp)⟩) hS ?_
          refine wpAnyH_ready (rs := [4]) (by kernel_rfl) (by simp) ?_
          refine AllReadyH.cons rfl (fun K hK => ?_) AllReadyH.nil
          rw [if_pos (by kernel_rfl)]
          go_simp
          go_wp2_with (go_at_call 29; refine (KRE.out _).mono ?_; rintro e w2 ⟨rfl, hBw2⟩)
          have hWw2 : Below wr.heap.size wr w2 := bseq (Below.refl _ wr).drew hBw2
          refine hK.out _ _ (MK.out _ hWw2) (fun hS2 => ?_)
          refine wpAnyH_take (i := 5) (v := .bool true) rfl (by kernel_rfl) (by kernel_rfl) (by kernel_rfl) (fun _ _ _ h => h) (Or.inl ⟨by kernel_rfl, fun w' hw => by (obtain ⟨_, z0, z1, z2, z3⟩ := hw; go_simp)⟩) hS2 ?_
          refine wpAnyH_take (i := 6) (v := .bool true) rfl (by kernel_rfl) (by kernel_rfl) (by kernel_rfl) (fun _ _ _ h => h) (Or.inl ⟨by kernel_rfl, fun w' hw => by (obtain ⟨_, z0, z1, z2, z3⟩ := hw; go_simp)⟩) hS2 ?_
          refine wpAnyH_take (i := 7) (v := .int .i64 (k : Int)) rfl (by kernel_rfl) (by kernel_rfl) (by kernel_rfl) (fun _ _ _ h => h) (Or.inl ⟨by kernel_rfl, fun w' hw => by (obtain ⟨_, z0, z1, z2, z3⟩ := hw; go_simp)⟩) hS2 ?_
          refine wpAnyH_take (i := 8) (v := .bool true) rfl (by kernel_rfl) (by kernel_rfl) (by kernel_rfl) (fun _ _ _ h => h) (Or.inl ⟨by kernel_rfl, fun w' hw => by (obtain ⟨_, z0, z1, z2, z3⟩ := hw; go_simp)⟩) hS2 ?_
          refine wpAnyH_take (i := 9) (v := .bool true) rfl (by kernel_rfl) (by kernel_rfl) (by kernel_rfl) (fun _ _ _ h => h) (Or.inl ⟨by kernel_rfl, fun w' hw => by (obtain ⟨_, z0, z1, z2, z3⟩ := hw; go_simp)⟩) hS2 ?_
          refine wpAnyH_take (i := 10) (v := undef) rfl (by kernel_rfl) (by kernel_rfl) (by kernel_rfl) (fun _ _ _ h => h) (Or.inr ⟨by kernel_rfl, rfl⟩) hS2 ?_
          refine wpAnyH_take (i := 11) (v := undef) rfl (by kernel_rfl) (by kernel_rfl) (by kernel_rfl) (fun _ _ _ h => h) (Or.inr ⟨by kernel_rfl, rfl⟩) hS2 ?_
          refine wpAnyH_take (i := 12) (v := undef) rfl (by kernel_rfl) (by kernel_rfl) (by kernel_rfl) (fun _ _ _ h => h) (Or.inr ⟨by kernel_rfl, rfl⟩) hS2 ?_
          refine wpAnyH_take (i := 13) (v := undef) rfl (by kernel_rfl) (by kernel_rfl) (by kernel_rfl) (fun _ _ _ h => h) (Or.inr ⟨by kernel_rfl, rfl⟩) hS2 ?_
          refine wpAnyH_take (i := 14) (v := undef) rfl (by kernel_rfl) (by kernel_rfl) (by kernel_rfl) (fun _ _ _ h => h) (Or.inr ⟨by kernel_rfl, rfl⟩) hS2 ?_
          refine wpAnyH_take (i := 15) (v := undef) rfl (by kernel_rfl) (by kernel_rfl) (by kernel_rfl) (fun _ _ _ h => h) (Or.inr ⟨by kernel_rfl, rfl⟩) hS2 ?_
          refine wpAnyH_take (i := 16) (v := undef) rfl (by kernel_rfl) (by kernel_rfl) (by kernel_rfl) (fun _ _ _ h => h) (Or.inr ⟨by kernel_rfl, rfl⟩) hS2 ?_
          refine wpAnyH_take (i := 17) (v := undef) rfl (by kernel_rfl) (by kernel_rfl) (by kernel_rfl) (fun _ _ _ h => h) (Or.inr ⟨by kernel_rfl, rfl⟩) hS2 ?_
          refine wpAnyH_take (i := 18) (v := undef) rfl (by kernel_rfl) (by kernel_rfl) (by kernel_rfl) (fun _ _ _ h => h) (Or.inr ⟨by kernel_rfl, rfl⟩) hS2 ?_
          refine wpAnyH_take (i := 19) (v := undef) rfl (by kernel_rfl) (by kernel_rfl) (by kernel_rfl) (fun _ _ _ h => h) (Or.inr ⟨by kernel_rfl, rfl⟩) hS2 ?_
          refine wpAnyH_take (i := 20) (v := undef) rfl (by kernel_rfl) (by kernel_rfl) (by kernel_rfl) (fun _ _ _ h => h) (Or.inr ⟨by kernel_rfl, rfl⟩) hS2 ?_
          refine wpAnyH_take (i := 21) (v := undef) rfl (by kernel_rfl) (by kernel_rfl) (by kernel_rfl) (fun _ _ _ h => h) (Or.inr ⟨by kernel_rfl, rfl⟩) hS2 ?_
          refine wpAnyH_take (i := 22) (v := .bool true) rfl (by kernel_rfl) (by kernel_rfl) (by kernel_rfl) (fun _ _ _ h => h) (Or.inl ⟨by kernel_rfl, fun w' hw => by (obtain ⟨_, z0, z1, z2, z3⟩ := hw; go_simp)⟩) hS2 ?_
          refine wpAnyH_take (i := 23) (v := .bool true) rfl (by kernel_rfl) (by kernel_rfl) (by kernel_rfl) (fun _ _ _ h => h) (Or.inl ⟨by kernel_rfl, fun w' hw => by (obtain ⟨_, z0, z1, z2, z3⟩ := hw; go_simp)⟩) hS2 ?_
          refine wpAnyH_done (by kernel_rfl) ?_ _
          simp only [Act.put, List.getElem_toArray, List.getElem_cons_zero, List.getElem_cons_succ, List.setIfInBounds_toArray, List.set_cons_zero, List.set_cons_succ]
          obtain ⟨_, z0, _⟩ := MK.out _ hWw2
          have hr3 := ownsRow_belowK HO.out hWw2
          have hs3 : w1.heap.size ≤ w2.heap.size := by have := hBr.size; have := hWw2.size; omega
          go_wp2_with (at_builtin; refine wpList_append_own _ rfl _ _ 31 rfl w1.heap.size 3 i0 (.int .i64 0) 1 8 Try.underlying31 hi hz0 hz1 hz2 rfl (by omega) _ _ _ rfl (hr3.alloc _) ⟨_, 0, none⟩ 1 1 [.int .i64 (e.1 : Int)] rfl rfl (cell_one_new _ _ _) (by simp [Value.oneCell']) (by unfold maxLen; omega) (by omega) (by simp; omega) ?_; intro v1 w5 ho2 hg2 _)
          go_roundw
          case rel =>
            have hBa := (bseq hBr hWw2).alloc hs3 (.cells #[.int .i64 (e.1 : Int)] 3)
            refine ⟨k + 1, by go_num, by omega, ?_, hBa.grown hg2 (by simp; omega) (fun q e => (HO.out.lt q e).1)⟩
            rw [HST.out, List.length_append, List.map_append]
            exact ho2
          case measure => simp [intOf]; omega
        · obtain ⟨j, hj⟩ : ∃ j, j + 1 = k := ⟨k - 1, by omega⟩
          have hjm : j < m := by omega
          obtain ⟨f, hf⟩ : ∃ f, L[j]? = some f := ⟨_, List.getElem?_eq_getElem (by rw [HM.out]; exact hjm)⟩
          obtain ⟨y0, y1, y2, y3⟩ := hall j f hf
          have krf := fun w => KR.out f w (List.mem_of_getElem? hf)
          unfold aggC at krf
          have hlc : lcl 7 (L.take k) = clsE f := by rw [← hj, ← take_snoc hf, lcl_snoc]
          have hd0 : ((k : Int) == 0) = false := by simp; omega
          have hwk : IntKind.i64.wrap ((k : Int) - 1) = (j : Int) := by rw [IntKind.wrap_i64]; omega
          have hjI : (j : Int) < (m : Int) := by omega
          have mk2 : ∀ W : World, Below wr.heap.size wr W → (Below wr.heap.size wr W ∧ W.cell? ⟨b, k * 4, none⟩ = some (.int .i64 (e.1 : Int)) ∧ W.cell? ⟨b, k * 4 + 1, none⟩ = some (.int .i32 (e.2.1 : Int)) ∧ W.cell? ⟨b, k * 4 + 2, none⟩ = some (.int .i64 (e.2.2 : Int)) ∧ W.cell? ⟨b, k * 4 + 3, none⟩ = some (.bool (rightE e)) ∧ W.cell? ⟨b, j * 4, none⟩ = some (.int .i64 (f.1 : Int)) ∧ W.cell? ⟨b, j * 4 + 1, none⟩ = some (.int .i32 (f.2.1 : Int)) ∧ W.cell? ⟨b, j * 4 + 2, none⟩ = some (.int .i64 (f.2.2 : Int)) ∧ W.cell? ⟨b, j * 4 + 3, none⟩ = some (.bool (rightE f))) := fun W hW => by
            obtain ⟨_, z0, z1, z2, z3⟩ := MK.out W hW
            exact ⟨hW, z0, z1, z2, z3, (hW.cell (p := ⟨b, j * 4, none⟩) hbx).trans y0, (hW.cell (p := ⟨b, j * 4 + 1, none⟩) hbx).trans y1, (hW.cell (p := ⟨b, j * 4 + 2, none⟩) hbx).trans y2, (hW.cell (p := ⟨b, j * 4 + 3, none⟩) hbx).trans y3⟩
          clear MK
          have MK := hide mk2
          clear mk2
          by_cases hq : clsE e = clsE f
          · have hst : stp 7 (L.take (k + 1)) = stp 7 (L.take k) := by rw [htk]; exact stp_stay _ _ _ (.inr (hq.trans hlc.symm))
            have hne : (phi (clsE f) != phi (clsE e)) = false := by rw [hq]; simp
            have KRE := hide kre
            have KRF := hide krf
            have HST := hide hst
            have HO := hide hown
            clear kre krf hst hown htk hall he hf hq1 KR hn0 hk0 hj hlc hq y0 y1 y2 y3
            generalize phi (clsE e) = P at *
            generalize phi (clsE f) = Q at *
            go_wp2_with (fail)
            refine wp_region_held_drew (S := fun W => Below wr.heap.size wr W ∧ W.cell? ⟨b, k * 4, none⟩ = some (.int .i64 (e.1 : Int)) ∧ W.cell? ⟨b, k * 4 + 1, none⟩ = some (.int .i32 (e.2.1 : Int)) ∧ W.cell? ⟨b, k * 4 + 2, none⟩ = some (.int .i64 (e.2.2 : Int)) ∧ W.cell? ⟨b, k * 4 + 3, none⟩ = some (.bool (rightE e)) ∧ W.cell? ⟨b, j * 4, none⟩ = some (.int .i64 (f.1 : Int)) ∧ W.cell? ⟨b, j * 4 + 1, none⟩ = some (.int .i32 (f.2.1 : Int)) ∧ W.cell? ⟨b, j * 4 + 2, none⟩ = some (.int .i64 (f.2.2 : Int)) ∧ W.cell? ⟨b, j * 4 + 3, none⟩ = some (.bool (rightE f))) (by kernel_rfl) (MK.out _ (Below.refl _ _).drew) (fun hS => ?_)
            refine wpAnyH_take (i := 0) (v := .slice (some ⟨b, 0, none⟩) m cap) rfl (by kernel_rfl) (by kernel_rfl) (by kernel_rfl) (fun _ _ _ h => h) (Or.inl ⟨by kernel_rfl, fun w' hw => by (obtain ⟨_, z0, z1, z2, z3, y0, y1, y2, y3⟩ := hw; go_simp)⟩) hS ?_
            refine wpAnyH_take (i := 1) (v := .int .i64 (k : Int)) rfl (by kernel_rfl) (by kernel_rfl) (by kernel_rfl) (fun _ _ _ h => h) (Or.inl ⟨by kernel_rfl, fun w' hw => by (obtain ⟨_, z0, z1, z2, z3, y0, y1, y2, y3⟩ := hw; go_simp)⟩) hS ?_
            refine wpAnyH_take (i := 2) (v := .pointer (some ⟨b, k * 4, none⟩)) rfl (by kernel_rfl) (by kernel_rfl) (by kernel_rfl) (fun _ _ _ h => h) (Or.inl ⟨by kernel_rfl, fun w' hw => by (obtain ⟨_, z0, z1, z2, z3, y0, y1, y2, y3⟩ := hw; go_simp)⟩) hS ?_
            refine wpAnyH_take (i := 3) (v := (.agg #[.int .i64 (e.1 : Int), .int .i32 (e.2.1 : Int), .int .i64 (e.2.2 : Int), .bool (rightE e)])) rfl (by kernel_rfl) (by kernel_rfl) (by kernel_rfl) (fun _ _ _ h => h) (Or.inl ⟨by kernel_rfl, fun w' hw => by (obtain ⟨_, z0, z1, z2, z3, y0, y1, y2, y3⟩ := hw; go_simp)⟩) hS ?_
            refine wpAnyH_ready (rs := [4]) (by kernel_rfl) (by simp) ?_
            refine AllReadyH.cons rfl (fun K hK => ?_) AllReadyH.nil
            rw [if_pos (by kernel_rfl)]
            go_simp
            go_wp2_with (go_at_call 29; refine (KRE.out _).mono ?_; rintro e w2 ⟨rfl, hBw2⟩)
            have hWw2 : Below wr.heap.size wr w2 := bseq (Below.refl _ wr).drew hBw2
            refine hK.out _ _ (MK.out _ hWw2) (fun hS2 => ?_)
            refine wpAnyH_take (i := 5) (v := .bool true) rfl (by kernel_rfl) (by kernel_rfl) (by kernel_rfl) (fun _ _ _ h => h) (Or.inl ⟨by kernel_rfl, fun w' hw => by (obtain ⟨_, z0, z1, z2, z3, y0, y1, y2, y3⟩ := hw; go_simp)⟩) hS2 ?_
            refine wpAnyH_take (i := 6) (v := .bool true) rfl (by kernel_rfl) (by kernel_rfl) (by kernel_rfl) (fun _ _ _ h => h) (Or.inl ⟨by kernel_rfl, fun w' hw => by (obtain ⟨_, z0, z1, z2, z3, y0, y1, y2, y3⟩ := hw; go_simp)⟩) hS2 ?_
            refine wpAnyH_take (i := 7) (v := .int .i64 (k : Int)) rfl (by kernel_rfl) (by kernel_rfl) (by kernel_rfl) (fun _ _ _ h => h) (Or.inl ⟨by kernel_rfl, fun w' hw => by (obtain ⟨_, z0, z1, z2, z3, y0, y1, y2, y3⟩ := hw; go_simp)⟩) hS2 ?_
            refine wpAnyH_take (i := 8) (v := .bool false) rfl (by kernel_rfl) (by kernel_rfl) (by kernel_rfl) (fun _ _ _ h => h) (Or.inl ⟨by kernel_rfl, fun w' hw => by (obtain ⟨_, z0, z1, z2, z3, y0, y1, y2, y3⟩ := hw; go_simp)⟩) hS2 ?_
            refine wpAnyH_take (i := 9) (v := .bool false) rfl (by kernel_rfl) (by kernel_rfl) (by kernel_rfl) (fun _ _ _ h => h) (Or.inl ⟨by kernel_rfl, fun w' hw => by (obtain ⟨_, z0, z1, z2, z3, y0, y1, y2, y3⟩ := hw; go_simp)⟩) hS2 ?_
            refine wpAnyH_take (i := 10) (v := .slice (some ⟨b, 0, none⟩) m cap) rfl (by kernel_rfl) (by kernel_rfl) (by kernel_rfl) (fun _ _ _ h => h) (Or.inl ⟨by kernel_rfl, fun w' hw => by (obtain ⟨_, z0, z1, z2, z3, y0, y1, y2, y3⟩ := hw; go_simp)⟩) hS2 ?_
            refine wpAnyH_take (i := 11) (v := .int .i64 (k : Int)) rfl (by kernel_rfl) (by kernel_rfl) (by kernel_rfl) (fun _ _ _ h => h) (Or.inl ⟨by kernel_rfl, fun w' hw => by (obtain ⟨_, z0, z1, z2, z3, y0, y1, y2, y3⟩ := hw; go_simp)⟩) hS2 ?_
            refine wpAnyH_take (i := 12) (v := .int .i64 (j : Int)) rfl (by kernel_rfl) (by kernel_rfl) (by kernel_rfl) (fun _ _ _ h => h) (Or.inl ⟨by kernel_rfl, fun w' hw => by (obtain ⟨_, z0, z1, z2, z3, y0, y1, y2, y3⟩ := hw; go_simp)⟩) hS2 ?_
            refine wpAnyH_take (i := 13) (v := .pointer (some ⟨b, j * 4, none⟩)) rfl (by kernel_rfl) (by kernel_rfl) (by kernel_rfl) (fun _ _ _ h => h) (Or.inl ⟨by kernel_rfl, fun w' hw => by (obtain ⟨_, z0, z1, z2, z3, y0, y1, y2, y3⟩ := hw; go_simp)⟩) hS2 ?_
            refine wpAnyH_take (i := 14) (v := (.agg #[.int .i64 (f.1 : Int), .int .i32 (f.2.1 : Int), .int .i64 (f.2.2 : Int), .bool (rightE f)])) rfl (by kernel_rfl) (by kernel_rfl) (by kernel_rfl) (fun _ _ _ h => h) (Or.inl ⟨by kernel_rfl, fun w' hw => by (obtain ⟨_, z0, z1, z2, z3, y0, y1, y2, y3⟩ := hw; go_simp)⟩) hS2 ?_
            refine wpAnyH_take (i := 16) (v := .slice (some ⟨b, 0, none⟩) m cap) rfl (by kernel_rfl) (by kernel_rfl) (by kernel_rfl) (fun _ _ _ h => h) (Or.inl ⟨by kernel_rfl, fun w' hw => by (obtain ⟨_, z0, z1, z2, z3, y0, y1, y2, y3⟩ := hw; go_simp)⟩) hS2 ?_
            refine wpAnyH_take (i := 17) (v := .int .i64 (k : Int)) rfl (by kernel_rfl) (by kernel_rfl) (by kernel_rfl) (fun _ _ _ h => h) (Or.inl ⟨by kernel_rfl, fun w' hw => by (obtain ⟨_, z0, z1, z2, z3, y0, y1, y2, y3⟩ := hw; go_simp)⟩) hS2 ?_
            refine wpAnyH_take (i := 18) (v := .pointer (some ⟨b, k * 4, none⟩)) rfl (by kernel_rfl) (by kernel_rfl) (by kernel_rfl) (fun _ _ _ h => h) (Or.inl ⟨by kernel_rfl, fun w' hw => by (obtain ⟨_, z0, z1, z2, z3, y0, y1, y2, y3⟩ := hw; go_simp)⟩) hS2 ?_
            refine wpAnyH_take (i := 19) (v := (.agg #[.int .i64 (e.1 : Int), .int .i32 (e.2.1 : Int), .int .i64 (e.2.2 : Int), .bool (rightE e)])) rfl (by kernel_rfl) (by kernel_rfl) (by kernel_rfl) (fun _ _ _ h => h) (Or.inl ⟨by kernel_rfl, fun w' hw => by (obtain ⟨_, z0, z1, z2, z3, y0, y1, y2, y3⟩ := hw; go_simp)⟩) hS2 ?_
            refine wpAnyH_ready (rs := [15]) (by kernel_rfl) (by simp) ?_
            refine AllReadyH.cons rfl (fun K hK => ?_) AllReadyH.nil
            rw [if_pos (by kernel_rfl)]
            go_simp
            go_wp2_with (go_at_call 29; refine (KRF.out _).mono ?_; rintro e w3 ⟨rfl, hBw3⟩)
            have hWw3 : Below wr.heap.size wr w3 := bseq hWw2 hBw3
            refine hK.out _ _ (MK.out _ hWw3) (fun hS3 => ?_)
            refine wpAnyH_ready (rs := [20]) (by kernel_rfl) (by simp) ?_
            refine AllReadyH.cons rfl (fun K hK => ?_) AllReadyH.nil
            rw [if_pos (by kernel_rfl)]
            go_simp
            go_wp2_with (go_at_call 29; refine (KRE.out _).mono ?_; rintro e w4 ⟨rfl, hBw4⟩)
            have hWw4 : Below wr.heap.size wr w4 := bseq hWw3 hBw4
            refine hK.out _ _ (MK.out _ hWw4) (fun hS4 => ?_)
            refine wpAnyH_take (i := 21) (v := .bool false) rfl (by kernel_rfl) (by kernel_rfl) (by kernel_rfl) (fun _ _ _ h => h) (Or.inl ⟨by kernel_rfl, fun w' hw => by (obtain ⟨_, z0, z1, z2, z3, y0, y1, y2, y3⟩ := hw; go_simp)⟩) hS4 ?_
            refine wpAnyH_take (i := 22) (v := .bool false) rfl (by kernel_rfl) (by kernel_rfl) (by kernel_rfl) (fun _ _ _ h => h) (Or.inl ⟨by kernel_rfl, fun w' hw => by (obtain ⟨_, z0, z1, z2, z3, y0, y1, y2, y3⟩ := hw; go_simp)⟩) hS4 ?_
            refine wpAnyH_take (i := 23) (v := .bool false) rfl (by kernel_rfl) (by kernel_rfl) (by kernel_rfl) (fun _ _ _ h => h) (Or.inl ⟨by kernel_rfl, fun w' hw => by (obtain ⟨_, z0, z1, z2, z3, y0, y1, y2, y3⟩ := hw; go_simp)⟩) hS4 ?_
            refine wpAnyH_done (by kernel_rfl) ?_ _
            simp only [Act.put, List.getElem_toArray, List.getElem_cons_zero, List.getElem_cons_succ, List.setIfInBounds_toArray, List.set_cons_zero, List.set_cons_succ]
            go_wp2_with (fail)
            go_roundw
            case rel => exact ⟨k + 1, by go_num, by omega, by rw [HST.out]; exact ownsRow_belowK HO.out hWw4, bseq hBr hWw4⟩
            case measure => simp [intOf]; omega
          · have hst : stp 7 (L.take (k + 1)) = stp 7 (L.take k) ++ [e.1] := by
              rw [htk]
              exact stp_new _ _ _ hq1 (by rw [hlc]; exact hq)
            have hne : (phi (clsE f) != phi (clsE e)) = true := by
              have : ¬ phi (clsE f) = phi (clsE e) := fun h => hq (by
                have := (phi_same (f.2.1 : Int) (clsE e) (by unfold clsE; rcases clsK_vals (e.2.1 : Int) with h | h | h <;> rw [h] <;> simp)).1 h
                exact this.symm)
              simp [this]
            have KRE := hide kre
            have KRF := hide krf
            have HST := hide hst
            have HO := hide hown
            clear kre krf hst hown htk hall he hf hq1 KR hn0 hk0 hj hlc hq y0 y1 y2 y3
            generalize phi (clsE e) = P at *
            generalize phi (clsE f) = Q at *
            go_wp2_with (fail)
            refine wp_region_held_drew (S := fun W => Below wr.heap.size wr W ∧ W.cell? ⟨b, k * 4, none⟩ = some (.int .i64 (e.1 : Int)) ∧ W.cell? ⟨b, k * 4 + 1, none⟩ = some (.int .i32 (e.2.1 : Int)) ∧ W.cell? ⟨b, k * 4 + 2, none⟩ = some (.int .i64 (e.2.2 : Int)) ∧ W.cell? ⟨b, k * 4 + 3, none⟩ = some (.bool (rightE e)) ∧ W.cell? ⟨b, j * 4, none⟩ = some (.int .i64 (f.1 : Int)) ∧ W.cell? ⟨b, j * 4 + 1, none⟩ = some (.int .i32 (f.2.1 : Int)) ∧ W.cell? ⟨b, j * 4 + 2, none⟩ = some (.int .i64 (f.2.2 : Int)) ∧ W.cell? ⟨b, j * 4 + 3, none⟩ = some (.bool (rightE f))) (by kernel_rfl) (MK.out _ (Below.refl _ _).drew) (fun hS => ?_)
            refine wpAnyH_take (i := 0) (v := .slice (some ⟨b, 0, none⟩) m cap) rfl (by kernel_rfl) (by kernel_rfl) (by kernel_rfl) (fun _ _ _ h => h) (Or.inl ⟨by kernel_rfl, fun w' hw => by (obtain ⟨_, z0, z1, z2, z3, y0, y1, y2, y3⟩ := hw; go_simp)⟩) hS ?_
            refine wpAnyH_take (i := 1) (v := .int .i64 (k : Int)) rfl (by kernel_rfl) (by kernel_rfl) (by kernel_rfl) (fun _ _ _ h => h) (Or.inl ⟨by kernel_rfl, fun w' hw => by (obtain ⟨_, z0, z1, z2, z3, y0, y1, y2, y3⟩ := hw; go_simp)⟩) hS ?_
            refine wpAnyH_take (i := 2) (v := .pointer (some ⟨b, k * 4, none⟩)) rfl (by kernel_rfl) (by kernel_rfl) (by kernel_rfl) (fun _ _ _ h => h) (Or.inl ⟨by kernel_rfl, fun w' hw => by (obtain ⟨_, z0, z1, z2, z3, y0, y1, y2, y3⟩ := hw; go_simp)⟩) hS ?_
            refine wpAnyH_take (i := 3) (v := (.agg #[.int .i64 (e.1 : Int), .int .i32 (e.2.1 : Int), .int .i64 (e.2.2 : Int), .bool (rightE e)])) rfl (by kernel_rfl) (by kernel_rfl) (by kernel_rfl) (fun _ _ _ h => h) (Or.inl ⟨by kernel_rfl, fun w' hw => by (obtain ⟨_, z0, z1, z2, z3, y0, y1, y2, y3⟩ := hw; go_simp)⟩) hS ?_
            refine wpAnyH_ready (rs := [4]) (by kernel_rfl) (by simp) ?_
            refine AllReadyH.cons rfl (fun K hK => ?_) AllReadyH.nil
            rw [if_pos (by kernel_rfl)]
            go_simp
            go_wp2_with (go_at_call 29; refine (KRE.out _).mono ?_; rintro e w2 ⟨rfl, hBw2⟩)
            have hWw2 : Below wr.heap.size wr w2 := bseq (Below.refl _ wr).drew hBw2
            refine hK.out _ _ (MK.out _ hWw2) (fun hS2 => ?_)
            refine wpAnyH_take (i := 5) (v := .bool true) rfl (by kernel_rfl) (by kernel_rfl) (by kernel_rfl) (fun _ _ _ h => h) (Or.inl ⟨by kernel_rfl, fun w' hw => by (obtain ⟨_, z0, z1, z2, z3, y0, y1, y2, y3⟩ := hw; go_simp)⟩) hS2 ?_
            refine wpAnyH_take (i := 6) (v := .bool true) rfl (by kernel_rfl) (by kernel_rfl) (by kernel_rfl) (fun _ _ _ h => h) (Or.inl ⟨by kernel_rfl, fun w' hw => by (obtain ⟨_, z0, z1, z2, z3, y0, y1, y2, y3⟩ := hw; go_simp)⟩) hS2 ?_
            refine wpAnyH_take (i := 7) (v := .int .i64 (k : Int)) rfl (by kernel_rfl) (by kernel_rfl) (by kernel_rfl) (fun _ _ _ h => h) (Or.inl ⟨by kernel_rfl, fun w' hw => by (obtain ⟨_, z0, z1, z2, z3, y0, y1, y2, y3⟩ := hw; go_simp)⟩) hS2 ?_
            refine wpAnyH_take (i := 8) (v := .bool false) rfl (by kernel_rfl) (by kernel_rfl) (by kernel_rfl) (fun _ _ _ h => h) (Or.inl ⟨by kernel_rfl, fun w' hw => by (obtain ⟨_, z0, z1, z2, z3, y0, y1, y2, y3⟩ := hw; go_simp)⟩) hS2 ?_
            refine wpAnyH_take (i := 9) (v := .bool false) rfl (by kernel_rfl) (by kernel_rfl) (by kernel_rfl) (fun _ _ _ h => h) (Or.inl ⟨by kernel_rfl, fun w' hw => by (obtain ⟨_, z0, z1, z2, z3, y0, y1, y2, y3⟩ := hw; go_simp)⟩) hS2 ?_
            refine wpAnyH_take (i := 10) (v := .slice (some ⟨b, 0, none⟩) m cap) rfl (by kernel_rfl) (by kernel_rfl) (by kernel_rfl) (fun _ _ _ h => h) (Or.inl ⟨by kernel_rfl, fun w' hw => by (obtain ⟨_, z0, z1, z2, z3, y0, y1, y2, y3⟩ := hw; go_simp)⟩) hS2 ?_
            refine wpAnyH_take (i := 11) (v := .int .i64 (k : Int)) rfl (by kernel_rfl) (by kernel_rfl) (by kernel_rfl) (fun _ _ _ h => h) (Or.inl ⟨by kernel_rfl, fun w' hw => by (obtain ⟨_, z0, z1, z2, z3, y0, y1, y2, y3⟩ := hw; go_simp)⟩) hS2 ?_
            refine wpAnyH_take (i := 12) (v := .int .i64 (j : Int)) rfl (by kernel_rfl) (by kernel_rfl) (by kernel_rfl) (fun _ _ _ h => h) (Or.inl ⟨by kernel_rfl, fun w' hw => by (obtain ⟨_, z0, z1, z2, z3, y0, y1, y2, y3⟩ := hw; go_simp)⟩) hS2 ?_
            refine wpAnyH_take (i := 13) (v := .pointer (some ⟨b, j * 4, none⟩)) rfl (by kernel_rfl) (by kernel_rfl) (by kernel_rfl) (fun _ _ _ h => h) (Or.inl ⟨by kernel_rfl, fun w' hw => by (obtain ⟨_, z0, z1, z2, z3, y0, y1, y2, y3⟩ := hw; go_simp)⟩) hS2 ?_
            refine wpAnyH_take (i := 14) (v := (.agg #[.int .i64 (f.1 : Int), .int .i32 (f.2.1 : Int), .int .i64 (f.2.2 : Int), .bool (rightE f)])) rfl (by kernel_rfl) (by kernel_rfl) (by kernel_rfl) (fun _ _ _ h => h) (Or.inl ⟨by kernel_rfl, fun w' hw => by (obtain ⟨_, z0, z1, z2, z3, y0, y1, y2, y3⟩ := hw; go_simp)⟩) hS2 ?_
            refine wpAnyH_take (i := 16) (v := .slice (some ⟨b, 0, none⟩) m cap) rfl (by kernel_rfl) (by kernel_rfl) (by kernel_rfl) (fun _ _ _ h => h) (Or.inl ⟨by kernel_rfl, fun w' hw => by (obtain ⟨_, z0, z1, z2, z3, y0, y1, y2, y3⟩ := hw; go_simp)⟩) hS2 ?_
            refine wpAnyH_take (i := 17) (v := .int .i64 (k : Int)) rfl (by kernel_rfl) (by kernel_rfl) (by kernel_rfl) (fun _ _ _ h => h) (Or.inl ⟨by kernel_rfl, fun w' hw => by (obtain ⟨_, z0, z1, z2, z3, y0, y1, y2, y3⟩ := hw; go_simp)⟩) hS2 ?_
            refine wpAnyH_take (i := 18) (v := .pointer (some ⟨b, k * 4, none⟩)) rfl (by kernel_rfl) (by kernel_rfl) (by kernel_rfl) (fun _ _ _ h => h) (Or.inl ⟨by kernel_rfl, fun w' hw => by (obtain ⟨_, z0, z1, z2, z3, y0, y1, y2, y3⟩ := hw; go_simp)⟩) hS2 ?_
            refine wpAnyH_take (i := 19) (v := (.agg #[.int .i64 (e.1 : Int), .int .i32 (e.2.1 : Int), .int .i64 (e.2.2 : Int), .bool (rightE e)])) rfl (by kernel_rfl) (by kernel_rfl) (by kernel_rfl) (fun _ _ _ h => h) (Or.inl ⟨by kernel_rfl, fun w' hw => by (obtain ⟨_, z0, z1, z2, z3, y0, y1, y2, y3⟩ := hw; go_simp)⟩) hS2 ?_
            refine wpAnyH_ready (rs := [15]) (by kernel_rfl) (by simp) ?_
            refine AllReadyH.cons rfl (fun K hK => ?_) AllReadyH.nil
            rw [if_pos (by kernel_rfl)]
            go_simp
            go_wp2_with (go_at_call 29; refine (KRF.out _).mono ?_; rintro e w3 ⟨rfl, hBw3⟩)
            have hWw3 : Below wr.heap.size wr w3 := bseq hWw2 hBw3
            refine hK.out _ _ (MK.out _ hWw3) (fun hS3 => ?_)
            refine wpAnyH_ready (rs := [20]) (by kernel_rfl) (by simp) ?_
            refine AllReadyH.cons rfl (fun K hK => ?_) AllReadyH.nil
            rw [if_pos (by kernel_rfl)]
            go_simp
            go_wp2_with (go_at_call 29; refine (KRE.out _).mono ?_; rintro e w4 ⟨rfl, hBw4⟩)
            have hWw4 : Below wr.heap.size wr w4 := bseq hWw3 hBw4
            refine hK.out _ _ (MK.out _ hWw4) (fun hS4 => ?_)
            refine wpAnyH_take (i := 21) (v := .bool true) rfl (by kernel_rfl) (by kernel_rfl) (by kernel_rfl) (fun _ _ _ h => h) (Or.inl ⟨by kernel_rfl, fun w' hw => by (obtain ⟨_, z0, z1, z2, z3, y0, y1, y2, y3⟩ := hw; go_simp)⟩) hS4 ?_
            refine wpAnyH_take (i := 22) (v := .bool true) rfl (by kernel_rfl) (by kernel_rfl) (by kernel_rfl) (fun _ _ _ h => h) (Or.inl ⟨by kernel_rfl, fun w' hw => by (obtain ⟨_, z0, z1, z2, z3, y0, y1, y2, y3⟩ := hw; go_simp)⟩) hS4 ?_
            refine wpAnyH_take (i := 23) (v := .bool true) rfl (by kernel_rfl) (by kernel_rfl) (by kernel_rfl) (fun _ _ _ h => h) (Or.inl ⟨by kernel_rfl, fun w' hw => by (obtain ⟨_, z0, z1, z2, z3, y0, y1, y2, y3⟩ := hw; go_simp)⟩) hS4 ?_
            refine wpAnyH_done (by kernel_rfl) ?_ _
            simp only [Act.put, List.getElem_toArray, List.getElem_cons_zero, List.getElem_cons_succ, List.setIfInBounds_toArray, List.set_cons_zero, List.set_cons_succ]
            obtain ⟨_, z0, _⟩ := MK.out _ hWw4
            have hr3 := ownsRow_belowK HO.out hWw4
            have hs3 : w1.heap.size ≤ w4.heap.size := by have := hBr.size; have := hWw4.size; omega
            go_wp2_with (at_builtin; refine wpList_append_own _ rfl _ _ 31 rfl w1.heap.size 3 i0 (.int .i64 0) 1 8 Try.underlying31 hi hz0 hz1 hz2 rfl (by omega) _ _ _ rfl (hr3.alloc _) ⟨_, 0, none⟩ 1 1 [.int .i64 (e.1 : Int)] rfl rfl (cell_one_new _ _ _) (by simp [Value.oneCell']) (by unfold maxLen; omega) (by omega) (by simp; omega) ?_; intro v1 w5 ho2 hg2 _)
            go_roundw
            case rel =>
              have hBa := (bseq hBr hWw4).alloc hs3 (.cells #[.int .i64 (e.1 : Int)] 3)
              refine ⟨k + 1, by go_num, by omega, ?_, hBa.grown hg2 (by simp; omega) (fun q e => (HO.out.lt q e).1)⟩
              rw [HST.out, List.length_append, List.map_append]
              exact ho2
            case measure => simp [intOf]; omega
    · have hkm : k = m := by omega
      have hltI : (m : Int) ≤ (k : Int) := by omega
      have htm : L.take k = L := by rw [hkm, ← HM.out]; exact List.take_length
      rw [htm] at hown
      have hsl : (stp 7 L).length ≤ 1048576 := by
        have h1 := stp_len L 7
        have := HM.out
        omega
      have HO := hide hown
      have hs3 : w1.heap.size ≤ wr.heap.size := hBr.size
      clear hown htm hkm hlt
      go_wp2_with (at_builtin; refine wpList_append_own _ rfl _ _ 31 rfl w1.heap.size 3 i0 (.int .i64 0) 1 8 Try.underlying31 hi hz0 hz1 hz2 rfl (by omega) _ _ _ rfl (HO.out.alloc _) ⟨_, 0, none⟩ 1 1 [.int .i64 (s.size : Int)] rfl rfl (cell_one_new _ _ _) (by simp [Value.oneCell']) (by unfold maxLen; omega) (by omega) (by simp; omega) ?_; intro v1 w4 ho2 hg2 _)
      go_ret
      have hBa := (bseq HB.out hBr).alloc (bseq HB.out hBr).size (.cells #[.int .i64 (s.size : Int)] 3)
      refine ⟨_, rfl, ⟨w1.heap.size, ?_⟩, hBa.grown hg2 hBa.size (fun q e => by have := (HO.out.lt q e).1; have := HB.out.size; omega)⟩
      rw [List.map_append]
      exact ho2
end Go.Proofs.Ytihfnnhfpohakaa
