/- Package pmem: Fence. -/
import Derived.Test.YtgfgihpkbbjkfaaPFnA
namespace Go.Proofs.Ytgfgihpkbbjkfaa
open Go.RowKit Go.Shelf
set_option linter.unusedVariables false

section
variable {w : World} {b : Nat} {L : Lay} {σ : St}
theorem pfence_off (h : DevL w b L σ) (ho : σ.off = true) : Calls Try.prog 41 #[.pointer (some ⟨b, 0, none⟩)] w fun e w' => e = .returned (.int .i64 5) ∧ w' = w := by
  have ks := pstate_any h
  rw [ho] at ks
  simp only [if_true] at ks
  have KS := hide ks
  clear h ks
  go_enter Try.func41, Try.ntmps41
  go_wp2_with (go_at_call 37; refine (KS.out).mono ?_; rintro e w' ⟨rfl, rfl⟩)
  go_ret
  exact ⟨rfl, rfl⟩
set_option maxRecDepth 100000 in
set_option maxHeartbeats 1000000 in
theorem pfence_any (h : DevL w b L σ) (hok : σ.Ok) (ho : σ.off = false) (harm : σ.arms = []) (hops : σ.ops < 1400000000000) : Calls Try.prog 41 #[.pointer (some ⟨b, 0, none⟩)] w fun e w' =>
    e = .returned (.int .i64 0) ∧ ∃ L', DevL w' b L' (fenceDo σ) ∧ (∀ k, Foot b L' (fenceDo σ) k → Foot b L σ k ∨ w.heap.size ≤ k) ∧ Gr (Foot b L σ) w w' ∧ L'.N ≤ L.N := by
  have ks := pstate_any h
  rw [ho] at ks
  simp only [Bool.false_eq_true, if_false] at ks
  have c3 := h.c3
  have KS := hide ks
  have HD := hide h
  have HOK := hide hok
  have HARM := hide harm
  have HOPS := hide hops
  clear h hok ks harm ho hops
  go_enter Try.func41, Try.ntmps41
  go_wp2_with (first | (go_at_call 37; refine (KS.out).mono ?_; rintro e w' ⟨rfl, hw⟩; obtain rfl := hw.symm) | (at_range; refine wpList_range_num rfl (.tmp 15) rfl L.fb L.N (flF σ) (by kernel_rfl) HD.out.flm ?_; intro W0 hrg0 hg0 hs0; have HRG0 := hide hrg0; have HG0 := hide hg0; have HS0 := hide hs0; clear hrg0 hg0 hs0))
  go_frame
  go_loopw [] (fun wr => ∃ left L', FenR w b L σ w.heap.size wr left L') (fun wr => wr.rangeLeft L.fb w.heap.size)
  case atStart =>
    refine ⟨fun x => (flF σ x).isSome, L, ⟨HRG0.out, ?_, SameL.refl L, rfl, fun k hk => .inl (by rw [fenL_start] at hk; exact hk), Gr.of_grown HG0.out (fun k hk => by cases hk)⟩⟩
    rw [fenL_start]
    exact HD.out.keep fun k hk => HG0.out.block k (by rcases foot_obj2 HD.out hk with ⟨c, t, f, e1⟩ | ⟨c, t, e1⟩ <;> exact lt_of_heap e1) (by simp)
  case round =>
    obtain ⟨left, L', hF⟩ := hrel
    have HF := hide hF
    clear hF
    go_wp2_with (at_next; refine wpList_next_g numL rfl (.tmp 16) rfl L.fb w.heap.size L.N (flF σ) left (by kernel_rfl) HF.out.ran ?_ ?_)
    · intro hl0
      have hne := HF.out.dev
      have hha := (((Below.refl _ wr).alloc (Nat.le_refl _) (.map #[] 0)).block b (lt_of_heap hne.dev)).trans hne.dev
      have c3r : (wr.alloc (.map #[] 0)).cell? ⟨b, 3, none⟩ = some (.map (some L'.fb)) := cell8 hha 3
      have hfz := froz8 hha 3
      have ko := poper_any (dev_newfl HF.out.dev) HOPS.out HARM.out
      have hmk : (Instr.makeMap 67 none).run Try.prog wr = .ok (.map (some wr.heap.size)) (wr.alloc (.map #[] 0)) := rfl
      have KO := hide ko
      have HL0 := hide hl0
      clear ko hl0 hne c3 hha
      go_wp2_with (go_at_call 62; refine (KO.out).mono ?_; rintro e w' ⟨rfl, hw', hd⟩; have HW := hide hw'; have HDD := hide hd; clear hw' hd)
      go_ret
      have hfin := fenL_none σ left HL0.out
      have hD : DevL w' b { L' with fb := wr.heap.size } (fenceDo σ) := by rw [← hfin]; exact HDD.out
      refine ⟨rfl, _, hD, fun k hk => ?_, ?_, Nat.le_of_eq HF.out.num⟩
      · rw [← hfin] at hk
        rcases hk with h | h | h | h | h | h | h
        · exact HF.out.foot k (.inl h)
        · exact HF.out.foot k (.inr (.inl h))
        · exact HF.out.foot k (.inr (.inr (.inl h)))
        · have := HF.out.gr.size
          exact .inr (by rw [h]; exact this)
        · exact HF.out.foot k (.inr (.inr (.inr (.inr (.inl h)))))
        · exact HF.out.foot k (.inr (.inr (.inr (.inr (.inr (.inl h))))))
        · exact HF.out.foot k (.inr (.inr (.inr (.inr (.inr (.inr h))))))
      · rw [HW.out]
        exact ((HF.out.gr.trans (Gr.of_below ((Below.refl _ wr).alloc (Nat.le_refl _) _) : Gr (Foot b L σ) wr (wr.alloc (.map #[] 0))) (fun i h => .inl h)).trans (Gr.set _ b 3 _ (X := fun k => k = b) rfl) (fun i h => .inl (.inl h))).trans (Gr.set _ b 4 _ (X := fun k => k = b) rfl) (fun i h => .inl (.inl h))
    · intro x p w1 hwx hfx hlx hrg1 hlt hg1 hs1 hen
      obtain ⟨hD1, hG1⟩ := HF.out.next hg1 (Nat.le_refl _)
      obtain ⟨i, rfl, hfi⟩ : ∃ i : Nat, x = (i : Int) ∧ σ.fl i = some p := by
        unfold flF at hfx
        split at hfx
        · exact ⟨x.toNat, by omega, hfx⟩
        · cases hfx
      obtain ⟨hpl, hpi⟩ := HOK.out.flp i p hfi
      obtain ⟨hst, hpa⟩ := fenL_step σ left i p hfi hlx
      have hpi' : (fenL σ left).past i ≠ [] := by rw [hpa]; exact hpi
      have hof : oldF L' (fenL σ left) (i : Int) = some (L'.pb i) := by unfold oldF; rw [if_pos ⟨by omega, by simpa using hpi'⟩]; simp
      have hP := hD1.pasts i hpi'
      rw [hpa] at hP
      have hfew := HOK.out.few i
      have hopm := HOK.out.opsm
      have kd := pdrop_any (L'.pb i) p (L'.rv i) (σ.past i) w1 hP hpl hpi (by omega)
      have c2 := hD1.c2
      have hbp : b ≠ L'.pb i := ne_ty hD1.dev hP.1 (by decide)
      obtain ⟨eo, qo, hob⟩ := hD1.old.block
      have hop : L'.ob ≠ L'.pb i := fun e => ne_map hP.1 hob e.symm
      have KD := hide kd
      have HD1 := hide hD1
      have HG1 := hide hG1
      have HRG1 := hide hrg1
      have HFI := hide hfi
      have HLX := hide hlx
      have HPI := hide hpi
      have HPI2 := hide hpi'
      have HOF := hide hof
      have HBP := hide hbp
      have HOP := hide hop
      have HOB := hide hob
      have HLT := hide hlt
      have HFX := hide hfx
      have hpI : (p : Int) ≤ 1400000000000 := by omega
      clear kd hD1 hG1 hrg1 hfi hlx hpi hpi' hof hbp hop hob hlt hg1 hs1 hst hpa hP hfew hopm hpl hfx c3
      by_cases hz : (σ.past i).drop p = []
      · have HZ := hide hz
        clear hz
        go_wp2_with (first | (at_lookup; refine wpList_look_ptr' rfl (.tmp 25) (.tmp 26) rfl L'.ob L'.N (oldF L' (fenL σ left)) (by kernel_rfl) HD1.out.old (i : Int) (by simp [Act.eval]) hwx (L'.pb i) HOF.out ?_) | (go_at_call 63; refine (KD.out).mono ?_; rintro e W2 ⟨rfl, v', hp2, hv2, hg2⟩; have cz : W2.cell? ⟨L'.pb i, 1, none⟩ = some (.int .i64 0) := (by have h5 := cell8 hp2.1 1; rw [HZ.out] at h5; exact h5); have cb : W2.cell? ⟨b, 2, none⟩ = some (.map (some L'.ob)) := cell8 ((hg2.block (lt_of_heap HD1.out.dev) HBP.out).trans HD1.out.dev) 2; have hm2 := HD1.out.old.of_block (hg2.block (lt_of_heap HOB.out) HOP.out); have HP2 := hide hp2; have HV2 := hide hv2; have HG2 := hide hg2; have HM2 := hide hm2; clear hp2 hv2 hg2 hm2) | (at_delete; refine wpList_del_ptr rfl (.tmp 39) (.tmp 40) rfl L'.ob L'.N (oldF L' (fenL σ left)) (by kernel_rfl) HM2.out (i : Int) (by simp [Act.eval]) hwx ?_; intro W3 hm3 hg3; go_frame; have HM3 := hide hm3; have HG3 := hide hg3; clear hm3 hg3))
        go_roundw
        case rel =>
          have hB := HG3.out
          exact ⟨_, _, (FenR.step (v' := v') HD1.out HF.out.same HF.out.num HF.out.foot HG1.out HFI.out HLX.out HPI.out HRG1.out (HG2.out.mono (fun k h => .inl h) |>.trans (Gr.of_grown (X := fun k => k = L'.pb i ∨ k = L'.ob) hB (fun k hk => by cases hk; exact .inl (.inr rfl))) (fun i h => .inl h)) (by rw [HZ.out]; exact HM3.out.congr (fun x => old_less x)) (fun h => absurd HZ.out h) HV2.out).1⟩
        case measure =>
          have hB := HG3.out
          have h9 := (FenR.step (v' := v') HD1.out HF.out.same HF.out.num HF.out.foot HG1.out HFI.out HLX.out HPI.out HRG1.out (HG2.out.mono (fun k h => .inl h) |>.trans (Gr.of_grown (X := fun k => k = L'.pb i ∨ k = L'.ob) hB (fun k hk => by cases hk; exact .inl (.inr rfl))) (fun i h => .inl h)) (by rw [HZ.out]; exact HM3.out.congr (fun x => old_less x)) (fun h => absurd HZ.out h) HV2.out).2
          rw [h9]
          exact HLT.out
      · obtain ⟨q, hq⟩ : ∃ q, q = ((σ.past i).drop p).length := ⟨_, rfl⟩
        have hz2 : (0 : Int) < (q : Int) := by
          have := List.length_pos_iff.2 hz
          omega
        have HZ := hide hz
        have HQ := hide hq
        clear hz hq
        go_wp2_with (first | (at_lookup; refine wpList_look_ptr' rfl (.tmp 25) (.tmp 26) rfl L'.ob L'.N (oldF L' (fenL σ left)) (by kernel_rfl) HD1.out.old (i : Int) (by simp [Act.eval]) hwx (L'.pb i) HOF.out ?_) | (go_at_call 63; refine (KD.out).mono ?_; rintro e W2 ⟨rfl, v', hp2, hv2, hg2⟩; have cz : W2.cell? ⟨L'.pb i, 1, none⟩ = some (.int .i64 (q : Int)) := (by have h5 := cell8 hp2.1 1; rw [← HQ.out] at h5; exact h5); have hm2 := HD1.out.old.of_block (hg2.block (lt_of_heap HOB.out) HOP.out); have HP2 := hide hp2; have HV2 := hide hv2; have HG2 := hide hg2; have HM2 := hide hm2; clear hp2 hv2 hg2 hm2))
        go_roundw
        case rel => exact ⟨_, _, (FenR.step (v' := v') HD1.out HF.out.same HF.out.num HF.out.foot HG1.out HFI.out HLX.out HPI.out HRG1.out (HG2.out.mono (fun k h => .inl h)) (HM2.out.congr (fun x => old_same HPI2.out HZ.out x)) (fun _ => HP2.out) HV2.out).1⟩
        case measure =>
          have h9 := (FenR.step (v' := v') HD1.out HF.out.same HF.out.num HF.out.foot HG1.out HFI.out HLX.out HPI.out HRG1.out (HG2.out.mono (fun k h => .inl h)) (HM2.out.congr (fun x => old_same HPI2.out HZ.out x)) (fun _ => HP2.out) HV2.out).2
          rw [h9]
          exact HLT.out
end
end Go.Proofs.Ytgfgihpkbbjkfaa
