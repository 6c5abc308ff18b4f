/- Package pmem: the power goes. -/
import Derived.Test.YtgfgihpkbbjkfaaPLosA
namespace Go.Proofs.Ytgfgihpkbbjkfaa
open Go.RowKit Go.Shelf
set_option linter.unusedVariables false

theorem below_drewN {n : Nat} {a b : World} (h : Below n a b) (k : Nat) : Below n a (b.drewN k) := ⟨h.os, h.tape, h.output, h.size, h.block⟩
section
variable {w : World} {b : Nat} {L : Lay} {σ : St} {a : Option Addr} {kp : List Nat}
/-- What a loss of power leaves. -/
structure Lost (σ : St) (kp : List Nat) (σ' : St) : Prop where
  n : σ'.n = σ.n
  past : σ'.past = fun _ => []
  fl : σ'.fl = fun _ => none
  ops : σ'.ops = σ.ops
  arms : σ'.arms = σ.arms
  cnt : σ'.cnt = σ.cnt
  off : σ'.off = true
  len : σ'.bytes.length = 64 * σ.n
  byte : ∀ x ∈ σ'.bytes, x < 256
  lines : ∀ j, j < σ.n → σ'.line j = lost σ kp j
set_option maxRecDepth 100000 in
set_option maxHeartbeats 1000000 in
theorem plose_kb (cap : Nat) (h : DevL w b L σ) (hok : σ.Ok) (hk : SlN w a kp) (hkl : kp.length ≤ 17592186043904) : Calls Try.prog 66 #[.pointer (some ⟨b, 0, none⟩), .slice a kp.length cap] w fun e w' =>
    e = .returned (.tuple #[]) ∧ ∃ L' σ', Lost σ kp σ' ∧ DevL w' b L' σ' ∧ (∀ k, Foot b L' σ' k → Foot b L σ k ∨ w.heap.size ≤ k) ∧ Gr (fun k => k = b ∨ k = L.sb) w w' ∧ L'.N ≤ L.N ∧ L'.KB = L.KB := by
  have c2 := h.c2
  have HD := hide h
  have HOK := hide hok
  have HK := hide hk
  clear h hok hk
  generalize hm : kp.length = m at *
  have HM := hide hm
  clear hm
  go_enter Try.func66, Try.ntmps66
  go_wp2_with (at_range; refine wpList_range_ptr rfl (.tmp 10) rfl L.ob L.N (oldF L σ) (by kernel_rfl) HD.out.old ?_; intro W0 hrg0 hg0 hs0; have HRG0 := hide hrg0; have HG0 := hide hg0; have HS0 := hide hs0; clear hrg0 hg0 hs0)
  go_frame
  go_loopw [] (fun wr => ∃ left bs, LosR w b L σ kp w.heap.size wr left bs) (fun wr => wr.rangeLeft L.ob w.heap.size)
  case atStart => exact ⟨_, _, LosR.start HD.out HOK.out HRG0.out HG0.out⟩
  case round =>
    obtain ⟨left, bs, hF⟩ := hrel
    have HF := hide hF
    clear hF
    go_wp2_with (at_next; refine wpList_next_g ptrL rfl (.tmp 11) rfl L.ob w.heap.size L.N (oldF L σ) left (by kernel_rfl) HF.out.ran ?_ ?_)
    · intro hl0
      have ks := psettle_any HF.out.dev.dev
      have hd2 := dev_settle HF.out.dev
      have c7 := hd2.c7
      have f7 := hd2.fz 7
      have KS := hide ks
      have HL0 := hide hl0
      have HD2 := hide hd2
      clear ks hl0 hd2 c2
      go_wp2_with (go_at_call 69; refine (KS.out).mono ?_; rintro e w' ⟨rfl, hw'⟩; obtain rfl := hw')
      go_end0
      have hdf : DevL ((setW wr b).setCell ⟨b, 7, none⟩ (.bool true)) b { L with ob := wr.heap.size, fb := wr.heap.size + 1, N := 0 } { ({ σ with bytes := bs } : St).settled with off := true } := HD2.out.re (ops := σ.ops) (cnt := σ.cnt) (off := true) (by rw [heap_set1 _ b 7 _ _ _ HD2.out.dev]; rfl) (fun k hk _ => heap_set_ne _ b 7 k _ hk)
      refine ⟨rfl, _, { ({ σ with bytes := bs } : St).settled with off := true }, ⟨rfl, rfl, rfl, rfl, rfl, rfl, rfl, HF.out.len, HF.out.byte, fun j hj => ?_⟩, hdf, fun k hk => ?_, ?_, Nat.zero_le _, rfl⟩
      · have h5 := HF.out.lines j hj
        rw [HL0.out] at h5
        exact h5
      · have := HF.out.gr.size
        rcases hk with h | h | h | h | ⟨i, hi, _⟩ | h | h
        · exact .inl (.inl h)
        · exact .inl (.inr (.inl h))
        · exact .inr (by rw [h]; exact this)
        · exact .inr (by rw [h]; show w.heap.size ≤ wr.heap.size + 1; omega)
        · exact absurd rfl hi
        · exact .inl (.inr (.inr (.inr (.inr (.inr (.inl h))))))
        · exact .inl (.inr (.inr (.inr (.inr (.inr (.inr h))))))
      · have h5 := (setW_facts HF.out.dev.dev).2.2.2.1
        exact ((HF.out.gr.mono (fun k h => .inr h) : Gr (fun k => k = b ∨ k = L.sb) w wr).trans h5 (fun i h => .inl (.inl h))).trans (Gr.set _ b 7 _ (X := fun k => k = b) rfl) (fun i h => .inl (.inl h))
    · intro x p w1 hwx hfx hlx hrg1 hlt hg1 hs1 hen
      dsimp only [ptrV] at hen ⊢
      obtain ⟨hD1, hG1⟩ := HF.out.next hg1 (Nat.le_refl _)
      obtain ⟨i, rfl, hpi, rfl⟩ : ∃ i : Nat, x = (i : Int) ∧ σ.past i ≠ [] ∧ p = L.pb i := by
        unfold oldF at hfx
        split at hfx
        · rename_i h5
          cases hfx
          exact ⟨x.toNat, by omega, h5.2, rfl⟩
        · cases hfx
      have hi : i < σ.n := Nat.lt_of_not_le fun h5 => hpi (HOK.out.out i h5)
      have hP : PastAt w1 (L.pb i) (L.rv i) (σ.past i) := hD1.pasts i hpi
      have hfew := HOK.out.few i
      have hopm := HOK.out.opsm
      obtain ⟨rs, hR, hex⟩ := hP.runs
      obtain ⟨n, hn⟩ : ∃ n, n = (σ.past i).length := ⟨_, rfl⟩
      have hn0 : 0 < n := by rw [hn]; exact List.length_pos_iff.2 hpi
      have cn : w1.cell? ⟨L.pb i, 1, none⟩ = some (.int .i64 (n : Int)) := by rw [hn]; exact cell8 hP.1 1
      have ka := fun k c (hc : (σ.past i)[k]? = some c) (X : World) (hX : PastR X (L.pb i) (L.rv i) (σ.past i).length rs) => pat_any (L.pb i) (σ.past i).length k (L.rv i) rs c X hX (by have := (List.getElem?_eq_some_iff.1 hc).1; omega) (by have h5 := exR_len rs hR.2.2; rw [hex] at h5; omega) (fun r hr => by
        obtain ⟨q, s, e⟩ := List.append_of_mem hr
        have h1 : (exR rs).length = (σ.past i).length := by rw [hex]
        rw [e, exR_append, exR_cut r.1 s r.2] at h1
        simp at h1
        omega) (by rw [hex]; exact hc)
      have c1 := hD1.c1
      have hkw := HK.out.keep (w' := w1) (fun k c f hk => hG1.block (lt_of_heap hk) (ne_ty hk HD.out.seen (by decide)))
      have HR := hide hR
      have HD1 := hide hD1
      have HG1 := hide hG1
      have HRG1 := hide hrg1
      have HLT := hide hlt
      have HLX := hide hlx
      by_cases hik : i < m
      · obtain ⟨kk, hkk⟩ : ∃ kk, kp[i]? = some kk := ⟨_, List.getElem?_eq_getElem (by rw [HM.out]; exact hik)⟩
        obtain ⟨g, o, rfl, hck, hkb⟩ := hkw.at hkk
        obtain ⟨k, hkq⟩ : ∃ k, k = kk % (n + 1) := ⟨_, rfl⟩
        have hkle : k ≤ n := by have := Nat.mod_lt kk (show 0 < n + 1 by omega); omega
        have htm : (kk : Int).tmod ((n : Int) + 1) = (k : Int) := by rw [Int.tmod_eq_emod_of_nonneg (by omega), hkq, Int.natCast_emod]; rfl
        have hlk : lostK σ kp i = k := by unfold lostK; rw [hkk]; simp only; rw [← hn, hkq]
        have l0 := index_int g o i m cap hik
        have hikI : (i : Int) < (m : Int) := by omega
        have hnI : (n : Int) ≤ 1400000000000 := by omega
        have hnp : (0 : Int) < (n : Int) := by omega
        by_cases hkn : k < n
        · have hknI : (k : Int) < (n : Int) := by omega
          obtain ⟨c, hc⟩ : ∃ c, (σ.past i)[k]? = some c := ⟨_, List.getElem?_eq_getElem (by omega)⟩
          have hls : lost σ kp i = c := by unfold lost; rw [hlk, hc]; rfl
          have KA := hide (ka _ _ hc)
          have HC64 := hide (HOK.out.clen i c (List.mem_of_getElem? hc))
          have HCB := hide (HOK.out.cbyte i c (List.mem_of_getElem? hc))
          have HLOST := hide hls
          have SB := hide c1
          clear ka hls hc hlk hn hP hR hex hfew hopm hD1 hG1 hrg1 hlt hg1 hs1 hfx hlx hpi hkw c2 HM HK hkl c1 hkk hkq hik hkn hn0 hkle
          go_wp2_with (fail)
          go_quiet (fail)
          go_wp2_with (fail)
          refine wp_region_early 9 (fun X => X.cell? ⟨b, 1, none⟩ = some (.slice (some ⟨L.sb, 0, none⟩) σ.n L.cp)) (by kernel_rfl) SB.out (fun hS => ?_)
          refine wpAnyE_take (i := 0) (v := (.pointer (some ⟨b, 0, none⟩))) rfl (by kernel_rfl) (by kernel_rfl) (by kernel_rfl) (by kernel_rfl) (fun _ _ _ h => h) (Or.inl ⟨by kernel_rfl, fun w' hw => by (go_simp)⟩) hS ?_
          refine wpAnyE_take (i := 1) (v := (.pointer (some ⟨b, 0, none⟩))) rfl (by kernel_rfl) (by kernel_rfl) (by kernel_rfl) (by kernel_rfl) (fun _ _ _ h => h) (Or.inl ⟨by kernel_rfl, fun w' hw => by (go_simp)⟩) hS ?_
          refine wpAnyE_take (i := 2) (v := (.pointer (some ⟨b, 1, none⟩))) rfl (by kernel_rfl) (by kernel_rfl) (by kernel_rfl) (by kernel_rfl) (fun _ _ _ h => h) (Or.inl ⟨by kernel_rfl, fun w' hw => by (go_simp)⟩) hS ?_
          refine wpAnyE_take (i := 3) (v := (.slice (some ⟨L.sb, 0, none⟩) σ.n L.cp)) rfl (by kernel_rfl) (by kernel_rfl) (by kernel_rfl) (by kernel_rfl) (fun _ _ _ h => h) (Or.inl ⟨by kernel_rfl, fun w' hw => by (go_simp)⟩) hS ?_
          refine wpAnyE_take (i := 4) (v := (.int .i64 (i : Int))) rfl (by kernel_rfl) (by kernel_rfl) (by kernel_rfl) (by kernel_rfl) (fun _ _ _ h => h) (Or.inl ⟨by kernel_rfl, fun w' hw => by (go_simp)⟩) hS ?_
          refine wpAnyE_take (i := 5) (v := (.pointer (some ⟨L.pb i, 0, none⟩))) rfl (by kernel_rfl) (by kernel_rfl) (by kernel_rfl) (by kernel_rfl) (fun _ _ _ h => h) (Or.inl ⟨by kernel_rfl, fun w' hw => by (go_simp)⟩) hS ?_
          refine wpAnyE_take (i := 6) (v := (.int .i64 (k : Int))) rfl (by kernel_rfl) (by kernel_rfl) (by kernel_rfl) (by kernel_rfl) (fun _ _ _ h => h) (Or.inl ⟨by kernel_rfl, fun w' hw => by (go_simp)⟩) hS ?_
          refine wpAnyE_do (i := 7) (by kernel_rfl) rfl (by kernel_rfl) (fun K hK => ?_)
          go_wp2_with (go_at_call 82; refine (KA.out _ ?hx).mono ?_; (case hx => exact HR.out); rintro e W4 ⟨rfl, hB⟩; have HB := hide (bseq ((below_drewN (Below.refl _ w1) nq).drew) hB : Below w1.heap.size w1 W4); clear hB)
          have s4 : W4.cell? ⟨b, 1, none⟩ = some (.slice (some ⟨L.sb, 0, none⟩) σ.n L.cp) := cell8 ((HB.out.block b (lt_of_heap HD1.out.dev)).trans HD1.out.dev) 1
          refine hK.out _ _ (fun _ => s4) ?_
          clear hK K
          refine wpAnyE_take (i := 8) (v := (.pointer (some ⟨L.sb, i * 64, none⟩))) rfl (by kernel_rfl) (by kernel_rfl) (by kernel_rfl) (by kernel_rfl) (fun _ _ _ h => h) (Or.inl ⟨by kernel_rfl, fun w' hw => by (have e := index_line L.sb i σ.n L.cp hi w'; go_simp)⟩) s4 ?_
          have th : W4.there L.sb (i * 64) (c.map B8).toArray.size := there_row ((HB.out.block _ (lt_of_heap HD1.out.seen)).trans HD1.out.seen) _ _ (by rw [List.size_toArray, List.length_map, List.length_append, List.length_map, HC64.out]; show _ ≤ bs.length + _; rw [HF.out.len]; omega)
          have TH := hide th
          clear th
          have si : (Try.prog.info? 73).map (·.size) = some (c.map B8).toArray.size := by rw [List.size_toArray, List.length_map, HC64.out]; kernel_rfl
          have SI := hide si
          clear si
          have S1 := hide (all_oneCell_toArray (B8_cell c))
          refine wpAnyE_store 73 (.tmp 45) (.tmp 44) L.sb (i * 64) (c.map B8).toArray (by kernel_rfl) rfl (by kernel_rfl) (by kernel_rfl) (by kernel_rfl) (by kernel_rfl) (by kernel_rfl) TH.out SI.out S1.out ?_
          simp only [Act.put, List.getElem_toArray, List.getElem_cons_zero, List.getElem_cons_succ, List.setIfInBounds_toArray, List.set_cons_zero, List.set_cons_succ]
          have hfin := LosR.other HD1.out HF.out.len HF.out.byte HF.out.lines HG1.out HRG1.out hi HC64.out HCB.out HLOST.out HB.out
          have FIN := hide hfin
          clear hfin
          go_wp2_with (fail)
          go_roundw
          case rel => exact ⟨_, _, FIN.out.1⟩
          case measure => rw [FIN.out.2]; exact HLT.out
        · have hknI : ¬ (k : Int) < (n : Int) := by omega
          have hls : lost σ kp i = σ.line i := by unfold lost; rw [hlk, List.getElem?_eq_none (by omega)]; rfl
          have HLOST := hide hls
          clear hkk hkq hik hkn hn0 hkle ka hls hlk hn hP hR hex hfew hopm hD1 hG1 hrg1 hlt hg1 hs1 hfx hlx hpi hkw c2 HM HK hkl c1
          go_wp2_with (fail)
          go_quiet (fail)
          go_wp2_with (fail)
          have hfin : LosR w b L σ kp w.heap.size (w1.drewN nq) (fun y => left y && !decide (y = (i : Int))) bs := LosR.same (HD1.out.keep (fun _ _ => rfl)) HF.out.len HF.out.byte HF.out.lines (HG1.out.drewN nq) (HRG1.out.kept rfl rfl).1 HLX.out HLOST.out
          exact ⟨⟨_, _, hfin⟩, HLT.out⟩
      · have hkk : kp[i]? = none := List.getElem?_eq_none (by rw [HM.out]; omega)
        have hlk : lostK σ kp i = 0 := by unfold lostK; rw [hkk]
        have hikI : ¬ (i : Int) < (m : Int) := by omega
        have hnI : (0 : Int) < (n : Int) := by omega
        obtain ⟨c, hc⟩ : ∃ c, (σ.past i)[0]? = some c := ⟨_, List.getElem?_eq_getElem (by omega)⟩
        have hls : lost σ kp i = c := by unfold lost; rw [hlk, hc]; rfl
        have KA := hide (ka _ _ hc)
        have HC64 := hide (HOK.out.clen i c (List.mem_of_getElem? hc))
        have HCB := hide (HOK.out.cbyte i c (List.mem_of_getElem? hc))
        have HLOST := hide hls
        have SB := hide c1
        clear ka hls hc hlk hn hP hR hex hfew hopm hD1 hG1 hrg1 hlt hg1 hs1 hfx hlx hpi hkw c2 HM HK hkl c1 hkk hik hn0
        go_wp2_with (fail)
        refine wp_region_early 9 (fun X => X.cell? ⟨b, 1, none⟩ = some (.slice (some ⟨L.sb, 0, none⟩) σ.n L.cp)) (by kernel_rfl) SB.out (fun hS => ?_)
        refine wpAnyE_take (i := 0) (v := (.pointer (some ⟨b, 0, none⟩))) rfl (by kernel_rfl) (by kernel_rfl) (by kernel_rfl) (by kernel_rfl) (fun _ _ _ h => h) (Or.inl ⟨by kernel_rfl, fun w' hw => by (go_simp)⟩) hS ?_
        refine wpAnyE_take (i := 1) (v := (.pointer (some ⟨b, 0, none⟩))) rfl (by kernel_rfl) (by kernel_rfl) (by kernel_rfl) (by kernel_rfl) (fun _ _ _ h => h) (Or.inl ⟨by kernel_rfl, fun w' hw => by (go_simp)⟩) hS ?_
        refine wpAnyE_take (i := 2) (v := (.pointer (some ⟨b, 1, none⟩))) rfl (by kernel_rfl) (by kernel_rfl) (by kernel_rfl) (by kernel_rfl) (fun _ _ _ h => h) (Or.inl ⟨by kernel_rfl, fun w' hw => by (go_simp)⟩) hS ?_
        refine wpAnyE_take (i := 3) (v := (.slice (some ⟨L.sb, 0, none⟩) σ.n L.cp)) rfl (by kernel_rfl) (by kernel_rfl) (by kernel_rfl) (by kernel_rfl) (fun _ _ _ h => h) (Or.inl ⟨by kernel_rfl, fun w' hw => by (go_simp)⟩) hS ?_
        refine wpAnyE_take (i := 4) (v := (.int .i64 (i : Int))) rfl (by kernel_rfl) (by kernel_rfl) (by kernel_rfl) (by kernel_rfl) (fun _ _ _ h => h) (Or.inl ⟨by kernel_rfl, fun w' hw => by (go_simp)⟩) hS ?_
        refine wpAnyE_take (i := 5) (v := (.pointer (some ⟨L.pb i, 0, none⟩))) rfl (by kernel_rfl) (by kernel_rfl) (by kernel_rfl) (by kernel_rfl) (fun _ _ _ h => h) (Or.inl ⟨by kernel_rfl, fun w' hw => by (go_simp)⟩) hS ?_
        refine wpAnyE_take (i := 6) (v := (.int .i64 (0 : Int))) rfl (by kernel_rfl) (by kernel_rfl) (by kernel_rfl) (by kernel_rfl) (fun _ _ _ h => h) (Or.inl ⟨by kernel_rfl, fun w' hw => by (go_simp)⟩) hS ?_
        refine wpAnyE_do (i := 7) (by kernel_rfl) rfl (by kernel_rfl) (fun K hK => ?_)
        go_wp2_with (go_at_call 82; refine (KA.out _ ?hx).mono ?_; (case hx => exact HR.out); rintro e W4 ⟨rfl, hB⟩; have HB := hide (bseq ((Below.refl _ w1).drew) hB : Below w1.heap.size w1 W4); clear hB)
        have s4 : W4.cell? ⟨b, 1, none⟩ = some (.slice (some ⟨L.sb, 0, none⟩) σ.n L.cp) := cell8 ((HB.out.block b (lt_of_heap HD1.out.dev)).trans HD1.out.dev) 1
        refine hK.out _ _ (fun _ => s4) ?_
        clear hK K
        refine wpAnyE_take (i := 8) (v := (.pointer (some ⟨L.sb, i * 64, none⟩))) rfl (by kernel_rfl) (by kernel_rfl) (by kernel_rfl) (by kernel_rfl) (fun _ _ _ h => h) (Or.inl ⟨by kernel_rfl, fun w' hw => by (have e := index_line L.sb i σ.n L.cp hi w'; go_simp)⟩) s4 ?_
        have th : W4.there L.sb (i * 64) (c.map B8).toArray.size := there_row ((HB.out.block _ (lt_of_heap HD1.out.seen)).trans HD1.out.seen) _ _ (by rw [List.size_toArray, List.length_map, List.length_append, List.length_map, HC64.out]; show _ ≤ bs.length + _; rw [HF.out.len]; omega)
        have TH := hide th
        clear th
        have si : (Try.prog.info? 73).map (·.size) = some (c.map B8).toArray.size := by rw [List.size_toArray, List.length_map, HC64.out]; kernel_rfl
        have SI := hide si
        clear si
        have S1 := hide (all_oneCell_toArray (B8_cell c))
        refine wpAnyE_store 73 (.tmp 45) (.tmp 44) L.sb (i * 64) (c.map B8).toArray (by kernel_rfl) rfl (by kernel_rfl) (by kernel_rfl) (by kernel_rfl) (by kernel_rfl) (by kernel_rfl) TH.out SI.out S1.out ?_
        simp only [Act.put, List.getElem_toArray, List.getElem_cons_zero, List.getElem_cons_succ, List.setIfInBounds_toArray, List.set_cons_zero, List.set_cons_succ]
        have hfin := LosR.other HD1.out HF.out.len HF.out.byte HF.out.lines HG1.out HRG1.out hi HC64.out HCB.out HLOST.out HB.out
        have FIN := hide hfin
        clear hfin
        go_wp2_with (fail)
        go_roundw
        case rel => exact ⟨_, _, FIN.out.1⟩
        case measure => rw [FIN.out.2]; exact HLT.out
theorem plose_any (cap : Nat) (h : DevL w b L σ) (hok : σ.Ok) (hk : SlN w a kp) (hkl : kp.length ≤ 17592186043904) : Calls Try.prog 66 #[.pointer (some ⟨b, 0, none⟩), .slice a kp.length cap] w fun e w' =>
    e = .returned (.tuple #[]) ∧ ∃ L' σ', Lost σ kp σ' ∧ DevL w' b L' σ' ∧ (∀ k, Foot b L' σ' k → Foot b L σ k ∨ w.heap.size ≤ k) ∧ Gr (fun k => k = b ∨ k = L.sb) w w' ∧ L'.N ≤ L.N :=
  (plose_kb cap h hok hk hkl).mono fun e w' ⟨h0, L', σ', h1, h2, h3, h4, h5, _⟩ => ⟨h0, L', σ', h1, h2, h3, h4, h5⟩
end
end Go.Proofs.Ytgfgihpkbbjkfaa
