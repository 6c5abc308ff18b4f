/- Package ulog: what Rollback does, as operations. -/
import Derived.Test.YtgfgihpkbbjkfaaUgMM
import Derived.Laws.ResultCell
import Derived.Lib.ConvBytes
namespace Go.Proofs.Ytgfgihpkbbjkfaa
open Go.RowKit Go.Shelf
set_option linter.unusedVariables false
set_option maxRecDepth 100000

theorem OwnR.slice {W : World} {B : Nat} {v : Value} {bs : List Nat} (h : OwnR W B v bs) (hb : ∀ x ∈ bs, x < 256) (hne : 1 ≤ bs.length) : ∃ g cp, v = .slice (some ⟨g, 0, none⟩) bs.length cp ∧ Sl W (some ⟨g, 0, none⟩) bs ∧ B ≤ g ∧ bs.length ≤ cp ∧ ∃ cur, W.heap[g]? = some (.cells cur 5 (0, 0)) := by
  rcases h.2 with ⟨rfl, e⟩ | ⟨g, cap, cur, rfl, h1, h2, h3, h4, h5, h6⟩
  · omega
  · refine ⟨g, cap, rfl, .inr ⟨g, 0, rfl, lt_of_heap h2, fun i y hy => ⟨?_, hb y (List.mem_of_getElem? hy)⟩⟩, h1, h3, cur, h2⟩
    have hi : i < bs.length := (List.getElem?_eq_some_iff.1 hy).1
    have h9 : (cur.toList.take (bs.length * 1))[i]? = some (B8 y) := by rw [h6, List.getElem?_map, hy]; rfl
    rw [List.getElem?_take, if_pos (by omega)] at h9
    rw [Nat.zero_add, cell8 h2]
    simpa [B8] using h9
set_option maxHeartbeats 400000 in
theorem lstore_any {w : World} {g b a z m cap : Nat} {L : Lay} {σ : St} {ea : Option Addr} {xs : List (Int × Int)} (h : LogL w g b a z) (hd : Dv w b L σ) (ha : 64 ≤ a) (hz : 64 ≤ z) (haz : a + z ≤ 64 * σ.n) (hops : σ.ops + 20000000 ≤ 1400000000000) (he : SlE w ea xs) (hm : xs.length = m) (hml : m ≤ 4194304) (hfine : ∀ x ∈ xs, Fine a z σ.n x) (hroom : (recsB σ.bytes xs).length ≤ z - 64) :
    Calls Try.prog 31 #[.pointer (some ⟨g, 0, none⟩), .slice ea m cap] w fun e w' => ∃ c s, e = .returned (.int .i64 c) ∧ RunD (recsF σ.bytes (a + 64) xs) σ c s ∧ Atd w b L σ w' s (recsF σ.bytes (a + 64) xs).length := by
  have hmx := hd.ok.max
  obtain ⟨B, hBs⟩ : ∃ B, σ.bytes = B := ⟨_, rfl⟩
  rw [hBs] at hroom ⊢
  have hB64 : B.length = 64 * σ.n := by rw [← hBs]; exact hd.ok.len
  have hb256 : ∀ y ∈ B, y < 256 := by rw [← hBs]; exact hd.ok.byte
  have KRM := hide (lroom_any h (by omega))
  have HL := hide h
  have HD := hide hd
  have HE := hide he
  have HM := hide hm
  have HF := hide hfine
  have HRM := hide hroom
  have HB64 := hide hB64
  have HB256 := hide hb256
  have HBS := hide hBs
  clear h hd he hm hfine hroom hB64 hb256 hBs
  go_enter Try.func31, Try.ntmps31
  go_wp2_with (go_at_call 33; refine (KRM.out).mono ?_; rintro e w' ⟨rfl, hw⟩; obtain rfl := hw.symm)
  go_loopw [5, 16] (fun av iv wr => ∃ (j : Nat) (s : St), iv = .int .i64 (j : Int) ∧ av = .int .i64 ((a + 64 + (recsB B (xs.take j)).length : Nat) : Int) ∧ j ≤ m ∧ Recs a σ.n B (xs.take j) σ s ∧ Atd w b L σ wr s (recsF B (a + 64) (xs.take j)).length ∧ (recsF B (a + 64) (xs.take j)).length ≤ (recsB B (xs.take j)).length) (fun av iv _ => (m - (intOf iv).toNat))
  case atStart => exact ⟨0, σ, rfl, rfl, Nat.zero_le _, Recs.start HD.out.ok HBS.out.symm, Atd.start HD.out.dev (Below.refl _ _), Nat.le_refl _⟩
  case round =>
    obtain ⟨j, s, rfl, hav, hj, hrec, hat, hfew⟩ := hrel
    obtain ⟨at0, hat0⟩ : ∃ at0, a + 64 + (recsB B (xs.take j)).length = at0 := ⟨_, rfl⟩
    rw [hat0] at hav
    subst hav
    have HAT0 := hide hat0
    clear hat0
    by_cases hlt : j < m
    · obtain ⟨⟨x, l⟩, hx⟩ : ∃ x, xs[j]? = some x := ⟨_, List.getElem?_eq_getElem (by rw [HM.out]; exact hlt)⟩
      have hfx : Fine a z σ.n (x, l) := HF.out _ (List.mem_of_getElem? hx)
      obtain ⟨xn, hxn⟩ : ∃ xn : Nat, x = (xn : Int) := ⟨x.toNat, by have := hfx.1; simp only at this; omega⟩
      obtain ⟨ln, hln⟩ : ∃ ln : Nat, l = (ln : Int) := ⟨l.toNat, by have := hfx.2.1; simp only at this; omega⟩
      subst hxn hln
      have hts : xs.take (j + 1) = xs.take j ++ [((xn : Int), (ln : Int))] := by rw [List.take_add_one, hx]; rfl
      have hpre : (recsB B (xs.take (j + 1))).length ≤ z - 64 := by
        have e : recsB B xs = recsB B (xs.take (j + 1)) ++ recsB B (xs.drop (j + 1)) := by
          unfold recsB
          rw [← List.flatMap_append, List.take_append_drop]
        have h5 := HRM.out
        rw [e, List.length_append] at h5
        omega
      have hfj : ∀ y ∈ xs.take j ++ [((xn : Int), (ln : Int))], Fine a z σ.n y := fun y hy => HF.out y (by rw [← hts] at hy; exact List.mem_of_mem_take hy)
      rw [hts] at hpre
      have hpre2 := hpre
      rw [show recsB B (xs.take j ++ [((xn : Int), (ln : Int))]) = recsB B (xs.take j) ++ recOf B ((xn : Int), (ln : Int)) by simp [recsB], List.length_append] at hpre2
      have hops2 : σ.ops + 10000000 ≤ 1400000000000 := by omega
      obtain ⟨hnx, hnl⟩ := Recs.next (z := z) HD.out.ok rfl HBS.out.symm hrec hfj hpre hz haz hops2 (by omega)
      have hold := Recs.old HB64.out hrec hfx (by omega) hz haz
      have hrl := rec_len hfx HB64.out
      have hol := fine_old hfx HB64.out
      obtain ⟨f1, f2, f3, f4⟩ := hfx
      simp only at f1 f2 f3 f4 hold hrl hol
      obtain ⟨L1, hdv, hgr1, hft1, hn1L⟩ := HD.out.went hat hrec.like (by omega)
      simp only [Int.toNat_natCast] at hold hrl hol
      have hlog := HL.out.atd HD.out.dev hat
      obtain ⟨eg, eo, hea, hc0, hc1⟩ := (HE.out.atd HD.out.dev hat).at hx
      subst hea
      have ix := fun X => index_ext eg eo j m cap hlt X
      have jI : (j : Int) < (m : Int) := by omega
      have hB1 : Below wr.heap.size wr (wr.alloc (.cells #[.int .i64 (xn : Int), .int .i64 (ln : Int)] 52)) := (Below.refl _ wr).alloc (Nat.le_refl _) _
      have hnew := heap_alloc_new wr (.cells #[.int .i64 (xn : Int), .int .i64 (ln : Int)] 52)
      have hn1 := hrec.like.n
      have S5 := hide (show LogL (wr.alloc (.cells #[.int .i64 (xn : Int), .int .i64 (ln : Int)] 52)).drew g b a z ∧ (wr.alloc (.cells #[.int .i64 (xn : Int), .int .i64 (ln : Int)] 52)).drew.heap[wr.heap.size]? = some (.cells #[.int .i64 (xn : Int), .int .i64 (ln : Int)] 52 (0, 0)) from ⟨(hlog.below hB1).drew, hnew⟩)
      have hdv1 := hdv.below (bseq hB1 (Below.refl _ _).drew)
      have kld := dv_load (at_ := xn) (n := ln) hdv1 (by omega)
      rw [hold] at kld
      have KLD := hide kld
      have HB1 := hide (bseq hB1 (Below.refl _ _).drew)
      have HDV1 := hide hdv1
      have HREC := hide hrec
      have HAT := hide hat
      have HNX := hide hnx
      have HNL := hide hnl
      have HGR1 := hide hgr1
      have HFT1 := hide hft1
      have HN1L := hide hn1L
      have HTS := hide hts
      have HRL := hide hrl
      have HOL := hide hol
      have HFEW := hide hfew
      have HPRE2 := hide hpre2
      have HN1 := hide hn1
      have HXB := hide (And.intro f1 (And.intro f2 f3))
      clear hrec hat hfew hnx hnl hold hrl hol hdv hgr1 hft1 hn1L hlog hB1 hnew kld hdv1 hts hpre hpre2 hfj hx hn1 f1 f2 f3 f4
      go_wp2_with (fail)
      refine wp_region_held_drew (S := fun Y => LogL Y g b a z ∧ Y.heap[wr.heap.size]? = some (.cells #[.int .i64 (xn : Int), .int .i64 (ln : Int)] 52 (0, 0))) (by kernel_rfl) S5.out (fun hS => ?_)
      refine wpAnyH_take (i := 0) (v := (.pointer (some ⟨g, 0, none⟩))) rfl (by kernel_rfl) (by kernel_rfl) (by kernel_rfl) (fun _ _ _ h => h) (Or.inl ⟨by kernel_rfl, fun w' hw => by (go_simp)⟩) hS ?_
      refine wpAnyH_take (i := 1) (v := (.pointer (some ⟨g, 0, none⟩))) rfl (by kernel_rfl) (by kernel_rfl) (by kernel_rfl) (fun _ _ _ h => h) (Or.inl ⟨by kernel_rfl, fun w' hw => by (go_simp)⟩) hS ?_
      refine wpAnyH_take (i := 2) (v := (.pointer (some ⟨g, 1, none⟩))) rfl (by kernel_rfl) (by kernel_rfl) (by kernel_rfl) (fun _ _ _ h => h) (Or.inl ⟨by kernel_rfl, fun w' hw => by (go_simp)⟩) hS ?_
      refine wpAnyH_take (i := 3) (v := (.pointer (some ⟨b, 0, none⟩))) rfl (by kernel_rfl) (by kernel_rfl) (by kernel_rfl) (fun _ _ _ h => h) (Or.inl ⟨by kernel_rfl, fun w' hw => by (have z1 := LogL.c1 hw.1; have z4 : w'.cell? ⟨wr.heap.size, 0, none⟩ = some (.int .i64 (xn : Int)) := cell8 hw.2 0; have z5 : w'.cell? ⟨wr.heap.size, 1, none⟩ = some (.int .i64 (ln : Int)) := cell8 hw.2 1; go_simp)⟩) hS ?_
      refine wpAnyH_take (i := 4) (v := (.pointer (some ⟨wr.heap.size, 0, none⟩))) rfl (by kernel_rfl) (by kernel_rfl) (by kernel_rfl) (fun _ _ _ h => h) (Or.inl ⟨by kernel_rfl, fun w' hw => by (go_simp)⟩) hS ?_
      refine wpAnyH_take (i := 5) (v := (.int .i64 (xn : Int))) rfl (by kernel_rfl) (by kernel_rfl) (by kernel_rfl) (fun _ _ _ h => h) (Or.inl ⟨by kernel_rfl, fun w' hw => by (have z1 := LogL.c1 hw.1; have z4 : w'.cell? ⟨wr.heap.size, 0, none⟩ = some (.int .i64 (xn : Int)) := cell8 hw.2 0; have z5 : w'.cell? ⟨wr.heap.size, 1, none⟩ = some (.int .i64 (ln : Int)) := cell8 hw.2 1; go_simp)⟩) hS ?_
      refine wpAnyH_take (i := 6) (v := (.pointer (some ⟨wr.heap.size, 1, none⟩))) rfl (by kernel_rfl) (by kernel_rfl) (by kernel_rfl) (fun _ _ _ h => h) (Or.inl ⟨by kernel_rfl, fun w' hw => by (go_simp)⟩) hS ?_
      refine wpAnyH_take (i := 7) (v := (.int .i64 (ln : Int))) rfl (by kernel_rfl) (by kernel_rfl) (by kernel_rfl) (fun _ _ _ h => h) (Or.inl ⟨by kernel_rfl, fun w' hw => by (have z1 := LogL.c1 hw.1; have z4 : w'.cell? ⟨wr.heap.size, 0, none⟩ = some (.int .i64 (xn : Int)) := cell8 hw.2 0; have z5 : w'.cell? ⟨wr.heap.size, 1, none⟩ = some (.int .i64 (ln : Int)) := cell8 hw.2 1; go_simp)⟩) hS ?_
      refine wpAnyH_goS (i := 8) (by kernel_rfl) rfl (by kernel_rfl) (fun K hK => ?_)
      go_wp2_with (go_at_call 21; refine (KLD.out).mono ?_; rintro e W2 ⟨RR, rfl, hRn, hRo, hRb⟩; have HRO := hide hRo; have HRN := hide hRn; have HRB := hide hRb; clear hRn hRo hRb)
      have hS2 := (show LogL W2 g b a z ∧ W2.heap[wr.heap.size]? = some (.cells #[.int .i64 (xn : Int), .int .i64 (ln : Int)] 52 (0, 0)) from ⟨S5.out.1.below HRB.out, row_keepU S5.out.2 HRB.out⟩)
      refine hK.out _ _ hS2 ?_
      clear hK K
      refine wpAnyH_take (i := 9) (v := (.tuple #[.slice (some ⟨RR, 0, none⟩) ln ln, .int .i64 0])) rfl (by kernel_rfl) (by kernel_rfl) (by kernel_rfl) (fun _ _ _ h => h) (Or.inl ⟨by kernel_rfl, fun w' hw => by (go_simp)⟩) hS2 ?_
      refine wpAnyH_take (i := 10) (v := (.slice (some ⟨RR, 0, none⟩) ln ln)) rfl (by kernel_rfl) (by kernel_rfl) (by kernel_rfl) (fun _ _ _ h => h) (Or.inl ⟨by kernel_rfl, fun w' hw => by (go_simp)⟩) hS2 ?_
      refine wpAnyH_take (i := 11) (v := (.int .i64 0)) rfl (by kernel_rfl) (by kernel_rfl) (by kernel_rfl) (fun _ _ _ h => h) (Or.inl ⟨by kernel_rfl, fun w' hw => by (go_simp)⟩) hS2 ?_
      refine wpAnyH_take (i := 12) (v := (.slice (some ⟨RR, 0, none⟩) ln ln)) rfl (by kernel_rfl) (by kernel_rfl) (by kernel_rfl) (fun _ _ _ h => h) (Or.inl ⟨by kernel_rfl, fun w' hw => by (go_simp)⟩) hS2 ?_
      refine wpAnyH_take (i := 13) (v := (.int .i64 0)) rfl (by kernel_rfl) (by kernel_rfl) (by kernel_rfl) (fun _ _ _ h => h) (Or.inl ⟨by kernel_rfl, fun w' hw => by (go_simp)⟩) hS2 ?_
      refine wpAnyH_done (by kernel_rfl) ?_ _
      simp only [Act.put, List.getElem_toArray, List.getElem_cons_zero, List.getElem_cons_succ, List.setIfInBounds_toArray, List.set_cons_zero, List.set_cons_succ]
      obtain ⟨f1, f2, f3⟩ := HXB.out
      have hoB : ∀ y ∈ oldOf B ((xn : Int), (ln : Int)), y < 256 := fun y hy => HB256.out y (List.mem_of_mem_drop (List.mem_of_mem_take hy))
      have hoR : (oldOf B ((xn : Int), (ln : Int))).length = ln := HOL.out
      have klai := llaid_any xn RR 0 (oldOf B ((xn : Int), (ln : Int))) ln W2 (fun i y hy => ⟨by rw [Nat.zero_add]; exact HRO.out.cell i y hy, hoB y (List.mem_of_getElem? hy)⟩) HRO.out.lt (by rw [hoR]; omega) (by rw [hoR]; omega) (by omega) hoB
      rw [hoR] at klai
      have e5 : recB xn (oldOf B ((xn : Int), (ln : Int))) = recOf B ((xn : Int), (ln : Int)) := rfl
      rw [e5] at klai
      have KLA := hide klai
      have c0 : W2.cell? ⟨wr.heap.size, 0, none⟩ = some (.int .i64 (xn : Int)) := cell8 hS2.2 0
      have LOG2 := hide hS2.1
      have HBW2 := hide (bseq HB1.out HRB.out)
      clear klai e5 hoB hoR hS hS2 KLD S5
      go_upto_region 9 with (go_at_call 56; refine (KLA.out).mono ?_; rintro e W3 ⟨rv, rfl, hrv, hB3⟩; have HRV := hide hrv; have HB3 := hide hB3; clear hrv hB3)
      have hrb := rec_lt (x := ((xn : Int), (ln : Int))) HB256.out
      obtain ⟨rg, rcap, rfl, hsl, hrg, hrc, rcur, hrh⟩ := HRV.out.slice hrb (by rw [HRL.out]; unfold rlen; omega)
      have hdv3 := (HDV1.out.below HRB.out).below HB3.out
      have hst := hdv3.dev
      have hops3 := HREC.out.like.ops
      have hnf := foot_nd hst hrh byte_nd
      have hfew := HFEW.out
      have hpre2 := HPRE2.out
      have kst := dv_store (bs := recOf B ((xn : Int), (ln : Int))) (a + 64 + (recsB B (xs.take j)).length) rcap hdv3 (by omega) hsl hrc (by rw [HN1.out]; omega) (fun ad he => by cases he; exact ⟨lt_of_heap hrh, hnf⟩)
      have KST := hide kst
      have c1 : W3.cell? ⟨g, 1, none⟩ = some (.pointer (some ⟨b, 0, none⟩)) := (LOG2.out.below HB3.out).c1
      have HB30 := hide (bseq HBW2.out HB3.out)
      obtain ⟨rl, hrl⟩ : ∃ rl, (recOf B ((xn : Int), (ln : Int))).length = rl := ⟨_, rfl⟩
      rw [hrl, HAT0.out] at KST
      rw [hrl]
      have HRLV := hide hrl
      have hsm : at0 + rl ≤ 4194304 := by have := HAT0.out; omega
      have wm : IntKind.i64.wrap ((at0 : Int) + (rl : Int)) = ((at0 + rl : Nat) : Int) := by rw [IntKind.wrap_i64]; omega
      clear kst hsl hrh hst hdv3 hnf hrl hrb c0 hops3
      go_upto_region 10 with (go_at_call 20; refine (KST.out).mono ?_; rintro e W4 ⟨c, s4, rfl, hrun, hatd⟩; have HRUN := hide hrun; have HATD := hide hatd; clear hrun hatd)
      by_cases hc : c = 0
      · subst hc
        go_wp2_with (fail)
        go_roundw
        case rel =>
          have e4 : s4 = acts (wds (recOf B ((xn : Int), (ln : Int))) at0 (wordsOf at0 rl)) s := HRUN.out.zero
          have hnx := HNX.out
          rw [HAT0.out, HRLV.out, ← e4] at hnx
          refine ⟨j + 1, s4, int_congrP (by omega), ?_, by omega, by rw [HTS.out]; exact hnx, ?_, ?_⟩
          · rw [HTS.out, show recsB B (xs.take j ++ [((xn : Int), (ln : Int))]) = recsB B (xs.take j) ++ recOf B ((xn : Int), (ln : Int)) by simp [recsB], List.length_append, HRLV.out]
            exact int_congrP (by have := HAT0.out; omega)
          · rw [HTS.out, recsF_snoc, List.length_append, wds_len, HAT0.out, HRLV.out]
            obtain ⟨g2, L4, d4, ft4, n4⟩ := HATD.out
            exact Atd.go (HGR1.out.trans (Gr.of_below HB30.out) (fun i h => .inl h)) HFT1.out HN1L.out d4 ft4 g2 n4
          · rw [HTS.out]
            have h5 := HNL.out
            have h6 := HFEW.out
            rw [show recsB B (xs.take j ++ [((xn : Int), (ln : Int))]) = recsB B (xs.take j) ++ recOf B ((xn : Int), (ln : Int)) by simp [recsB], List.length_append]
            omega
        case measure => simp [intOf]; omega
      · have h5 := HRUN.out.five hc
        subst h5
        go_wp2_with (fail)
        go_ret
        have e6 : recsF B (a + 64) xs = recsF B (a + 64) (xs.take (j + 1)) ++ recsF B (a + 64 + (recsB B (xs.take (j + 1))).length) (xs.drop (j + 1)) := by rw [← recsF_append, List.take_append_drop]
        have r0 : RunD (recsF B (a + 64) (xs.take j)) σ 0 s := .inl ⟨rfl, HREC.out.run⟩
        have r1 : RunD (recsF B (a + 64) (xs.take (j + 1))) σ 5 s4 := by
          rw [HTS.out, recsF_snoc, HAT0.out, HRLV.out]
          exact r0.app0 HRUN.out HREC.out.like.arms
        refine ⟨5, s4, rfl, by rw [e6]; exact r1.app5, ?_⟩
        obtain ⟨g2, L4, d4, ft4, n4⟩ := HATD.out
        have h9 := Atd.go (HGR1.out.trans (Gr.of_below HB30.out) (fun i h => .inl h)) HFT1.out HN1L.out d4 ft4 g2 n4
        refine h9.more ?_
        rw [e6, HTS.out, recsF_snoc, List.length_append, List.length_append, wds_len, HAT0.out, HRLV.out]
        omega
    · have jI : ¬ (j : Int) < (m : Int) := by omega
      obtain rfl : j = m := by omega
      have hfull : xs.take j = xs := List.take_of_length_le (by rw [HM.out]; exact Nat.le_refl _)
      rw [hfull] at hrec hat
      have HR := hide hrec
      have HA := hide hat
      clear hrec hat hfew hfull
      go_wp2
      go_ret
      exact ⟨0, rfl, s, .inl ⟨rfl, HR.out.run⟩, HA.out⟩
end Go.Proofs.Ytgfgihpkbbjkfaa
namespace Go.Proofs.Ytgfgihpkbbjkfaa
open Go.RowKit Go.Shelf
set_option linter.unusedVariables false
set_option maxRecDepth 100000

theorem rng_good {N : Nat} (at_ n : Nat) : ∀ f ∈ rngF at_ n, GoodF N f := by
  intro f hf
  rcases List.mem_append.1 hf with h | h
  · exact fls_good _ f h
  · rw [List.mem_singleton.1 h]; exact fn_good
theorem pub_good {N v at_ : Nat} (h : at_ + 8 ≤ 64 * N) (hN : N ≤ 65536) : ∀ f ∈ pubF v at_, GoodF N f := by
  intro f hf
  rcases List.mem_append.1 hf with h1 | h1
  · exact wds_good (leB_lt 8 v) (wordsOf_lt h hN) f h1
  · rcases List.mem_append.1 h1 with h2 | h2
    · exact fls_good _ f h2
    · rw [List.mem_singleton.1 h2]; exact fn_good
theorem rng_bytes (at_ n : Nat) (σ : St) : (acts (rngF at_ n) σ).bytes = σ.bytes := by
  unfold rngF
  rw [acts_append, fn_bytes, fls_bytes]
theorem pub_bytes {v at_ : Nat} {σ : St} (hok : σ.Ok) (h : at_ + 8 ≤ 64 * σ.n) (hops : σ.ops + 600000 ≤ 1400000000000) : (acts (pubF v at_) σ).bytes = splice σ.bytes at_ (leB 8 v) := by
  unfold pubF
  have hl : (leB 8 v).length = 8 := leB_length 8 v
  have e := writeG_bytes (bs := leB 8 v) (at_ := at_) (leB_lt 8 v) hok (by omega) hops
  rw [hl] at e
  rw [acts_append, acts_append, fn_bytes, fls_bytes, wds_acts, e]
theorem rng_few {at_ n : Nat} (h : at_ + n ≤ 4194304) : (rngF at_ n).length ≤ 65538 := by
  have := linesOf_len h
  unfold rngF
  rw [List.length_append, fls_len, List.length_singleton]
  omega
theorem pub_few {v at_ : Nat} (h : at_ + 8 ≤ 4194304) : (pubF v at_).length ≤ 700000 := by
  have h1 := linesOf_len h
  have h2 := wordsOf_len h
  unfold pubF
  rw [List.length_append, List.length_append, wds_len, fls_len, List.length_singleton]
  omega
/-- The operations of a Write. -/
def wrF (B : List Nat) (a : Nat) (xs : List (Int × Int)) : List (St → St) := recsF B (a + 64) xs ++ (rngF (a + 64) (recsB B xs).length ++ pubF xs.length a)
set_option maxHeartbeats 400000 in
theorem lwrite_state {w : World} {g b a z m cap : Nat} {L : Lay} {σ : St} {ea : Option Addr} (h : LogL w g b a z) (hd : Dv w b L σ) (ha8 : a % 8 = 0) (hal : a + 8 ≤ 64 * σ.n) (hnum : leV ((σ.bytes.drop a).take 8) ≠ 0) :
    Calls Try.prog 8 #[.pointer (some ⟨g, 0, none⟩), .slice ea m cap] w fun e w' => e = .returned (.int .i64 3) ∧ Below w.heap.size w w' := by
  have k := lnumber_any h hd ha8 hal
  generalize leV ((σ.bytes.drop a).take 8) = v at *
  have KN := hide k
  have hvb : ((v : Int) == 0) = false := by simp; exact hnum
  clear k h hd
  go_enter Try.func8, Try.ntmps8
  go_wp2_with (go_at_call 29; refine (KN.out).mono ?_; rintro e W1 ⟨rfl, hB⟩; have HB := hide hB; clear hB)
  go_ret
  exact ⟨rfl, HB.out⟩
set_option maxHeartbeats 400000 in
/-- What may not be, or what there is no room for, or nothing. -/
theorem lwrite_none {w : World} {g b a z m cap : Nat} {L : Lay} {σ : St} {ea : Option Addr} {xs : List (Int × Int)} (h : LogL w g b a z) (hd : Dv w b L σ) (ha8 : a % 8 = 0) (hz : 64 ≤ z) (haz : a + z ≤ 64 * σ.n) (hnum : leV ((σ.bytes.drop a).take 8) = 0) (he : SlE w ea xs) (hm : xs.length = m) (hml : m ≤ 8796093022208) (hno : (needX a z σ.n xs).2 ≠ 0 ∨ (needX a z σ.n xs).1 = 0) :
    Calls Try.prog 8 #[.pointer (some ⟨g, 0, none⟩), .slice ea m cap] w fun e w' => e = .returned (.int .i64 (needX a z σ.n xs).2) ∧ Below w.heap.size w w' := by
  have hmx := hd.ok.max
  have k := lnumber_any h hd ha8 (by omega)
  rw [hnum] at k
  have KND := hide (fun W (hB : Below w.heap.size w W) => lneed_any cap m (h.below hB) (hd.dev.below hB) hmx (by omega) hz (he.below hB) hm hml)
  generalize needX a z σ.n xs = V at *
  obtain ⟨r, c⟩ := V
  simp only at hno
  have KN := hide k
  clear k h hd he hm
  by_cases hc : c = 0
  · obtain rfl := hc
    have hr : r = 0 := by rcases hno with h | h; exact absurd rfl h; exact h
    subst hr
    go_enter Try.func8, Try.ntmps8
    go_wp2_with (first | (go_at_call 29; refine (KN.out).mono ?_; rintro e W1 ⟨rfl, hB⟩; have HB := hide hB; clear hB) | (go_at_call 30; refine (KND.out _ HB.out).mono ?_; rintro e W2 ⟨rfl, hB⟩; have HB2 := hide (bseq HB.out hB); clear hB))
    go_ret
    exact ⟨rfl, HB2.out⟩
  · have hcb : (c == 0) = false := by simpa using hc
    go_enter Try.func8, Try.ntmps8
    go_wp2_with (first | (go_at_call 29; refine (KN.out).mono ?_; rintro e W1 ⟨rfl, hB⟩; have HB := hide hB; clear hB) | (go_at_call 30; refine (KND.out _ HB.out).mono ?_; rintro e W2 ⟨rfl, hB⟩; have HB2 := hide (bseq HB.out hB); clear hB))
    go_ret
    exact ⟨rfl, HB2.out⟩
theorem need_good {a z N : Nat} {xs : List (Int × Int)} {B : List Nat} (hB : B.length = 64 * N) (ha : 64 ≤ a) (hz : 64 ≤ z) (haz : a + z ≤ 64 * N) (hN : N ≤ 65536) (h : (needX a z N xs).2 = 0) : (∀ x ∈ xs, Fine a z N x) ∧ (needX a z N xs).1 = (((recsB B xs).length : Nat) : Int) ∧ (recsB B xs).length ≤ z - 64 := by
  unfold needX at h ⊢
  by_cases hm : allMay a z N xs = true
  · rw [if_pos hm] at h ⊢
    have hf : ∀ x ∈ xs, Fine a z N x := fun x hx => by
      unfold allMay at hm
      exact fine_of haz ha (List.all_eq_true.1 hm x hx)
    by_cases hc : (needV 0 (xs.map Prod.snd)).2 ≠ 0 ∨ (z : Int) - 64 < (needV 0 (xs.map Prod.snd)).1
    · rw [if_pos hc] at h
      simp at h
    · rw [if_neg hc]
      have h2 : (needV 0 (xs.map Prod.snd)).2 = 0 := Classical.byContradiction fun h => hc (.inl h)
      have h3 := needV_sum (xs.map Prod.snd) 0 h2 (fun l hl => by
        obtain ⟨x, hx, rfl⟩ := List.mem_map.1 hl
        obtain ⟨f1, f2, f3, _⟩ := hf x hx
        omega)
      have h4 := recs_len hB xs hf
      have e : ((xs.map Prod.snd).map (fun l => rlen l.toNat)) = xs.map (fun x => rlen x.2.toNat) := by rw [List.map_map]; rfl
      rw [e, ← h4] at h3
      refine ⟨hf, by simp only; rw [h3]; omega, ?_⟩
      have h5 : ¬ (z : Int) - 64 < (needV 0 (xs.map Prod.snd)).1 := fun h => hc (.inr h)
      omega
  · rw [if_neg hm] at h
    simp at h
theorem Recs.upto {a z N : Nat} {B : List Nat} {xs : List (Int × Int)} {σ : St} (hσ : σ.Ok) (hN : σ.n = N) (hB : B = σ.bytes) (hx : ∀ y ∈ xs, Fine a z N y) (hroom : (recsB B xs).length ≤ z - 64) (hz : 64 ≤ z) (haz : a + z ≤ 64 * N) (hops : σ.ops + 10000000 ≤ 1400000000000) : ∀ k, k ≤ xs.length → Recs a N B (xs.take k) σ (acts (recsF B (a + 64) (xs.take k)) σ) ∧ (recsF B (a + 64) (xs.take k)).length ≤ (recsB B (xs.take k)).length
  | 0, _ => ⟨Recs.start hσ hB, Nat.le_refl _⟩
  | k + 1, hk => by
    obtain ⟨i1, i2⟩ := Recs.upto hσ hN hB hx hroom hz haz hops k (by omega)
    obtain ⟨x, hxk⟩ : ∃ x, xs[k]? = some x := ⟨_, List.getElem?_eq_getElem (by omega)⟩
    have hts : xs.take (k + 1) = xs.take k ++ [x] := by rw [List.take_add_one, hxk]; rfl
    have hmx := hσ.max
    have hpre : (recsB B (xs.take (k + 1))).length ≤ z - 64 := by
      have e : recsB B xs = recsB B (xs.take (k + 1)) ++ recsB B (xs.drop (k + 1)) := by
        unfold recsB
        rw [← List.flatMap_append, List.take_append_drop]
      rw [e, List.length_append] at hroom
      omega
    rw [hts] at hpre ⊢
    have hpre2 := hpre
    rw [show recsB B (xs.take k ++ [x]) = recsB B (xs.take k) ++ recOf B x by simp [recsB], List.length_append] at hpre2
    obtain ⟨j1, j2⟩ := Recs.next (z := z) hσ hN hB i1 (fun y hy => hx y (by rw [← hts] at hy; exact List.mem_of_mem_take hy)) hpre hz haz hops (by omega)
    refine ⟨?_, ?_⟩
    · rw [recsF_snoc, acts_append]
      exact j1
    · rw [show recsB B (xs.take k ++ [x]) = recsB B (xs.take k) ++ recOf B x by simp [recsB], List.length_append]
      omega
theorem Recs.whole {a z N : Nat} {B : List Nat} {xs : List (Int × Int)} {σ : St} (hσ : σ.Ok) (hN : σ.n = N) (hB : B = σ.bytes) (hx : ∀ y ∈ xs, Fine a z N y) (hroom : (recsB B xs).length ≤ z - 64) (hz : 64 ≤ z) (haz : a + z ≤ 64 * N) (hops : σ.ops + 10000000 ≤ 1400000000000) : Recs a N B xs σ (acts (recsF B (a + 64) xs) σ) ∧ (recsF B (a + 64) xs).length ≤ (recsB B xs).length := by
  have h := Recs.upto hσ hN hB hx hroom hz haz hops xs.length (Nat.le_refl _)
  rw [List.take_of_length_le (Nat.le_refl _)] at h
  exact h
set_option maxHeartbeats 1000000 in
theorem lwrite_ok {w : World} {g b a z m cap : Nat} {L : Lay} {σ : St} {ea : Option Addr} {xs : List (Int × Int)} (h : LogL w g b a z) (hd : Dv w b L σ) (ha8 : a % 8 = 0) (ha : 64 ≤ a) (hz : 64 ≤ z) (haz : a + z ≤ 64 * σ.n) (hops : σ.ops + 30000000 ≤ 1400000000000) (hnum : leV ((σ.bytes.drop a).take 8) = 0) (he : SlE w ea xs) (hm : xs.length = m) (hm1 : 1 ≤ m) (hml : m ≤ 4194304) (hok : (needX a z σ.n xs).2 = 0) :
    Calls Try.prog 8 #[.pointer (some ⟨g, 0, none⟩), .slice ea m cap] w fun e w' => ∃ c s, e = .returned (.int .i64 c) ∧ RunD (wrF σ.bytes a xs) σ c s ∧ Atd w b L σ w' s (wrF σ.bytes a xs).length := by
  have hmx := hd.ok.max
  have hB64 := hd.ok.len
  have hb256 := hd.ok.byte
  obtain ⟨hfine, hnd, hroom⟩ := need_good hB64 ha hz haz hmx hok
  have k := lnumber_any h hd ha8 (by omega)
  rw [hnum] at k
  have knd := fun W (hB : Below w.heap.size w W) => lneed_any cap m (h.below hB) (hd.dev.below hB) hmx (by omega) hz (he.below hB) hm (by omega)
  rw [hnd, hok] at knd
  obtain ⟨nd, hndv⟩ : ∃ nd, (recsB σ.bytes xs).length = nd := ⟨_, rfl⟩
  have hnd1 : 25 ≤ nd := by
    rw [← hndv]
    cases xs with
    | nil => simp at hm; omega
    | cons x t =>
      have e : recsB σ.bytes (x :: t) = recOf σ.bytes x ++ recsB σ.bytes t := rfl
      have hfx := hfine x (by simp)
      rw [e, List.length_append, rec_len hfx hB64]
      unfold rlen
      have := hfx.2.1
      omega
  rw [hndv] at knd
  have hroom2 : nd ≤ z - 64 := by rw [← hndv]; exact hroom
  have KST := hide (fun W (hB : Below w.heap.size w W) => lstore_any (cap := cap) (h.below hB) (hd.below hB) ha hz haz (by omega) (he.below hB) hm hml hfine hroom)
  have hrs := Recs.start (a := a) (N := σ.n) (B := σ.bytes) hd.ok rfl
  have KN := hide k
  have KND := hide knd
  have HL := hide h
  have HD := hide hd
  have HM := hide hm
  have HNDV := hide hndv
  have HFINE := hide hfine
  have ndI : ¬ ((nd : Int) = 0) := by omega
  have ndb : ((nd : Int) == 0) = false := by simpa using ndI
  obtain ⟨B, hBs⟩ : ∃ B, σ.bytes = B := ⟨_, rfl⟩
  have HBS := hide hBs
  unfold wrF
  rw [hBs] at KST HNDV ⊢
  clear k knd h hd he hm hok hnum hfine hnd hroom hndv hrs hBs
  go_enter Try.func8, Try.ntmps8
  go_upto_region 10 with (first | (go_at_call 29; refine (KN.out).mono ?_; rintro e W1 ⟨rfl, hB⟩; have HB := hide hB; clear hB) | (go_at_call 30; refine (KND.out _ HB.out).mono ?_; rintro e W2 ⟨rfl, hB⟩; have HB2 := hide (bseq HB.out hB); clear hB) | (go_at_call 31; refine (KST.out _ HB2.out).mono ?_; rintro e W3 ⟨c3, s3, rfl, hrun, hatd⟩; have HRUN := hide hrun; have HATD := hide (hatd.base HB2.out); clear hrun hatd))
  by_cases hc3 : c3 = 0
  · subst hc3
    have hmx2 := hmx
    obtain ⟨rw1, rw2⟩ := Recs.whole (z := z) HD.out.ok rfl HBS.out.symm HFINE.out (by rw [HNDV.out]; exact hroom2) hz haz (by omega)
    have e3 := HRUN.out.zero
    rw [← e3] at rw1
    have hl3 := rw1.like
    rw [HNDV.out] at rw2
    have n3 := hl3.n
    have o3 := hl3.ops
    obtain ⟨L3, hdv3, hg3, hf3, hN3⟩ := HD.out.went HATD.out hl3 (by omega)
    have hlog3 := HL.out.atd HD.out.dev HATD.out
    have hdv4 := hdv3.below (w' := W3.drew) (Below.refl _ W3).drew
    have KRG := hide (dv_range (a + 64) nd hdv4 (by omega) (by omega) (by rw [n3]; omega))
    have S12 := hide hlog3.drew
    have HDV4 := hide hdv4
    have HG3 := hide hg3
    have HF3 := hide hf3
    have HN3 := hide hN3
    have HL3 := hide hl3
    have hf4 := rng_few (at_ := a + 64) (n := nd) (by omega)
    clear hlog3 hdv3 hdv4 hg3 hf3 hN3 rw1 hl3 e3
    go_upto_region 12 with (fail)
    refine wp_region_held_drew (S := fun Y => LogL Y g b a z) (by kernel_rfl) S12.out (fun hS => ?_)
    refine wpAnyH_take (i := 0) (v := (.pointer (some ⟨g, 0, none⟩))) rfl (by kernel_rfl) (by kernel_rfl) (by kernel_rfl) (fun _ _ _ h => h) (Or.inl ⟨by kernel_rfl, fun w' hw => by (go_simp)⟩) hS ?_
    refine wpAnyH_take (i := 1) (v := (.pointer (some ⟨g, 0, none⟩))) rfl (by kernel_rfl) (by kernel_rfl) (by kernel_rfl) (fun _ _ _ h => h) (Or.inl ⟨by kernel_rfl, fun w' hw => by (go_simp)⟩) hS ?_
    refine wpAnyH_take (i := 2) (v := (.pointer (some ⟨g, 1, none⟩))) rfl (by kernel_rfl) (by kernel_rfl) (by kernel_rfl) (fun _ _ _ h => h) (Or.inl ⟨by kernel_rfl, fun w' hw => by (go_simp)⟩) hS ?_
    refine wpAnyH_take (i := 3) (v := (.pointer (some ⟨b, 0, none⟩))) rfl (by kernel_rfl) (by kernel_rfl) (by kernel_rfl) (fun _ _ _ h => h) (Or.inl ⟨by kernel_rfl, fun w' hw => by (have z1 := LogL.c1 hw; go_simp)⟩) hS ?_
    refine wpAnyH_take (i := 4) (v := (.pointer (some ⟨g, 0, none⟩))) rfl (by kernel_rfl) (by kernel_rfl) (by kernel_rfl) (fun _ _ _ h => h) (Or.inl ⟨by kernel_rfl, fun w' hw => by (go_simp)⟩) hS ?_
    refine wpAnyH_take (i := 6) (v := (.int .i64 (nd : Int))) rfl (by kernel_rfl) (by kernel_rfl) (by kernel_rfl) (fun _ _ _ h => h) (Or.inl ⟨by kernel_rfl, fun w' hw => by (go_simp)⟩) hS ?_
    refine wpAnyH_goS (i := 5) (by kernel_rfl) rfl (by kernel_rfl) (fun K hK => ?_)
    go_wp2_with (go_at_call 33; refine (lroom_any S12.out (by omega)).mono ?_; rintro e w' ⟨rfl, hw⟩; obtain rfl := hw.symm)
    have hS2 := hS
    refine hK.out _ _ hS2 ?_
    clear hK K
    refine wpAnyH_goS (i := 7) (by kernel_rfl) rfl (by kernel_rfl) (fun K hK => ?_)
    go_wp2_with (go_at_call 32; refine (KRG.out).mono ?_; rintro e W5 ⟨c, s5, rfl, hrun, hatd⟩; have HRUN5 := hide hrun; have HATD5 := hide hatd; clear hrun hatd)
    have hS3 := (S12.out.atd HDV4.out.dev HATD5.out)
    refine hK.out _ _ hS3 ?_
    clear hK K
    refine wpAnyH_take (i := 8) (v := (.int .i64 c)) rfl (by kernel_rfl) (by kernel_rfl) (by kernel_rfl) (fun _ _ _ h => h) (Or.inl ⟨by kernel_rfl, fun w' hw => by (go_simp)⟩) hS3 ?_
    refine wpAnyH_done (by kernel_rfl) ?_ _
    simp only [Act.put, List.getElem_toArray, List.getElem_cons_zero, List.getElem_cons_succ, List.setIfInBounds_toArray, List.set_cons_zero, List.set_cons_succ]
    by_cases hc : c = 0
    · subst hc
      have e5 := HRUN5.out.zero
      have hl5 := acts_like (N := σ.n) (rngF (a + 64) nd) s3 (rng_good _ _) HL3.out.ok n3 (by omega)
      rw [← e5] at hl5
      have n5 := hl5.n
      have o5 := hl5.ops
      obtain ⟨L5, hdv5, hg5, hf5, hN5⟩ := HDV4.out.went HATD5.out hl5 (by omega)
      have hlog5 := S12.out.atd HDV4.out.dev HATD5.out
      have KPB := hide (lpub_any m hlog5 hdv5 (by omega) (by omega) ha8 (by rw [n5, n3]; omega))
      have HG5 := hide hg5
      have HF5 := hide hf5
      have HN5 := hide hN5
      have HL5 := hide hl5
      clear hlog5 hdv5 hg5 hf5 hN5 hl5 e5 hS hS2 hS3
      go_wp2_with (go_at_call 34; refine (KPB.out).mono ?_; rintro e W7 ⟨c7, s7, rfl, hrun, hatd⟩; have HRUN7 := hide hrun; have HATD7 := hide hatd; clear hrun hatd)
      go_ret
      rw [HM.out]
      refine ⟨c7, s7, rfl, HRUN.out.app0 ?_ HL3.out.arms, ?_⟩
      · rw [HNDV.out]
        exact HRUN5.out.app0 HRUN7.out HL5.out.arms
      · obtain ⟨q1, L7, q2, q3, q4⟩ := HATD7.out
        have a5 : Atd w b L σ W5 s5 ((recsF B (a + 64) xs).length + (rngF (a + 64) nd).length) := by
          obtain ⟨p1, L6, p2, p3, p4⟩ := HATD5.out
          exact Atd.go (HG3.out.trans (Gr.of_below (Below.refl _ W3).drew) (fun i h => .inl h)) HF3.out HN3.out p2 p3 p1 p4
        have h9 := Atd.go (L' := L5) (m := (recsF B (a + 64) xs).length + (rngF (a + 64) nd).length) a5.1 (fun k hk => ?_) ?_ q2 q3 q1 q4
        · rw [HNDV.out, List.length_append, List.length_append, ← Nat.add_assoc]
          exact h9
        · rcases HF5.out k hk with h1 | h1
          · exact HF3.out k h1
          · exact .inr (Nat.le_trans HG3.out.size h1)
        · have := HN5.out
          have := HN3.out
          omega
    · have h5 := HRUN5.out.five hc
      subst h5
      go_wp2_with (fail)
      go_ret
      refine ⟨5, s5, rfl, HRUN.out.app0 (by rw [HNDV.out]; exact HRUN5.out.app5) HL3.out.arms, ?_⟩
      obtain ⟨p1, L6, p2, p3, p4⟩ := HATD5.out
      have h9 := Atd.go (HG3.out.trans (Gr.of_below (Below.refl _ W3).drew) (fun i h => .inl h)) HF3.out HN3.out p2 p3 p1 p4
      exact h9.more (by rw [HNDV.out, List.length_append, List.length_append]; omega)
  · have h5 := HRUN.out.five hc3
    subst h5
    go_wp2_with (fail)
    go_ret
    exact ⟨5, s3, rfl, HRUN.out.app5, HATD.out.more (by rw [List.length_append]; omega)⟩
end Go.Proofs.Ytgfgihpkbbjkfaa
namespace Go.Proofs.Ytgfgihpkbbjkfaa
open Go.RowKit Go.Shelf
set_option linter.unusedVariables false
set_option maxRecDepth 100000

theorem results_rowU {P : Program} {fn : Func} {p u : Tmp} {ty : TypeId} (h : fn.results = #[.cell p ty, .tmp u]) (tmps : Array Value) (w : World) (g : Nat) (t : TypeId) (cs : Array Value) (fr : Nat × Nat) (d : TypeDesc)
    (hp : tmps.getD p undef = .pointer (some ⟨g, 0, none⟩)) (hg : w.heap[g]? = some (.cells cs t fr))
    (hu : P.underlying ty = some d) (hd : (match d with | .struct _ | .array _ _ => true | _ => false) = true) (hi : (P.info? ty).map (·.size) = some cs.size) :
    (results fn tmps).run P w = .ok (.tuple #[.agg cs, tmps.getD u undef]) w := by
  rw [results_cell_tmp h, hp]
  simp [asAddr, run_loadVar_row w g t ty cs fr d hg hu hd hi]
theorem results_cell_tmp3 {fn : Func} {p u q : Tmp} {ty : TypeId} (h : fn.results = #[.cell p ty, .tmp u, .tmp q]) (tmps : Array Value) (P : Program) (w : World) :
    (results fn tmps).run P w = ((asAddr (tmps.getD p undef)).run P w).andThen fun a w₁ => ((loadVar ty a).run P w₁).andThen fun v w₂ => .ok (.tuple #[v, tmps.getD u undef, tmps.getD q undef]) w₂ := by
  simp only [results, h]
  simp [Sem.run_bind, Result.andThen]
theorem results_rowU3 {P : Program} {fn : Func} {p u v : Tmp} {ty : TypeId} (h : fn.results = #[.cell p ty, .tmp u, .tmp v]) (tmps : Array Value) (w : World) (g : Nat) (t : TypeId) (cs : Array Value) (fr : Nat × Nat) (d : TypeDesc)
    (hp : tmps.getD p undef = .pointer (some ⟨g, 0, none⟩)) (hg : w.heap[g]? = some (.cells cs t fr))
    (hu : P.underlying ty = some d) (hd : (match d with | .struct _ | .array _ _ => true | _ => false) = true) (hi : (P.info? ty).map (·.size) = some cs.size) :
    (results fn tmps).run P w = .ok (.tuple #[.agg cs, tmps.getD u undef, tmps.getD v undef]) w := by
  rw [results_cell_tmp3 h, hp]
  simp [asAddr, run_loadVar_row w g t ty cs fr d hg hu hd hi]
/-- Two cells are stored into a variable. -/
def set2 (W : World) (B : Nat) (v0 v1 : Value) : World := (W.setCell ⟨B, 0, none⟩ v0).setCell ⟨B, 1, none⟩ v1
theorem chain2 {W : World} {B : Nat} {a0 a1 : Value} {ty : TypeId} (hR : W.heap[B]? = some (.cells #[a0, a1] ty (0, 0))) (v0 v1 : Value) :
    (W.cell? ⟨B, 0, none⟩ = some a0 ∧ (W.setCell ⟨B, 0, none⟩ v0).cell? ⟨B, 1, none⟩ = some a1) ∧ (W.frozen? ⟨B, 0, none⟩ = false ∧ W.frozen? ⟨B, 1, none⟩ = false) ∧
    (set2 W B v0 v1).heap[B]? = some (.cells #[v0, v1] ty (0, 0)) ∧ (∀ base a, base ≤ B → Below base a W → Below base a (set2 W B v0 v1)) ∧ (∀ k, k ≠ B → (set2 W B v0 v1).heap[k]? = W.heap[k]?) := by
  have R1 := heap_setCell_same W B 0 _ _ v0 hR
  have R2 := heap_setCell_same _ B 1 _ _ v1 R1
  refine ⟨⟨cell8 hR 0, cell8 R1 1⟩, ⟨froz8 hR 0, froz8 hR 1⟩, R2, fun base a hb hB => (hB.setCell hb _).setCell hb _, fun k hk => ?_⟩
  unfold set2
  rw [heap_setCell_other _ _ _ _ hk, heap_setCell_other _ _ _ _ hk]
theorem leV_of {v : Nat} (h : v < 18446744073709551616) : leV (leB 8 v) = v := by
  rw [leV_leB, show (256 : Nat) ^ 8 = 18446744073709551616 by decide, Nat.mod_eq_of_lt h]
theorem drop_take_take {B : List Nat} {at_ p n m : Nat} (h : p + n ≤ m) : (((B.drop at_).take m).drop p).take n = (B.drop (at_ + p)).take n := by
  rw [List.drop_take, List.take_take, Nat.min_eq_left (by omega), List.drop_drop]
set_option maxHeartbeats 400000 in
theorem lextent_ok {w : World} {g b a z : Nat} {L : Lay} {σ : St} (at_ xn ln : Nat) (h : LogL w g b a z) (hd : Dv w b L σ) (haz : a + z ≤ 64 * σ.n) (hat : at_ + 24 ≤ a + z) (hx : (σ.bytes.drop at_).take 8 = leB 8 xn) (hl : (σ.bytes.drop (at_ + 8)).take 8 = leB 8 ln) (hxn : xn ≤ 4194304) (hln : ln ≤ 4194304) (hmay : mayV a z σ.n (xn : Int) (ln : Int) = true) :
    Calls Try.prog 60 #[.pointer (some ⟨g, 0, none⟩), .int .i64 (at_ : Int)] w fun e w' => e = .returned (.tuple #[.agg #[.int .i64 (xn : Int), .int .i64 (ln : Int)], .int .i64 0]) ∧ Below w.heap.size w w' := by
  have hmx := hd.ok.max
  have hA : Below w.heap.size w (w.alloc (.cells #[.int .i64 0, .int .i64 0] 52)) := (Below.refl _ w).alloc (Nat.le_refl _) _
  have hnw := heap_alloc_new w (.cells #[.int .i64 0, .int .i64 0] 52)
  have hlog := h.below hA
  have KE := hide (lend_any hlog (by omega))
  have hA2 := bseq hA (Below.refl _ _).drew
  have KL := hide (dv_load (at_ := at_) (n := 24) (hd.below hA2) (by omega))
  have hb24 : ((σ.bytes.drop at_).take 24).length = 24 := by rw [List.length_take, List.length_drop, hd.ok.len]; omega
  have hb256 : ∀ y ∈ (σ.bytes.drop at_).take 24, y < 256 := fun y hy => hd.ok.byte y (List.mem_of_mem_drop (List.mem_of_mem_take hy))
  have q0 : leV ((((σ.bytes.drop at_).take 24).drop 0).take 8) = xn := by rw [drop_take_take (by omega), Nat.add_zero, hx, leV_of (by omega)]
  have q8 : leV ((((σ.bytes.drop at_).take 24).drop 8).take 8) = ln := by rw [drop_take_take (by omega), hl, leV_of (by omega)]
  have KT0 := hide (fun (W : World) (R : Nat) (hO : OwnB W R ((σ.bytes.drop at_).take 24)) => show Calls Try.prog 77 #[.slice (some ⟨R, 0, none⟩) 24 24, .int .i64 0] W fun e w' => e = .returned (.int .i64 (xn : Int)) ∧ w' = W by
    have k := ltake_any (a := some ⟨R, 0, none⟩) 24 0 W (hO.sl hb256) hb24 (by omega)
    rw [q0, IntWalk.wrap64_in _ (by omega)] at k
    exact k)
  have KT8 := hide (fun (W : World) (R : Nat) (hO : OwnB W R ((σ.bytes.drop at_).take 24)) => show Calls Try.prog 77 #[.slice (some ⟨R, 0, none⟩) 24 24, .int .i64 8] W fun e w' => e = .returned (.int .i64 (ln : Int)) ∧ w' = W by
    have k := ltake_any (a := some ⟨R, 0, none⟩) 24 8 W (hO.sl hb256) hb24 (by omega)
    rw [q8, IntWalk.wrap64_in _ (by omega)] at k
    exact k)
  have km := fun W (hB : Below w.heap.size w W) => lmay_any (xn : Int) (ln : Int) (h.below hB) (hd.dev.below hB) hmx (by omega) (by omega) (by omega)
  rw [hmay] at km
  have KM := hide km
  generalize (σ.bytes.drop at_).take 24 = B24 at *
  have HLOG := hide hlog
  have HNW := hide hnw
  have HA2 := hide hA2
  have wm : IntKind.i64.wrap (((a + z : Nat) : Int) - 24) = ((a + z : Nat) : Int) - 24 := by rw [IntKind.wrap_i64]; omega
  have hcmp : ¬ ((a + z : Nat) : Int) - 24 < (at_ : Int) := by omega
  obtain ⟨AZ, hAZ⟩ : ∃ AZ, a + z = AZ := ⟨_, rfl⟩
  rw [hAZ] at KE wm hcmp
  clear h hd hx hl hmay km hlog hnw hA hA2 hb24 hb256 q0 q8 hAZ
  go_enter Try.func60, Try.ntmps60
  go_upto_region 3 with (go_at_call 55; refine (KE.out).mono ?_; rintro e w' ⟨rfl, hw⟩; obtain rfl := hw.symm)
  have c1 := HLOG.out.drew.c1
  go_upto_region 7 with (first
    | (go_at_call 21; refine (KL.out).mono ?_; rintro e W2 ⟨RR, rfl, hRn, hRo, hRb⟩; have HRO := hide hRo; have HRB := hide hRb; have KT0R := hide (KT0.out W2 RR hRo); have KT8R := hide (KT8.out W2 RR hRo); clear hRn hRo hRb)
    | (go_at_call 77; refine (KT0R.out).mono ?_; rintro e w' ⟨rfl, hw⟩; obtain rfl := hw.symm; clear KT0R)
    | (go_at_call 77; refine (KT8R.out).mono ?_; rintro e w' ⟨rfl, hw⟩; obtain rfl := hw.symm; clear KT8R))
  have hA3 : Below W2.heap.size W2 (W2.alloc (.cells #[.int .i64 (xn : Int), .int .i64 (ln : Int)] 52)) := (Below.refl _ W2).alloc (Nat.le_refl _) _
  have hb3 := bseq (bseq HA2.out HRB.out) hA3
  have KM3 := hide (KM.out _ hb3)
  have HNEW := hide (heap_alloc_new W2 (.cells #[.int .i64 (xn : Int), .int .i64 (ln : Int)] 52))
  have HR0 := hide (row_keepU (row_keepU (show (w.alloc (.cells #[.int .i64 0, .int .i64 0] 52)).drew.heap[w.heap.size]? = _ from HNW.out) HRB.out) hA3)
  have HB3 := hide hb3
  clear hb3 hA3
  go_upto_region 9 with (go_at_call 53; refine (KM3.out).mono ?_; rintro e W4 ⟨rfl, hb⟩; have HB4 := hide hb; clear hb)
  have r0 := row_keepU HR0.out HB4.out
  have r8 := row_keepU HNEW.out HB4.out
  have x0 : W4.cell? ⟨W2.heap.size, 0, none⟩ = some (.int .i64 (xn : Int)) := cell8 r8 0
  have x1 : W4.cell? ⟨W2.heap.size, 1, none⟩ = some (.int .i64 (ln : Int)) := cell8 r8 1
  obtain ⟨⟨d0, d1⟩, ⟨f0, f1⟩, RR2, BB, _⟩ := chain2 r0 (.int .i64 (xn : Int)) (.int .i64 (ln : Int))
  have R9 := hide RR2
  have B9 := hide (BB w.heap.size w (Nat.le_refl _) (bseq HB3.out HB4.out))
  clear RR2 BB r0 r8
  go_wp2_with (fail)
  (try simp only [Exit.inBlock, Exit.then])
  refine bodyPost_ret (results_rowU rfl _ _ w.heap.size _ _ _ _ rfl R9.out Try.underlying52 rfl (by kernel_rfl)) rfl ?_
  exact ⟨rfl, B9.out⟩
/-- Bytes that are the same are equal. -/
theorem bequal_same {w : World} {a b : Addr} {bs : List Nat} (c d n : Nat) (hn : bs.length = n) (ha : Sl w (some a) bs) (hb : Sl w (some b) bs) (h1 : 1 ≤ n) : Calls Try.prog 61 #[.slice (some a) n c, .slice (some b) n d] w fun e w' => e = .returned (.bool true) ∧ w' = w := by
  have cv : ∀ (ad : Addr) (cap : Nat), Sl w (some ad) bs → (convert 33 9 (.slice (some ad) n cap)).run Try.prog w = .ok (.string ⟨(bs.map Nat.toUInt8).toArray⟩) w := fun ad cap hs => by
    rw [← hn]
    have hl : (bs.map Nat.toUInt8).length = bs.length := by simp
    have k := run_convert_bytes_back (P := Try.prog) w 33 9 5 ad cap (bs.map Nat.toUInt8) Try.underlying33 Try.underlying5 Try.underlying9 (fun j hj => ?_)
    · rw [hl] at k
      exact k
    · rcases hs with e | ⟨g, o, e, hg, hc⟩
      · rw [e] at hj; simp at hj
      · cases e
        have hj2 : j < bs.length := by rw [hl] at hj; exact hj
        obtain ⟨c1, c2⟩ := hc j bs[j] (List.getElem?_eq_getElem hj2)
        rw [Addr.add_mid, c1]
        simp
        omega
  have cva := cv a c ha
  have cvb := cv b d hb
  generalize (⟨(bs.map Nat.toUInt8).toArray⟩ : ByteArray) = S at *
  clear cv ha hb
  go_enter Try.func61, Try.ntmps61
  go_wp2
  go_ret
  exact ⟨rfl, rfl⟩
theorem slice_old (R n l : Nat) (hl : 1 ≤ l) (hn : 24 + l ≤ n) (hsm : n ≤ 4194304) (w : World) : (Instr.sliceAt 33 (.slice (some ⟨R, 0, none⟩) n n) (some (.int .i64 24)) (some (.int .i64 ((24 + l : Nat) : Int))) none).run Try.prog w = .ok (.slice (some ⟨R, 24, none⟩) l (n - 24)) w := by
  obtain ⟨it, h1, h2⟩ := info_of (t := 5) (n := 1) (by kernel_rfl)
  have hu : Try.prog.underlying 33 = some (.slice 5) := by kernel_rfl
  have c1 : (0 : Int) ≤ ((24 + l : Nat) : Int) ∧ ((24 + l : Nat) : Int) ≤ (n : Int) := by omega
  have e1 : ((24 + l : Nat) : Int).toNat = 24 + l := by omega
  have e2 : 24 + l - 24 = l := by omega
  have e3 : ¬ n = 24 := by omega
  generalize ((24 + l : Nat) : Int) = T at *
  simp [Instr.sliceAt, Instr.slice, Sem.run_bind, run_underlying hu, Instr.sliceBounds, Instr.sliceBound, asIntOf, sizeOf, typeInfo, h1, h2, Addr.add_mid, c1, e1, e2, e3]
  intro hh
  exfalso
  omega
/-- The record that lies at a place is told. -/
def RecAt (B : List Nat) (at_ : Nat) (xn : Nat) (old : List Nat) : Prop := (B.drop at_).take (recB xn old).length = recB xn old
theorem rec_parts {B : List Nat} {at_ xn : Nat} {old : List Nat} (h : RecAt B at_ xn old) : (B.drop at_).take 8 = leB 8 xn ∧ (B.drop (at_ + 8)).take 8 = leB 8 old.length := by
  have hl := recB_len xn old
  have l1 : (leB 8 xn).length = 8 := leB_length 8 _
  have l2 : (leB 8 old.length).length = 8 := leB_length 8 _
  unfold RecAt at h
  refine ⟨?_, ?_⟩
  · have e : (B.drop at_).take 8 = ((B.drop at_).take (recB xn old).length).take 8 := by rw [List.take_take, Nat.min_eq_left (by omega)]
    rw [e, h]
    unfold recB recH
    rw [List.append_assoc, List.take_left' l1]
  · have e : (B.drop (at_ + 8)).take 8 = (((B.drop at_).take (recB xn old).length).drop 8).take 8 := (drop_take_take (by omega)).symm
    rw [e, h]
    unfold recB recH
    rw [List.append_assoc, List.drop_left' l1, List.append_assoc, List.take_left' l2]
set_option maxHeartbeats 1000000 in
theorem lread_ok {w : World} {g b a z : Nat} {L : Lay} {σ : St} (at_ xn : Nat) (old : List Nat) (h : LogL w g b a z) (hd : Dv w b L σ) (haz : a + z ≤ 64 * σ.n) (hat : at_ + (recB xn old).length ≤ a + z) (hrec : RecAt σ.bytes at_ xn old) (hol : 1 ≤ old.length) (hxn : xn ≤ 4194304) (hmay : mayV a z σ.n (xn : Int) (old.length : Int) = true) :
    Calls Try.prog 35 #[.pointer (some ⟨g, 0, none⟩), .int .i64 (at_ : Int)] w fun e w' => ∃ R, e = .returned (.tuple #[.agg #[.int .i64 (xn : Int), .slice (some ⟨R, 24, none⟩) old.length ((recB xn old).length - 24)], .int .i64 (((recB xn old).length : Nat) : Int), .int .i64 0]) ∧ w.heap.size ≤ R ∧ OwnB w' R (recB xn old) ∧ Below w.heap.size w w' := by
  have hmx := hd.ok.max
  have hrl := recB_len xn old
  obtain ⟨p8, p16⟩ := rec_parts hrec
  have hpad : padN old.length < 8 := by unfold padN; omega
  have hold : ∀ y ∈ old, y < 256 := fun y hy => by
    have h5 : y ∈ recB xn old := by unfold recB; simp [hy]
    rw [← hrec] at h5
    exact hd.ok.byte y (List.mem_of_mem_drop (List.mem_of_mem_take h5))
  have hr256 := recB_lt xn old hold
  have KX := hide (fun W (hB : Below w.heap.size w W) => lextent_ok at_ xn old.length (h.below hB) (hd.below hB) haz (by omega) p8 p16 hxn (by omega) hmay)
  have hnv : needV 0 [(old.length : Int)] = ((((recB xn old).length : Nat) : Int), 0) := by
    have hr := roundV_pad (l := (old.length : Int)) (by omega) (by omega)
    unfold needV
    rw [hr, if_neg (by simp; omega)]
    unfold needV
    rw [hrl]
    simp
  have KN := hide (fun (W : World) => show Calls Try.prog 54 #[.slice (some ⟨W.heap.size, 0, none⟩) 1 1] (W.alloc (.cells #[.int .i64 (old.length : Int)] 3)) fun e w' => e = .returned (.tuple #[.int .i64 (((recB xn old).length : Nat) : Int), .int .i64 0]) ∧ w' = W.alloc (.cells #[.int .i64 (old.length : Int)] 3) by
    have hnw := heap_alloc_new W (.cells #[.int .i64 (old.length : Int)] 3)
    have k := need_any (a := some ⟨W.heap.size, 0, none⟩) (zs := [(old.length : Int)]) 1 1 (w := W.alloc (.cells #[.int .i64 (old.length : Int)] 3)) ⟨fun z hz => by rw [List.mem_singleton.1 hz]; omega, .inr ⟨W.heap.size, 0, rfl, lt_of_heap hnw, fun i z hz => by
      match i, hz with
      | 0, hz => simp at hz; subst hz; exact cell8 hnw 0
      | i + 1, hz => simp at hz⟩⟩ rfl (by omega)
    rw [hnv] at k
    exact k)
  have KE := hide (fun W (hB : Below w.heap.size w W) => lend_any (h.below hB) (by omega))
  have kl := fun W (hB : Below w.heap.size w W) => dv_load (at_ := at_) (n := (recB xn old).length) (hd.below hB) (by omega)
  unfold RecAt at hrec
  rw [hrec] at kl
  have KL := hide kl
  have KLA := hide (fun (W : World) (R : Nat) (hO : OwnB W R (recB xn old)) => llaid_any xn R 24 old ((recB xn old).length - 24) W (fun i y hy => ⟨hO.cell (24 + i) y (by
    unfold recB
    rw [List.getElem?_append_right (by rw [recH_len]; omega), recH_len, show 24 + i - 24 = i by omega, List.getElem?_append_left (List.getElem?_eq_some_iff.1 hy).1]
    exact hy), hold y (List.mem_of_getElem? hy)⟩) hO.lt hol (by omega) (by omega) hold)
  have SO := hide (fun (R : Nat) W => slice_old R (recB xn old).length old.length hol (by omega) (by omega) W)
  obtain ⟨ln, hln⟩ : ∃ ln, old.length = ln := ⟨_, rfl⟩
  obtain ⟨rb, hrb⟩ : ∃ rb, recB xn old = rb := ⟨_, rfl⟩
  obtain ⟨rl, hrlv⟩ : ∃ rl, rb.length = rl := ⟨_, rfl⟩
  have HLOG := hide h
  rw [hrb] at hat hrl hr256 KN KL KLA SO ⊢
  rw [hln] at hrl KX KN KLA SO ⊢
  rw [hrlv] at hat hrl KN KL KLA SO ⊢
  have HR256 := hide hr256
  have HRLV := hide hrlv
  have hA : Below w.heap.size w (w.alloc (.cells #[.int .i64 0, .slice none 0 0] 57)) := (Below.refl _ w).alloc (Nat.le_refl _) _
  have HNW := hide (heap_alloc_new w (.cells #[.int .i64 0, .slice none 0 0] 57))
  have HA := hide hA
  have hrl1 : 25 ≤ rl ∧ rl ≤ 4194304 := by omega
  obtain ⟨tl, htl⟩ : ∃ tl, 24 + ln = tl := ⟨_, rfl⟩
  have wm24 : IntKind.i64.wrap (24 + (ln : Int)) = (tl : Int) := by rw [IntKind.wrap_i64]; omega
  rw [htl] at SO
  clear htl
  obtain ⟨AZ, hAZ⟩ : ∃ AZ, a + z = AZ := ⟨_, rfl⟩
  rw [hAZ] at KE hat haz
  have wme : IntKind.i64.wrap ((AZ : Int) - (at_ : Int)) = (AZ : Int) - (at_ : Int) := by rw [IntKind.wrap_i64]; omega
  have hcmp : ¬ (AZ : Int) - (at_ : Int) < (rl : Int) := by omega
  clear h hd hrec hmay p8 p16 hold hr256 hnv kl hA hln hrb hrlv hAZ hol hrl
  go_enter Try.func35, Try.ntmps35
  go_upto_region 4 with (go_at_call 60; refine (KX.out _ HA.out).mono ?_; rintro e W1 ⟨rfl, hb⟩; have HB1 := hide hb; clear hb)
  have hA1 : Below W1.heap.size W1 (W1.alloc (.cells #[.int .i64 (xn : Int), .int .i64 (ln : Int)] 52)) := (Below.refl _ W1).alloc (Nat.le_refl _) _
  have HE1 := hide (heap_alloc_new W1 (.cells #[.int .i64 (xn : Int), .int .i64 (ln : Int)] 52))
  have HR1 := hide (row_keepU (row_keepU HNW.out HB1.out) hA1)
  have HB2 := hide (bseq (bseq HA.out HB1.out) hA1)
  have x0 : (W1.alloc (.cells #[.int .i64 (xn : Int), .int .i64 (ln : Int)] 52)).cell? ⟨W1.heap.size, 0, none⟩ = some (.int .i64 (xn : Int)) := cell8 HE1.out 0
  have x1 : (W1.alloc (.cells #[.int .i64 (xn : Int), .int .i64 (ln : Int)] 52)).cell? ⟨W1.heap.size, 1, none⟩ = some (.int .i64 (ln : Int)) := cell8 HE1.out 1
  generalize W1.alloc (.cells #[.int .i64 (xn : Int), .int .i64 (ln : Int)] 52) = X1 at *
  generalize W1.heap.size = ev at *
  clear hA1
  have hA2 : Below X1.heap.size X1 (X1.alloc (.cells #[.int .i64 (ln : Int)] 3)) := (Below.refl _ X1).alloc (Nat.le_refl _) _
  have HB3 := hide (bseq HB2.out hA2)
  have KN1 := hide (KN.out X1)
  have KE1 := hide (KE.out _ HB3.out)
  have HE2 := hide (row_keepU HE1.out hA2)
  have HR2 := hide (row_keepU HR1.out hA2)
  clear hA2
  go_upto_region 7 with (first
    | (go_at_call 54; refine (KN1.out).mono ?_; rintro e w' ⟨rfl, hw⟩; obtain rfl := hw.symm)
    | (go_at_call 55; refine (KE1.out).mono ?_; rintro e w' ⟨rfl, hw⟩; obtain rfl := hw.symm))
  have c1 := (HLOG.out.below (HB3.out.drew)).c1
  have KL1 := hide (KL.out _ HB3.out.drew)
  go_upto_region 10 with (go_at_call 21; refine (KL1.out).mono ?_; rintro e W4 ⟨RR, rfl, hRn, hRo, hRb⟩; have HRO := hide hRo; have HRN := hide hRn; have HRB := hide hRb; clear hRn hRo hRb)
  have r4 := row_keepU (show (X1.alloc (.cells #[.int .i64 (ln : Int)] 3)).drew.heap[ev]? = _ from HE2.out) HRB.out
  have y0 : W4.cell? ⟨ev, 0, none⟩ = some (.int .i64 (xn : Int)) := cell8 r4 0
  have y1 : W4.cell? ⟨ev, 1, none⟩ = some (.int .i64 (ln : Int)) := cell8 r4 1
  have so := fun W => SO.out RR W
  have KLA1 := hide (KLA.out W4 RR HRO.out)
  clear r4
  go_upto_region 13 with (first
    | (go_at_call 56; refine (KLA1.out).mono ?_; rintro e W5 ⟨rv, rfl, hrv, hb5⟩; obtain ⟨rg, rcap, rfl, hsl, _, _, _⟩ := OwnR.slice hrv HR256.out (by rw [HRLV.out]; omega); rw [HRLV.out]; have KEQ := hide (bequal_same rl rcap rl HRLV.out ((HRO.out.below hb5 HRO.out.lt).sl HR256.out) hsl (by omega)); have HB5 := hide hb5; clear hrv hb5 hsl)
    | (go_at_call 61; refine (KEQ.out).mono ?_; rintro e w' ⟨rfl, hw⟩; obtain rfl := hw.symm))
  have r5 := row_keepU (row_keepU (show (X1.alloc (.cells #[.int .i64 (ln : Int)] 3)).drew.heap[ev]? = _ from HE2.out) HRB.out) HB5.out
  have z0 : W5.cell? ⟨ev, 0, none⟩ = some (.int .i64 (xn : Int)) := cell8 r5 0
  have q5 := row_keepU (row_keepU (show (X1.alloc (.cells #[.int .i64 (ln : Int)] 3)).drew.heap[w.heap.size]? = _ from HR2.out) HRB.out) HB5.out
  obtain ⟨⟨d0, d1⟩, ⟨f0, f1⟩, RR2, BB, OO⟩ := chain2 q5 (.int .i64 (xn : Int)) (.slice (some ⟨RR, 24, none⟩) ln (rl - 24))
  have R9 := hide RR2
  have B9 := hide (BB w.heap.size w (Nat.le_refl _) (bseq (bseq HB3.out.drew HRB.out) HB5.out))
  have hne : RR ≠ w.heap.size := by
    have h1 := HRN.out
    have h2 := lt_of_heap HR2.out
    have h3 : (X1.alloc (.cells #[.int .i64 (ln : Int)] 3)).drew.heap.size = (X1.alloc (.cells #[.int .i64 (ln : Int)] 3)).heap.size := rfl
    omega
  have O9 := hide ((HRO.out.below HB5.out HRO.out.lt).of_block (OO RR hne))
  have HLE := hide (Nat.le_trans HB3.out.drew.size HRN.out)
  clear RR2 BB OO r5 q5 hne
  go_wp2_with (fail)
  (try simp only [Exit.inBlock, Exit.then])
  refine bodyPost_ret (results_rowU3 rfl _ _ w.heap.size _ _ _ _ rfl R9.out Try.underlying57 rfl (by kernel_rfl)) rfl ?_
  exact ⟨RR, rfl, HLE.out, O9.out, B9.out⟩
end Go.Proofs.Ytgfgihpkbbjkfaa
namespace Go.Proofs.Ytgfgihpkbbjkfaa
open Go.RowKit Go.Shelf
set_option linter.unusedVariables false
set_option maxRecDepth 100000

/-- Records lie one behind the other, each one that may be. -/
def RecsAt (a z N : Nat) (B : List Nat) : Nat → List (Nat × List Nat) → Prop
  | _, [] => True
  | at_, r :: t => RecAt B at_ r.1 r.2 ∧ 1 ≤ r.2.length ∧ r.1 ≤ 4194304 ∧ mayV a z N (r.1 : Int) (r.2.length : Int) = true ∧ at_ + (recB r.1 r.2).length ≤ a + z ∧ RecsAt a z N B (at_ + (recB r.1 r.2).length) t
/-- Where the records behind the first j begin. -/
def recsLen (rs : List (Nat × List Nat)) : Nat := (rs.map (fun r => (recB r.1 r.2).length)).sum
theorem recsLen_snoc (rs : List (Nat × List Nat)) (r : Nat × List Nat) : recsLen (rs ++ [r]) = recsLen rs + (recB r.1 r.2).length := by simp [recsLen]
theorem RecsAt.drop {a z N : Nat} {B : List Nat} : ∀ (rs : List (Nat × List Nat)) (at_ j : Nat), RecsAt a z N B at_ rs → RecsAt a z N B (at_ + recsLen (rs.take j)) (rs.drop j)
  | [], at_, j, h => by simp [RecsAt]
  | r :: t, at_, 0, h => h
  | r :: t, at_, j + 1, h => by
    have h2 := RecsAt.drop t (at_ + (recB r.1 r.2).length) j h.2.2.2.2.2
    have e : at_ + (recB r.1 r.2).length + recsLen (t.take j) = at_ + recsLen ((r :: t).take (j + 1)) := by simp [recsLen]; omega
    rw [e] at h2
    exact h2
/-- The cells of a record whose bytes lie at block R. -/
def recC (r : Nat × List Nat) (R : Nat) : List Value := [.int .i64 (r.1 : Int), .slice (some ⟨R, 24, none⟩) r.2.length ((recB r.1 r.2).length - 24)]
/-- A row of records, its bytes each in a block of its own. -/
structure RowC (w : World) (base : Nat) (v : Value) (rs : List (Nat × List Nat)) (Rs : List Nat) : Prop where
  len : Rs.length = rs.length
  row : w.ownsRow base 57 2 v rs.length ((rs.zip Rs).flatMap (fun p => recC p.1 p.2))
  own : ∀ (i : Nat) (r : Nat × List Nat) (R : Nat), rs[i]? = some r → Rs[i]? = some R → OwnB w R (recB r.1 r.2) ∧ base ≤ R
  ne : Rs.Pairwise (· < ·)
theorem infoRec : ∃ i, Try.prog.info? 57 = some i ∧ i.zero = some (.agg #[.int .i64 0, .slice none 0 0]) ∧ i.size = 2 ∧ i.bytes = 32 := by
  have h : (Try.prog.info? 57).map (fun i => (i.zero, i.size, i.bytes)) = some (some (.agg #[.int .i64 0, .slice none 0 0]), 2, 32) := by kernel_rfl
  cases hq : Try.prog.info? 57 with
  | none => rw [hq] at h; cases h
  | some i => rw [hq] at h; simp at h; exact ⟨i, rfl, h.1, h.2.1, h.2.2⟩
theorem RowC.keep {w w' : World} {base : Nat} {v : Value} {rs : List (Nat × List Nat)} {Rs : List Nat} (h : RowC w base v rs Rs) (hB : Below w.heap.size w w') : RowC w' base v rs Rs := by
  refine ⟨h.len, ownsRow_of_block h.row (fun g hg => ?_), fun i r R h1 h2 => ?_, h.ne⟩
  · obtain ⟨c', hc'⟩ := own_type h.row hg
    exact hB.block g (lt_of_heap hc')
  · obtain ⟨o1, o2⟩ := h.own i r R h1 h2
    exact ⟨o1.below hB o1.lt, o2⟩
theorem cell_twoU (W : World) (t : TypeId) (a b : Value) : ∀ j u, [a, b][j]? = some u → (W.alloc (.cells #[a, b] t)).cell? ((⟨W.heap.size, 0, none⟩ : Addr).add j) = some u := by
  intro j u hj
  match j, hj with
  | 0, hj => simp at hj; subst hj; simp [Addr.add]
  | 1, hj => simp at hj; subst hj; simp [Addr.add]
  | n + 2, hj => simp at hj
theorem bel_of_grownT {w W W' : World} {v : Value} {n s : Nat} {t : TypeId} {xs : List Value} (h : Below w.heap.size w W) (ho : W.ownsRow w.heap.size t s v n xs) (hg : W.grownBy W' v.ownBlock) : Below w.heap.size w W' := by
  refine ⟨hg.os.trans h.os, hg.tape.trans h.tape, hg.output.trans h.output, Nat.le_trans h.size hg.size, fun k hk => (hg.block k (Nat.lt_of_lt_of_le hk h.size) (fun e => ?_)).trans (h.block k hk)⟩
  rcases ho.2 with ⟨rfl, _⟩ | ⟨g, cap, cur, rfl, hg2, _⟩
  · cases e
  · have e2 : some k = some g := e
    cases e2
    omega
set_option maxHeartbeats 1000000 in
theorem lrecords_ok {w : World} {g b a z : Nat} {L : Lay} {σ : St} (rs : List (Nat × List Nat)) (h : LogL w g b a z) (hd : Dv w b L σ) (ha8 : a % 8 = 0) (hz : 64 ≤ z) (haz : a + z ≤ 64 * σ.n) (hnum : leV ((σ.bytes.drop a).take 8) = rs.length) (hrs : RecsAt a z σ.n σ.bytes (a + 64) rs) (hk : rs.length ≤ 4194304) :
    Calls Try.prog 10 #[.pointer (some ⟨g, 0, none⟩)] w fun e w' => ∃ v Rs, e = .returned (.tuple #[v, .int .i64 0]) ∧ RowC w' w.heap.size v rs Rs ∧ Below w.heap.size w w' := by
  have hmx := hd.ok.max
  obtain ⟨i0, hi0, hz0, hz1, hz2⟩ := infoRec
  have kn := lnumber_any h hd ha8 (by omega)
  rw [hnum] at kn
  obtain ⟨k, hkk⟩ : ∃ k, rs.length = k := ⟨_, rfl⟩
  rw [hkk] at kn hk
  have KN := hide kn
  have KR := hide (fun W (hB : Below w.heap.size w W) => lroom_any (h.below hB) (by omega))
  have KRD := hide (fun W (hB : Below w.heap.size w W) (at_ : Nat) (r : Nat × List Nat) (h1 : RecAt σ.bytes at_ r.1 r.2) (h2 : 1 ≤ r.2.length) (h3 : r.1 ≤ 4194304) (h4 : mayV a z σ.n (r.1 : Int) (r.2.length : Int) = true) (h5 : at_ + (recB r.1 r.2).length ≤ a + z) => lread_ok at_ r.1 r.2 (h.below hB) (hd.below hB) haz h5 h1 h2 h3 h4)
  have HRS := hide hrs
  have HK := hide hkk
  have kI : (k : Int) ≤ 4194304 := by omega
  clear h hd kn hnum hrs hkk
  go_enter Try.func10, Try.ntmps10
  go_wp2_with (first | (go_at_call 29; refine (KN.out).mono ?_; rintro e W1 ⟨rfl, hb⟩; have HB1 := hide hb; clear hb) | (go_at_call 33; refine (KR.out _ HB1.out).mono ?_; rintro e w' ⟨rfl, hw⟩; obtain rfl := hw.symm))
  go_loopw [4, 6, 7] (fun nv rv av wr => ∃ (j : Nat) (Rs : List Nat) (at0 : Nat), nv = .int .u64 ((k - j : Nat) : Int) ∧ av = .int .i64 (at0 : Int) ∧ at0 = a + 64 + recsLen (rs.take j) ∧ j ≤ k ∧ RowC wr w.heap.size rv (rs.take j) Rs ∧ Below w.heap.size w wr) (fun nv _ _ _ => (intOf nv).toNat)
  case atStart => exact ⟨0, [], a + 64, rfl, rfl, by simp [recsLen], Nat.zero_le _, ⟨rfl, ⟨rfl, .inl ⟨rfl, rfl⟩⟩, fun i r R h1 => by simp at h1, List.Pairwise.nil⟩, HB1.out⟩
  case round =>
    obtain ⟨j, Rs, at0, rfl, rfl, hat0, hj, hrow, hB⟩ := hrel
    have HAT0 := hide hat0
    clear hat0
    by_cases hlt : j < k
    · obtain ⟨r, hr⟩ : ∃ r, rs[j]? = some r := ⟨_, List.getElem?_eq_getElem (by rw [HK.out]; exact hlt)⟩
      have hts : rs.take (j + 1) = rs.take j ++ [r] := by rw [List.take_add_one, hr]; rfl
      have hdr := RecsAt.drop rs (a + 64) j HRS.out
      rw [← HAT0.out, List.drop_eq_getElem_cons (by rw [HK.out]; exact hlt)] at hdr
      have er : rs[j]'(by rw [HK.out]; exact hlt) = r := by
        have h5 := List.getElem?_eq_getElem (l := rs) (i := j) (by rw [HK.out]; exact hlt)
        rw [h5] at hr
        exact Option.some.inj hr
      rw [er] at hdr
      obtain ⟨q1, q2, q3, q4, q5, _⟩ := hdr
      have krd := KRD.out wr hB at0 r q1 q2 q3 q4 q5
      obtain ⟨n, hn⟩ : ∃ n : Nat, k - j = n + 1 := ⟨k - j - 1, by omega⟩
      rw [hn]
      have nI : (0 : Int) < ((n + 1 : Nat) : Int) := by omega
      obtain ⟨m, hm⟩ : ∃ m, n + 1 = m := ⟨_, rfl⟩
      rw [hm] at nI ⊢
      have wmn : IntKind.u64.wrap ((m : Int) - 1) = (n : Int) := by rw [IntKind.wrap_u64]; omega
      obtain ⟨x, old⟩ := r
      simp only at krd q2 q3 q5
      have hlen := hrow.len
      obtain ⟨rl, hrl⟩ : ∃ rl, (recB x old).length = rl := ⟨_, rfl⟩
      obtain ⟨ln, hln⟩ : ∃ ln, old.length = ln := ⟨_, rfl⟩
      have hRC : ∀ R, recC (x, old) R = [.int .i64 (x : Int), .slice (some ⟨R, 24, none⟩) ln (rl - 24)] := fun R => by unfold recC; simp only; rw [hrl, hln]
      rw [hrl, hln] at krd
      rw [hrl] at q5
      have KRDx := hide krd
      have HROW := hide hrow
      have HB := hide hB
      have HTS := hide hts
      have HNM := hide (And.intro hn hm)
      have HRC := hide hRC
      have HRL := hide hrl
      have wma : IntKind.i64.wrap ((at0 : Int) + (rl : Int)) = ((at0 + rl : Nat) : Int) := by rw [IntKind.wrap_i64]; omega
      obtain ⟨at1, hat1⟩ : ∃ at1, at0 + rl = at1 := ⟨_, rfl⟩
      rw [hat1] at wma
      have HAT1 := hide hat1
      have hjl : (rs.take j).length = j := by rw [List.length_take, HK.out]; omega
      have HJL := hide hjl
      clear krd hrow hB hts q1 q4 hn hm hlen hRC hrl hat1 er hr hln hjl
      go_upto_region 11 with (go_at_call 35; refine (KRDx.out).mono ?_; rintro e W2 ⟨R, rfl, hRs, hRo, hRb⟩; have HRS2 := hide hRs; have HRO := hide hRo; have HRB := hide hRb; clear hRs hRo hRb)
      have hA1 : Below W2.heap.size W2 (W2.alloc (.cells #[.int .i64 (x : Int), .slice (some ⟨R, 24, none⟩) ln (rl - 24)] 57)) := (Below.refl _ W2).alloc (Nat.le_refl _) _
      have hnew := heap_alloc_new W2 (.cells #[.int .i64 (x : Int), .slice (some ⟨R, 24, none⟩) ln (rl - 24)] 57)
      have c0 : (W2.alloc (.cells #[.int .i64 (x : Int), .slice (some ⟨R, 24, none⟩) ln (rl - 24)] 57)).cell? ⟨W2.heap.size, 0, none⟩ = some (.int .i64 (x : Int)) := cell8 hnew 0
      have c1 : (W2.alloc (.cells #[.int .i64 (x : Int), .slice (some ⟨R, 24, none⟩) ln (rl - 24)] 57)).cell? ⟨W2.heap.size, 1, none⟩ = some (.slice (some ⟨R, 24, none⟩) ln (rl - 24)) := cell8 hnew 1
      have HB3 := hide (bseq HRB.out hA1)
      have HO3 := hide (HRO.out.below hA1 HRO.out.lt)
      have hRlt := HRO.out.lt
      generalize hXX : W2.alloc (.cells #[.int .i64 (x : Int), .slice (some ⟨R, 24, none⟩) ln (rl - 24)] 57) = X at *
      have hA2 : Below X.heap.size X (X.alloc (.cells #[.int .i64 (x : Int), .slice (some ⟨R, 24, none⟩) ln (rl - 24)] 57)) := (Below.refl _ X).alloc (Nat.le_refl _) _
      have hrow4 := (HROW.out.keep HB3.out).keep hA2
      have HB4 := hide (bseq (bseq HB.out HB3.out) hA2)
      have HO4 := hide (HO3.out.below hA2 HO3.out.lt)
      have HROW4 := hide hrow4
      have hsz : w.heap.size ≤ (X.alloc (.cells #[.int .i64 (x : Int), .slice (some ⟨R, 24, none⟩) ln (rl - 24)] 57)).heap.size := HB4.out.size
      have hrr := hrow4.row
      rw [HJL.out] at hrr
      have HRR := hide hrr
      have hlenR := hrow4.len
      rw [HJL.out] at hlenR
      clear hXX hA1 hnew hA2 hrow4 hrr
      go_wp2_with (at_builtin; refine wpList_append_own_at _ rfl _ _ 38 rfl w.heap.size 57 i0 (.agg #[.int .i64 0, .slice none 0 0]) 2 32 Try.underlying38 hi0 hz0 hz1 hz2 rfl (by decide) u6 j (((rs.take j).zip Rs).flatMap (fun p => recC p.1 p.2)) rfl HRR.out ⟨X.heap.size, 0, none⟩ 1 1 [.int .i64 (x : Int), .slice (some ⟨R, 24, none⟩) ln (rl - 24)] rfl rfl (cell_twoU X _ _ _) (by simp [Value.oneCell']) (by unfold maxLen; omega) (by omega) hsz ?_; intro v1 x1 ho3 hg3 hnn hat3; clear hnn hat3; have HO7 := hide ho3; have HG7 := hide hg3; clear ho3 hg3)
      go_roundw
      case rel =>
        have hB7 := bel_of_grownT HB4.out HRR.out HG7.out
        obtain ⟨hn, hm⟩ := HNM.out
        refine ⟨j + 1, Rs ++ [R], at1, int_congrP (by omega), rfl, ?_, by omega, ⟨?_, ?_, ?_, ?_⟩, hB7⟩
        · rw [HTS.out, recsLen_snoc, HRL.out, ← HAT1.out, HAT0.out]
          omega
        · rw [HTS.out, List.length_append, List.length_append, hlenR, HJL.out]
          rfl
        · have e1 : ((rs.take j ++ [(x, old)]).zip (Rs ++ [R])).flatMap (fun p => recC p.1 p.2) = ((rs.take j).zip Rs).flatMap (fun p => recC p.1 p.2) ++ [.int .i64 (x : Int), .slice (some ⟨R, 24, none⟩) ln (rl - 24)] := by
            rw [List.zip_append (by rw [hlenR, HJL.out]), List.flatMap_append, ← HRC.out R]
            simp
          rw [HTS.out, e1, List.length_append, HJL.out]
          exact HO7.out
        · intro i r' R' h1 h2
          rw [HTS.out] at h1
          have hg := HG7.out
          have notrow : ∀ (k' : Nat) (c' : Array Value), (X.alloc (.cells #[.int .i64 (x : Int), .slice (some ⟨R, 24, none⟩) ln (rl - 24)] 57)).heap[k']? = some (.cells c' 5 (0, 0)) → x1.heap[k']? = (X.alloc (.cells #[.int .i64 (x : Int), .slice (some ⟨R, 24, none⟩) ln (rl - 24)] 57)).heap[k']? := fun k' c' hk' => hg.block k' (lt_of_heap hk') (fun e => by
            obtain ⟨c2, hc2⟩ := own_type HRR.out e.symm
            exact ne_ty hk' hc2 (by decide) rfl)
          by_cases hi : i < j
          · rw [List.getElem?_append_left (by rw [HJL.out]; exact hi)] at h1
            rw [List.getElem?_append_left (by rw [hlenR]; exact hi)] at h2
            obtain ⟨o1, o2⟩ := HROW4.out.own i r' R' h1 h2
            exact ⟨o1.of_block (notrow R' _ o1), o2⟩
          · have hij : i = j := by
              have := (List.getElem?_eq_some_iff.1 h1).1
              rw [List.length_append, HJL.out] at this
              simp at this
              omega
            subst hij
            rw [List.getElem?_append_right (by rw [HJL.out]; exact Nat.le_refl _), HJL.out, Nat.sub_self] at h1
            rw [List.getElem?_append_right (by rw [hlenR]; exact Nat.le_refl _), hlenR, Nat.sub_self] at h2
            simp at h1 h2
            subst h1 h2
            exact ⟨HO4.out.of_block (notrow R _ HO4.out), Nat.le_trans HB.out.size HRS2.out⟩
        · rw [List.pairwise_append]
          refine ⟨HROW4.out.ne, List.pairwise_singleton _ _, fun p hp q hq => ?_⟩
          rw [List.mem_singleton.1 hq]
          obtain ⟨i, hi⟩ := List.getElem?_of_mem hp
          have hil : i < j := by have := (List.getElem?_eq_some_iff.1 hi).1; omega
          obtain ⟨r', hr'⟩ : ∃ r', (rs.take j)[i]? = some r' := ⟨_, List.getElem?_eq_getElem (by rw [HJL.out]; exact hil)⟩
          have := (HROW.out.own i r' p hr' hi).1.lt
          have := HRS2.out
          omega
      case measure => obtain ⟨hn, hm⟩ := HNM.out; simp [intOf]; omega
    · obtain rfl : j = k := by omega
      have hfull : rs.take j = rs := List.take_of_length_le (by rw [HK.out]; exact Nat.le_refl _)
      rw [hfull] at hrow
      have HROW := hide hrow
      have HB := hide hB
      rw [Nat.sub_self]
      clear hrow hB hfull
      go_wp2
      go_ret2
      exact ⟨_, Rs, rfl, HROW.out, HB.out⟩
end Go.Proofs.Ytgfgihpkbbjkfaa
namespace Go.Proofs.Ytgfgihpkbbjkfaa
open Go.RowKit Go.Shelf
set_option linter.unusedVariables false
set_option maxRecDepth 100000
attribute [local go_sem] Oper.semAt_some
/-- What is asked, and no panic. -/
def noPan (Q : Exit → Act → World → Prop) : Exit → Act → World → Prop
  | .panic _, _, _ => False
  | e, a, w => Q e a w
theorem noPan_le {Q : Exit → Act → World → Prop} : ∀ e a w, noPan Q e a w → Q e a w := fun e a w h => by cases e <;> first | exact h | exact h.elim
theorem noPan_normal {Q : Exit → Act → World → Prop} {a : Act} {w : World} (h : Q .normal a w) : noPan Q .normal a w := h
theorem plog_nd : NDt 29 := ⟨by decide, by decide, by decide, by decide, by decide, by decide⟩
theorem rec_nd : NDt 57 := ⟨by decide, by decide, by decide, by decide, by decide, by decide⟩
theorem err_nd : NDt 35 := ⟨by decide, by decide, by decide, by decide, by decide, by decide⟩
theorem stab_log {β : Type} {H : TypeId → Prop} {B g b a z : Nat} (hb : g < B) : Stab H B (fun (_ : β) W => LogL W g b a z) := fun s W W' hJ hs => hs.2 g _ hJ (.inl hb)
/-- As Atd, and where it was laid stays. -/
def AtS (w : World) (b : Nat) (L : Lay) (σ : St) (w' : World) (s : St) (m : Nat) (c : Int) : Prop := Gr (Foot b L σ) w w' ∧ ∃ L', DevL w' b L' s ∧ (∀ k, Foot b L' s k → Foot b L σ k ∨ w.heap.size ≤ k) ∧ L'.N ≤ L.N + m ∧ L'.KB = L.KB ∧ (c = 0 → SameL L L')
theorem AtS.atd {w w' : World} {b m : Nat} {L : Lay} {σ s : St} {c : Int} (h : AtS w b L σ w' s m c) : Atd w b L σ w' s m := by
  obtain ⟨h1, L', h2, h3, h4, _⟩ := h
  exact ⟨h1, L', h2, h3, h4⟩
theorem Dv.wentS {w w' : World} {b m : Nat} {L : Lay} {σ s : St} (h : Dv w b L σ) (ha : AtS w b L σ w' s m 0) (hl : LikeG σ s m) (hlt : σ.ops + m < 1400000000000) : ∃ L', Dv w' b L' s ∧ (∀ k, Foot b L' s k → Foot b L σ k ∨ w.heap.size ≤ k) ∧ L'.N ≤ L.N + m ∧ SameL L L' := by
  obtain ⟨hg, L', hd, hf, hN, _, hs⟩ := ha
  have h1 := h.num
  have h2 := hl.ops
  have h3 := hl.cnt
  have h4 := h.cn
  refine ⟨L', ⟨hd, hl.ok, hl.off.trans h.on, by omega, ⟨by rw [hl.arms]; exact h.few.one, ?_⟩, ?_⟩, hf, hN, hs rfl⟩
  · have := h.few.cnt
    rw [h3]
    split
    · omega
    · omega
  · rw [h3]
    split <;> omega
theorem dvs_store {w : World} {b : Nat} {L : Lay} {σ : St} {a : Option Addr} {bs : List Nat} (at_ cap : Nat) (h : Dv w b L σ) (hops : σ.ops + 2000000 ≤ 1400000000000) (hsl : Sl w a bs) (hcap : bs.length ≤ cap) (hlen : at_ + bs.length ≤ 64 * σ.n) (haf : ∀ ad, a = some ad → ad.block < w.heap.size ∧ ¬ Foot b L σ ad.block) :
    Calls Try.prog 20 #[.pointer (some ⟨b, 0, none⟩), .int .i64 (at_ : Int), .slice a bs.length cap] w fun e w' => ∃ c s, e = .returned (.int .i64 c) ∧ RunD (wds bs at_ (wordsOf at_ bs.length)) σ c s ∧ AtS w b L σ w' s (wordsOf at_ bs.length).length c := by
  have hm := h.ok.max
  have hcn := h.cn
  have hwl := wordsOf_len (at_ := at_) (n := bs.length) (by omega)
  refine (psto_gen at_ cap h.dev h.ok h.on h.num h.few (by omega) (by omega) hsl hcap hlen haf).mono ?_
  rintro e w' ⟨c, s, L', h1, h2, h3, h4, h5, h6⟩
  exact ⟨c, s, h1, wr_run h.ok hsl.lt (wordsOf_lt hlen hm) (by omega) h2, h5, L', h3, h4, h6⟩
/-- The operations that put a record back. -/
def bckF (xn : Nat) (old : List Nat) : List (St → St) := wds old xn (wordsOf xn old.length) ++ fls (linesOf xn old.length)
set_option maxHeartbeats 1000000 in
theorem lrestore_in {w : World} {g b a z xn R o cap : Nat} {L : Lay} {σ : St} {old : List Nat} (h : LogL w g b a z) (hd : Dv w b L σ) (hops : σ.ops + 4000000 ≤ 1400000000000) (hsl : Sl w (some ⟨R, o, none⟩) old) (hcap : old.length ≤ cap) (hlen : xn + old.length ≤ 64 * σ.n) (haf : R < w.heap.size ∧ ¬ Foot b L σ R) :
    CallsIn Fence.wide 3 Try.prog 43 #[.pointer (some ⟨g, 0, none⟩), .agg #[.int .i64 (xn : Int), .slice (some ⟨R, o, none⟩) old.length cap]] w fun e w' => ∃ c s, e = .returned (.int .i64 c) ∧ RunD (bckF xn old) σ c s ∧ AtS w b L σ w' s (bckF xn old).length c := by
  have hnm := hd.ok.max
  have hwl := wordsOf_len (at_ := xn) (n := old.length) (by omega)
  have hll := linesOf_len (at_ := xn) (n := old.length) (by omega)
  have hbl : (bckF xn old).length = (wordsOf xn old.length).length + (linesOf xn old.length).length := by unfold bckF; rw [List.length_append, wds_len, fls_len]
  have hlk := acts_like (N := σ.n) (wds old xn (wordsOf xn old.length)) σ (wds_good hsl.lt (wordsOf_lt hlen hnm)) hd.ok rfl (by rw [wds_len]; omega)
  rw [wds_len] at hlk
  have HB0 := hide (show Below w.heap.size w (((w.alloc (.cells #[.pointer (some ⟨g, 0, none⟩)] 29)).alloc (.cells #[.int .i64 (xn : Int), .slice (some ⟨R, o, none⟩) old.length cap] 57)).alloc (.cells #[.int .i64 0] 35)) from (((Below.refl _ w).alloc (Nat.le_refl _) _).alloc (by simp) _).alloc (by simp; omega) _)
  have hsz : (((w.alloc (.cells #[.pointer (some ⟨g, 0, none⟩)] 29)).alloc (.cells #[.int .i64 (xn : Int), .slice (some ⟨R, o, none⟩) old.length cap] 57)).alloc (.cells #[.int .i64 0] 35)).heap.size = w.heap.size + 3 := by simp
  have b2 : (((w.alloc (.cells #[.pointer (some ⟨g, 0, none⟩)] 29)).alloc (.cells #[.int .i64 (xn : Int), .slice (some ⟨R, o, none⟩) old.length cap] 57)).alloc (.cells #[.int .i64 0] 35)).heap[w.heap.size]? = some (.cells #[.pointer (some ⟨g, 0, none⟩)] 29 (0, 0)) := by
    rw [Below.heap_alloc _ _ _ (by simp; omega), Below.heap_alloc _ _ _ (by simp)]
    exact heap_alloc_new w _
  have b3 : (((w.alloc (.cells #[.pointer (some ⟨g, 0, none⟩)] 29)).alloc (.cells #[.int .i64 (xn : Int), .slice (some ⟨R, o, none⟩) old.length cap] 57)).alloc (.cells #[.int .i64 0] 35)).heap[w.heap.size + 1]? = some (.cells #[.int .i64 (xn : Int), .slice (some ⟨R, o, none⟩) old.length cap] 57 (0, 0)) := by
    rw [Below.heap_alloc _ _ _ (by simp)]
    have k := heap_alloc_new (w.alloc (.cells #[.pointer (some ⟨g, 0, none⟩)] 29)) (.cells #[.int .i64 (xn : Int), .slice (some ⟨R, o, none⟩) old.length cap] 57)
    rw [World.size_alloc] at k
    exact k
  have b4 := Boxed.new ((w.alloc (.cells #[.pointer (some ⟨g, 0, none⟩)] 29)).alloc (.cells #[.int .i64 (xn : Int), .slice (some ⟨R, o, none⟩) old.length cap] 57)) 35 (.int .i64 0)
  simp only [World.size_alloc] at b4
  refine callsIn_of_wp_marks Try.func43 rfl trivial ?_ rfl
  simp only [Try.ntmps43, List.size_toArray, List.length_cons, List.length_nil, Nat.reduceAdd, Nat.reduceSub, Array.replicate_succ, Array.replicate_zero, List.push_toArray, List.append_toArray, List.nil_append, List.cons_append]
  gi_wp2_with (fail)
  generalize ((w.alloc (.cells #[.pointer (some ⟨g, 0, none⟩)] 29)).alloc (.cells #[.int .i64 (xn : Int), .slice (some ⟨R, o, none⟩) old.length cap] 57)).alloc (.cells #[.int .i64 0] 35) = W0 at *
  have hbd := HB0.out.drew
  have HD0 := hide (hd.below hbd)
  have KST := hide (dvs_store xn cap HD0.out (by omega) (hsl.below hbd) hcap hlen (fun ad e => by cases e; exact ⟨by show R < W0.heap.size; omega, haf.2⟩))
  have S1 := hide (show W0.drew.heap[w.heap.size]? = some (.cells #[.pointer (some ⟨g, 0, none⟩)] 29 (0, 0)) ∧ LogL W0.drew g b a z ∧ W0.drew.heap[w.heap.size + 1]? = some (.cells #[.int .i64 (xn : Int), .slice (some ⟨R, o, none⟩) old.length cap] 57 (0, 0)) from ⟨b2, (h.below HB0.out).drew, b3⟩)
  have B4 := hide (show Boxed W0.drew (w.heap.size + 1 + 1) 35 (.int .i64 0) from b4)
  have HLK := hide hlk
  have BK := hide (fun (c : Int) (s : St) (h : RunD (wds old xn (wordsOf xn old.length) ++ fls (linesOf xn old.length)) σ c s) => show RunD (bckF xn old) σ c s from h)
  have HBL := hide hbl
  have hsl256 := hide hsl.lt
  obtain ⟨ln, hln⟩ : ∃ ln, old.length = ln := ⟨_, rfl⟩
  rw [hln] at KST S1 HLK HBL BK hcap hlen hwl hll
  clear h hd hsl b2 b3 b4 hlk hbl hbd haf
  refine wpIn_wide.2 (Go.wp_mono (Q := noPan _) ?_ noPan_le)
  refine wp_region_held_drew (S := fun Y => Y.heap[w.heap.size]? = some (.cells #[.pointer (some ⟨g, 0, none⟩)] 29 (0, 0)) ∧ LogL Y g b a z ∧ Y.heap[w.heap.size + 1]? = some (.cells #[.int .i64 (xn : Int), .slice (some ⟨R, o, none⟩) ln cap] 57 (0, 0))) (by kernel_rfl) S1.out (fun hS => ?_)
  refine wpAnyH_take (i := 0) (v := (.pointer (some ⟨g, 0, none⟩))) rfl (by kernel_rfl) (by kernel_rfl) (by kernel_rfl) (fun _ _ _ h => h) (Or.inl ⟨by kernel_rfl, fun w' hw => by (have z0 : w'.cell? ⟨w.heap.size, 0, none⟩ = some (.pointer (some ⟨g, 0, none⟩)) := cell8 hw.1 0; have z1 := LogL.c1 hw.2.1; have z2 : w'.cell? ⟨w.heap.size + 1, 0, none⟩ = some (.int .i64 (xn : Int)) := cell8 hw.2.2 0; have z3 : w'.cell? ⟨w.heap.size + 1, 1, none⟩ = some (.slice (some ⟨R, o, none⟩) ln cap) := cell8 hw.2.2 1; go_simp)⟩) hS ?_
  refine wpAnyH_take (i := 1) (v := (.pointer (some ⟨g, 0, none⟩))) rfl (by kernel_rfl) (by kernel_rfl) (by kernel_rfl) (fun _ _ _ h => h) (Or.inl ⟨by kernel_rfl, fun w' hw => by (go_simp)⟩) hS ?_
  refine wpAnyH_take (i := 2) (v := (.pointer (some ⟨g, 1, none⟩))) rfl (by kernel_rfl) (by kernel_rfl) (by kernel_rfl) (fun _ _ _ h => h) (Or.inl ⟨by kernel_rfl, fun w' hw => by (go_simp)⟩) hS ?_
  refine wpAnyH_take (i := 3) (v := (.pointer (some ⟨b, 0, none⟩))) rfl (by kernel_rfl) (by kernel_rfl) (by kernel_rfl) (fun _ _ _ h => h) (Or.inl ⟨by kernel_rfl, fun w' hw => by (have z0 : w'.cell? ⟨w.heap.size, 0, none⟩ = some (.pointer (some ⟨g, 0, none⟩)) := cell8 hw.1 0; have z1 := LogL.c1 hw.2.1; have z2 : w'.cell? ⟨w.heap.size + 1, 0, none⟩ = some (.int .i64 (xn : Int)) := cell8 hw.2.2 0; have z3 : w'.cell? ⟨w.heap.size + 1, 1, none⟩ = some (.slice (some ⟨R, o, none⟩) ln cap) := cell8 hw.2.2 1; go_simp)⟩) hS ?_
  refine wpAnyH_take (i := 4) (v := (.pointer (some ⟨(w.heap.size + 1), 0, none⟩))) rfl (by kernel_rfl) (by kernel_rfl) (by kernel_rfl) (fun _ _ _ h => h) (Or.inl ⟨by kernel_rfl, fun w' hw => by (go_simp)⟩) hS ?_
  refine wpAnyH_take (i := 5) (v := (.int .i64 (xn : Int))) rfl (by kernel_rfl) (by kernel_rfl) (by kernel_rfl) (fun _ _ _ h => h) (Or.inl ⟨by kernel_rfl, fun w' hw => by (have z0 : w'.cell? ⟨w.heap.size, 0, none⟩ = some (.pointer (some ⟨g, 0, none⟩)) := cell8 hw.1 0; have z1 := LogL.c1 hw.2.1; have z2 : w'.cell? ⟨w.heap.size + 1, 0, none⟩ = some (.int .i64 (xn : Int)) := cell8 hw.2.2 0; have z3 : w'.cell? ⟨w.heap.size + 1, 1, none⟩ = some (.slice (some ⟨R, o, none⟩) ln cap) := cell8 hw.2.2 1; go_simp)⟩) hS ?_
  refine wpAnyH_take (i := 6) (v := (.pointer (some ⟨(w.heap.size + 1), 1, none⟩))) rfl (by kernel_rfl) (by kernel_rfl) (by kernel_rfl) (fun _ _ _ h => h) (Or.inl ⟨by kernel_rfl, fun w' hw => by (go_simp)⟩) hS ?_
  refine wpAnyH_take (i := 7) (v := (.slice (some ⟨R, o, none⟩) ln cap)) rfl (by kernel_rfl) (by kernel_rfl) (by kernel_rfl) (fun _ _ _ h => h) (Or.inl ⟨by kernel_rfl, fun w' hw => by (have z0 : w'.cell? ⟨w.heap.size, 0, none⟩ = some (.pointer (some ⟨g, 0, none⟩)) := cell8 hw.1 0; have z1 := LogL.c1 hw.2.1; have z2 : w'.cell? ⟨w.heap.size + 1, 0, none⟩ = some (.int .i64 (xn : Int)) := cell8 hw.2.2 0; have z3 : w'.cell? ⟨w.heap.size + 1, 1, none⟩ = some (.slice (some ⟨R, o, none⟩) ln cap) := cell8 hw.2.2 1; go_simp)⟩) hS ?_
  refine wpAnyH_goS (i := 8) (by kernel_rfl) rfl (by kernel_rfl) (fun K hK => ?_)
  go_wp2_with (go_at_call 20; refine (KST.out).mono ?_; rintro e Ws ⟨c, s1, rfl, hrun, hats⟩; have HRUN := hide hrun; have HATD := hide hats.atd; have HATS := hide hats; clear hrun hats)
  have hS2 := (show Ws.heap[w.heap.size]? = some (.cells #[.pointer (some ⟨g, 0, none⟩)] 29 (0, 0)) ∧ LogL Ws g b a z ∧ Ws.heap[w.heap.size + 1]? = some (.cells #[.int .i64 (xn : Int), .slice (some ⟨R, o, none⟩) ln cap] 57 (0, 0)) from ⟨HATD.out.kept HD0.out.dev S1.out.1 plog_nd, S1.out.2.1.atd HD0.out.dev HATD.out, HATD.out.kept HD0.out.dev S1.out.2.2 rec_nd⟩)
  refine hK.out _ _ hS2 ?_
  clear hK K
  refine wpAnyH_take (i := 9) (v := (.int .i64 c)) rfl (by kernel_rfl) (by kernel_rfl) (by kernel_rfl) (fun _ _ _ h => h) (Or.inl ⟨by kernel_rfl, fun w' hw => by (go_simp)⟩) hS2 ?_
  refine wpAnyH_done (by kernel_rfl) (noPan_normal ?_) _
  simp only [Act.put, List.getElem_toArray, List.getElem_cons_zero, List.getElem_cons_succ, List.setIfInBounds_toArray, List.set_cons_zero, List.set_cons_succ]
  have hW := hS2
  have x0 : Ws.cell? ⟨w.heap.size + 1, 0, none⟩ = some (.int .i64 (xn : Int)) := cell8 hW.2.2 0
  have x1 : Ws.cell? ⟨w.heap.size + 1, 1, none⟩ = some (.slice (some ⟨R, o, none⟩) ln cap) := cell8 hW.2.2 1
  have e4 : Boxed Ws (w.heap.size + 1 + 1) 35 (.int .i64 0) := HATD.out.kept HD0.out.dev B4.out err_nd
  have hWss : W0.drew.heap.size ≤ Ws.heap.size := HATD.out.size
  have hdz : W0.drew.heap.size = W0.heap.size := rfl
  have hE : w.heap.size + 3 ≤ Ws.heap.size := by omega
  have hgws : Gr (Foot b L σ) w Ws := (Gr.of_below HB0.out.drew).trans HATD.out.1 (fun i h => .inl h)
  have HGWS := hide hgws
  have E4 := hide e4
  have c4 := e4.cell
  have z4 := e4.frozen
  clear hS hS2 KST B4 S1 hgws e4
  rcases HRUN.out.code with rfl | rfl
  · obtain ⟨L1, hd1, hf1, hN1, hsL⟩ := HD0.out.wentS HATS.out (by rw [HRUN.out.zero]; exact HLK.out) (by omega)
    have hl1 : LikeG σ s1 (wordsOf xn ln).length := by rw [HRUN.out.zero]; exact HLK.out
    have hO := hd1.dev.old_
    have hf1' : ∀ k, Foot b L1 s1 k → Foot b L σ k ∨ w.heap.size ≤ k := fun k hk => (hf1 k hk).imp id (fun h => by omega)
    have HF1 := hide hf1'
    have hN := hd1.num
    have hok := hd1.ok
    have ho := hd1.on
    have hfw := hd1.few
    have hcn0 := hd1.cn
    have q1 := hl1.ops
    have q2 := hl1.n
    have hops1 : s1.ops + 600000 ≤ 1400000000000 := by omega
    have hcn : s1.cnt + 600000 ≤ 1400000000000 := by omega
    have hlen1 : xn + ln ≤ 64 * s1.n := by rw [q2]; exact hlen
    have hnm1 : s1.n ≤ 65536 := by rw [q2]; exact hnm
    have HL1 := hide hl1
    have HSL := hide hsL
    clear hsL
    clear hl1 hf1 hf1' hcn0 q1 q2
    gi_wp2_with (refine ⟨trivial, ?_⟩; gi_at_call 65; refine (lines_in _ _ trivial rfl (xn : Int) (ln : Int) _).mono ?_; rintro e w' ⟨rfl, rfl⟩)
    have hB1 : Below Ws.heap.size Ws ((Ws.alloc (.cells #[.int .i64 (xn : Int)] 3)).alloc (.cells #[.int .i64 (ln : Int)] 3)) := ((Below.refl _ Ws).alloc (Nat.le_refl _) _).alloc (by simp) _
    have hsz1 : ((Ws.alloc (.cells #[.int .i64 (xn : Int)] 3)).alloc (.cells #[.int .i64 (ln : Int)] 3)).heap.size = Ws.heap.size + 2 := by simp
    have b7 := (Boxed.new Ws 3 (.int .i64 (xn : Int))).alloc (.cells #[.int .i64 (ln : Int)] 3)
    have b8 := Boxed.new (Ws.alloc (.cells #[.int .i64 (xn : Int)] 3)) 3 (.int .i64 (ln : Int))
    simp only [World.size_alloc] at b8
    obtain ⟨W1, hW1⟩ : ∃ W1, (Ws.alloc (.cells #[.int .i64 (xn : Int)] 3)).alloc (.cells #[.int .i64 (ln : Int)] 3) = W1 := ⟨_, rfl⟩
    rw [hW1] at b7 b8 hB1 hsz1 ⊢
    clear hW1
    have hd0 := hd1.dev.below hB1
    have b2 : W1.heap[w.heap.size]? = some (.cells #[.pointer (some ⟨g, 0, none⟩)] 29 (0, 0)) := (hB1.block _ (by omega)).trans hW.1
    have bl : LogL W1 g b a z := hW.2.1.below hB1
    have b4 : Boxed W1 (w.heap.size + 1 + 1) 35 (.int .i64 0) := (hB1.block _ (by omega)).trans E4.out
    have hgl : g < Ws.heap.size := lt_of_heap hW.2.1
    clear x0 x1 c4 z4 hW hdz
    apply rangeX (gf := 81) (lb := #[.pointer (some ⟨Ws.heap.size, 0, none⟩), .pointer (some ⟨Ws.heap.size + 1, 0, none⟩)]) (encs := encI) rfl (enters_of Try.func81 (by kernel_rfl) rfl)
      (lines_x HP (fun k => k = Ws.heap.size ∨ k = Ws.heap.size + 1) Ws.heap.size (Ws.heap.size + 1) (xn : Int) (ln : Int) W1 (by omega) (by omega) b7.cell b8.cell (by omega) (by omega)) (Below.refl _ _) (fun k hk => by omega) (fun _ => rfl)
      (fun pre W' => (W'.heap[w.heap.size]? = some (.cells #[.pointer (some ⟨g, 0, none⟩)] 29 (0, 0)) ∧ (LogL W' g b a z ∧ (Boxed W' (w.heap.size + 1 + 1) 35 (.int .i64 0) ∧ (Boxed W' Ws.heap.size 3 (.int .i64 (xn : Int)) ∧ Boxed W' (Ws.heap.size + 1) 3 (.int .i64 (ln : Int)))))) ∧ (Gr (Foot b L1 s1) W1 W' ∧ ∃ L', DevL W' b L' (linesG s1 (pre.map Int.toNat)) ∧ (SameL L1 L' ∧ L'.N ≤ L1.N + pre.length ∧ (∀ k, Foot b L' (linesG s1 (pre.map Int.toNat)) k → Foot b L1 s1 k ∨ Ws.heap.size ≤ k) ∧ ∀ af kp rest, s1.arms = (af, kp) :: rest → pre ≠ [] → s1.cnt + pre.length < af)))
      (fun c pre W' => (c = .ret ∧ Boxed W' (w.heap.size + 1 + 1) 35 (.int .i64 5)) ∧ (Gr (fun k => Foot b L1 s1 k ∨ k = w.heap.size + 1 + 1) Ws W' ∧ ∃ L' σ', DevL W' b L' σ' ∧ ((L'.KB = L1.KB ∧ L'.N ≤ L1.N + pre.length) ∧ (∃ pr no, pre.map Int.toNat = pr ++ [no] ∧ Opd (flA (linesG s1 pr) no) 5 σ') ∧ ∀ k, Foot b L' σ' k → Foot b L1 s1 k ∨ Ws.heap.size ≤ k)))
      (Stab.and (Stab.and (Stab.blk _ (by omega)) (Stab.and (stab_log (by omega)) (Stab.and (Stab.box _ _ (by omega)) (Stab.and (Stab.box _ _ (by omega)) (Stab.box _ _ (by omega)))))) (Stab.and (stab_gr (Nat.le_refl _)) (fun s W W' hJ hs => by obtain ⟨L', h1, h2, h3⟩ := hJ; exact ⟨L', stab_dev (σ := fun _ : Unit => linesG s1 (s.map Int.toNat)) (hO.same h2) (by omega) () W W' h1 hs, h2, h3⟩)))
      (fun c => Stab.and (Stab.and (Stab.pure _) (Stab.box _ _ (by omega))) (Stab.and (stab_gr (by omega)) (fun s W W' hJ hs => by obtain ⟨L', σ', h1, h2⟩ := hJ; exact ⟨L', σ', dev_sub h1 (fun k hk => by rw [h2.1.1] at hk; have := hO.kb k hk; omega) hs, h2⟩)))
      ⟨⟨b2, bl, b4, b7, b8⟩, Gr.refl _ _, L1, hd0, SameL.refl L1, by simp, fun k hk => .inl hk, fun _ _ _ _ h => absurd rfl h⟩
    case hassign =>
      intro l' x W' K hK
      simp only [encI]
      gi_wp2
      exact hK
    case hbody =>
      rintro l' pre x W ⟨⟨h2, hlg, h4, h7, h8⟩, hgW, L', hdW, hsame, hNL, hfoot, _⟩ hpx
      obtain ⟨no, rfl, hno, hpl⟩ := unit_told hlen1 hnm1 hpx
      obtain ⟨k1, k2, k3, k4, k5, k6⟩ := linesG_like (pre.map Int.toNat) s1 hok (by rw [List.length_map]; omega)
      rw [List.length_map] at k3
      have hsn : linesG s1 ((pre ++ [(no : Int)]).map Int.toNat) = tick (flA (linesG s1 (pre.map Int.toNat)) no) := by rw [List.map_append, List.map_cons, List.map_nil, linesG_snoc]; rfl
      generalize hgk : linesG s1 (pre.map Int.toNat) = σk at *
      have HGK := hide hgk
      clear hgk
      rw [List.length_map] at k6
      have HCT := hide k6
      have HAR := hide k4
      have hfk : Few σk := ⟨by rw [k4]; exact hfw.one, by rw [k6]; split <;> omega⟩
      have kf := pflush_gen hdW k1 (k5.trans ho) hfk (no * 64) (by omega) (by omega) (by omega)
      rw [show no * 64 / 64 = no by omega] at kf
      have e3 : ((no * 64 : Nat) : Int) = (no : Int) * 64 := by omega
      rw [e3] at kf
      have c2 := cell8 h2 0
      have cl := hlg.c1
      have noI : (no : Int) ≤ 65536 := by omega
      have hOL := hO.same hsame
      have n2 := foot_nd hdW h2 plog_nd
      have nl := foot_nd hdW hlg log_nd
      have n4 := foot_nd hdW h4 err_nd
      have n7 := box_foot hdW hOL h7 (by omega) (by unfold HP; decide)
      have n8 := box_foot hdW hOL h8 (by omega) (by unfold HP; decide)
      have KF := hide kf
      have HD := hide hdW
      have HG := hide hgW
      have HF := hide hfoot
      have HS := hide hsame
      have H2 := hide h2
      have HLG := hide hlg
      have H4 := hide h4
      have H7 := hide h7
      have H8 := hide h8
      have HSN := hide hsn
      have HOL := hide hOL
      have HNL := hide hNL
      clear kf hdW hgW hfoot hsame h2 hlg h4 h7 h8 hsn hpx k1 k2 k3 k4 k5 k6 hNL hOL hfk
      have N4 := hide n4
      rcases Classical.em (fires (flA σk no)) with hF | hF
      · have HF0 := hide hF
        clear hF
        gi_wp2_with (refine ⟨trivial, ?_⟩; gi_at_call 40; refine (inR (KF.out)).mono ?_; rintro e W2 ⟨c, σ2, L2, rfl, ho2, hd2, hf2, hg2, hN2, hk2, hs2⟩; obtain rfl := ho2.yes HF0.out; have y6 : Boxed W2 (w.heap.size + 1 + 1) 35 (.int .i64 0) := hg2.keep H4.out N4.out; have cy6 := y6.cell; have zy6 := y6.frozen; have Y6 := hide y6; have HO2 := hide ho2; have HD2 := hide hd2; have HF2 := hide hf2; have HG2 := hide hg2; have HN2 := hide hN2; have HK2 := hide hk2; clear ho2 hd2 hf2 hg2 hN2 hk2 hs2 y6)
        have hdW := HD.out
        have hOL := HOL.out
        have g1 := HG2.out
        have h2 := HN2.out
        have h3 := HNL.out
        have h4 := HG.out.size
        have hd5 : DevL (W2.setCell ⟨w.heap.size + 1 + 1, 0, none⟩ (.int .i64 5)) b L2 σ2 := HD2.out.keep (fun k hk => heap_set_ne W2 _ 0 k _ (fun e => by
          rcases HF2.out k hk with h5 | h5
          · exact N4.out (e ▸ h5)
          · omega))
        have g0 : Gr (Foot b L1 s1) Ws W := (Gr.of_below hB1).trans HG.out (fun i h => .inl h)
        refine ⟨(g1.kp (fun k o hk hf => ⟨fun hn => by rcases hn with e | e; exact n7 (e ▸ hf); exact n8 (e ▸ hf), ?_⟩)).trans (Kp.set _ (fun h => by omega) (by omega)), ⟨rfl, Y6.out.set _⟩, ((g0.trans g1 HF.out).mono (fun k h => .inl h)).trans (Gr.set W2 _ 0 _ (X := fun k => k = w.heap.size + 1 + 1) rfl) (fun i h => .inl (.inr h)), L2, σ2, hd5, ⟨HK2.out.trans HS.out.2.2.2.2, ?_⟩, ⟨pre.map Int.toNat, no, by simp, ?_⟩, fun k hk => ?_⟩
        · rcases foot_cases hdW hOL hf with h1 | ⟨o', h1, h2⟩
          · exact .inl (by omega)
          · rw [hk] at h1; cases h1; exact .inr h2
        · rw [List.length_append, List.length_singleton]; omega
        · rw [HGK.out]; exact HO2.out
        · rcases HF2.out k hk with h5 | h5
          · exact HF.out k h5
          · exact .inr (by omega)
      · have HF0 := hide hF
        clear hF
        gi_wp2_with (refine ⟨trivial, ?_⟩; gi_at_call 40; refine (inR (KF.out)).mono ?_; rintro e W2 ⟨c, σ2, L2, rfl, ho2, hd2, hf2, hg2, hN2, hk2, hs2⟩; obtain ⟨rfl, rfl⟩ := ho2.no HF0.out; have HS2 := hide (hs2 rfl); have HD2 := hide hd2; have HF2 := hide hf2; have HG2 := hide hg2; have HN2 := hide hN2; have HK2 := hide hk2; clear ho2 hd2 hf2 hg2 hN2 hk2 hs2)
        have hdW := HD.out
        have hOL := HOL.out
        have g1 := HG2.out
        have h2 := HN2.out
        have h3 := HNL.out
        have h4 := HG.out.size
        refine ⟨g1.kp (fun k o hk hf => ⟨fun hn => by rcases hn with e | e; exact n7 (e ▸ hf); exact n8 (e ▸ hf), ?_⟩), ⟨g1.keep H2.out n2, g1.keep HLG.out nl, g1.keep H4.out n4, g1.box H7.out n7, g1.box H8.out n8⟩, HG.out.trans g1 (fun i hi => ?_), L2, ?_, HS.out.trans HS2.out, ?_, fun k hk => ?_, fun af kp rest e _ => ?_⟩
        · rcases foot_cases hdW hOL hf with h1 | ⟨o', h1, h2⟩
          · exact .inl (by omega)
          · rw [hk] at h1; cases h1; exact .inr h2
        · rcases HF.out i hi with h5 | h5
          · exact .inl h5
          · have q7 : i ≠ Ws.heap.size := fun e => n7 (e ▸ hi)
            have q8 : i ≠ Ws.heap.size + 1 := fun e => n8 (e ▸ hi)
            exact .inr (by omega)
        · rw [HSN.out]; exact HD2.out
        · rw [List.length_append, List.length_singleton]; omega
        · rw [HSN.out] at hk
          rcases HF2.out k hk with h5 | h5
          · exact HF.out k h5
          · exact .inr (by omega)
        · refine Classical.byContradiction fun hc => HF0.out ⟨af, kp, rest, HAR.out.trans e, ?_⟩
          show af ≤ σk.cnt + 1
          rw [HCT.out, if_neg (by rw [e]; simp)]
          rw [List.length_append, List.length_singleton] at hc
          omega
    case hdone =>
      rintro D W hD ⟨⟨h2, hlg, h4, h7, h8⟩, hgW, L', hdW, hsame, hNL, hfoot, hpu⟩ hK
      have n4 := foot_nd hdW h4 err_nd
      have c6 := h4.cell
      have z6 := h4.frozen
      have hl : (unitsV 64 (xn : Int) (ln : Int)).length = (linesOf xn ln).length := by unfold linesOf; rw [List.length_map]
      rw [hl] at hNL hpu
      have HPU := hide hpu
      clear hpu
      have hd' : DevL W b L' (linesG s1 (linesOf xn ln)) := hdW
      have hf' : ∀ k, Foot b L' (linesG s1 (linesOf xn ln)) k → Foot b L1 s1 k ∨ Ws.heap.size ≤ k := hfoot
      have HD := hide hd'
      have HG := hide hgW
      have HF := hide hf'
      have HS := hide hsame
      have HK := hide hK
      have H4 := hide h4
      clear h2 hlg h4 h7 h8 hgW hdW hsame hfoot hK hl hd' hf'
      gi_wp2
      have hne : D ≠ w.heap.size + 1 + 1 := by omega
      have hK' : (W.setCell ⟨w.heap.size + 1 + 1, 0, none⟩ (.int .i64 0)).heap[D]? = some (.deferred (some [])) := (heap_set_ne W _ 0 D _ hne).trans HK.out
      refine ⟨by simp, .inl ⟨_, _, rfl, run_takeDeferred hK', ?_⟩⟩
      have hd2 : DevL (W.setCell ⟨w.heap.size + 1 + 1, 0, none⟩ (.int .i64 0)) b L' (linesG s1 (linesOf xn ln)) := HD.out.keep (fun k hk => heap_set_ne W _ 0 k _ (fun e => n4 (e ▸ hk)))
      have hgr : Gr (Foot b L σ) w ((W.setCell ⟨w.heap.size + 1 + 1, 0, none⟩ (.int .i64 0)).putObj D (.deferred none)) := by
        have g1 : Gr (Foot b L σ) w W := HGWS.out.trans ((Gr.of_below hB1).trans HG.out (fun i h => .inl h)) HF1.out
        have g2 : Gr (fun k => k = w.heap.size + 1 + 1) W (W.setCell ⟨w.heap.size + 1 + 1, 0, none⟩ (.int .i64 0)) := Gr.set W _ 0 _ rfl
        have g3 : Gr (fun k => k = D) (W.setCell ⟨w.heap.size + 1 + 1, 0, none⟩ (.int .i64 0)) ((W.setCell ⟨w.heap.size + 1 + 1, 0, none⟩ (.int .i64 0)).putObj D (.deferred none)) := Gr.of_grown (grownBy_putObj' _ D _) (fun k hk => .inl (by cases hk; rfl))
        exact (g1.trans g2 (fun i h => .inr (by omega))).trans g3 (fun i h => .inr (by omega))
      have hrf : RunD (fls (linesOf xn ln)) s1 0 (linesG s1 (linesOf xn ln)) := .inl ⟨rfl, (fls_acts _ _).symm⟩
      refine ⟨_, results_boxP rfl _ _ (w.heap.size + 1 + 1) _ _ rfl ((World.putObj_heap_other (Ne.symm hne)).trans (H4.out.set _)) (fun _ h => loadE h), 0, _, rfl, BK.out _ _ (HRUN.out.app0 hrf HL1.out.arms), hgr, L', hd2.put_ hK' _, fun k hk => ?_, ?_⟩
      · rcases HF.out k hk with h5 | h5
        · exact HF1.out k h5
        · exact .inr (by omega)
      · refine ⟨by rw [HBL.out]; omega, (HSL.out.trans HS.out).2.2.2.2, fun _ => HSL.out.trans HS.out⟩
    case hstop =>
      rintro D c pre W2 hD hpre ⟨⟨rfl, h4⟩, hgW, L', σ', hdW, ⟨hkb, hNL⟩, ⟨pr, no, hpn, hop⟩, hfoot⟩ hK
      have HD := hide hdW
      have HG := hide hgW
      have HF := hide hfoot
      have HOP := hide hop
      have HPN := hide hpn
      have HPR := hide hpre
      have HNL := hide hNL
      have HKB := hide hkb
      have H4 := hide h4
      clear h4 hgW hdW hfoot hop hpn hpre hNL hkb
      gi_wp2
      have hne : D ≠ w.heap.size + 1 + 1 := by omega
      refine ⟨by simp, .inl ⟨_, _, rfl, run_takeDeferred hK, ?_⟩⟩
      have hgr : Gr (Foot b L σ) w (W2.putObj D (.deferred none)) := (HGWS.out.trans HG.out (fun i h => h.elim (HF1.out i) (fun e => .inr (by omega)))).trans (Gr.of_grown (X := fun k => k = D) (grownBy_putObj' _ D _) (fun k hk => .inl (by cases hk; rfl))) (fun i h => .inr (by omega))
      have hpl := HPR.out.length_le
      have hl : (unitsV 64 (xn : Int) (ln : Int)).length = (linesOf xn ln).length := by unfold linesOf; rw [List.length_map]
      have h9 := HNL.out
      have hfd : FlD s1 (linesOf xn ln) 5 σ' := .inr ⟨rfl, pr, no, by
        have := HPR.out.map Int.toNat
        rw [HPN.out] at this
        exact this, HOP.out⟩
      refine ⟨_, results_boxP rfl _ _ (w.heap.size + 1 + 1) _ _ rfl ((World.putObj_heap_other (Ne.symm hne)).trans H4.out) (fun _ h => loadE h), 5, σ', rfl, BK.out _ _ (HRUN.out.app0 (fl_run hok (by omega) hfd) HL1.out.arms), hgr, L', HD.out.put_ hK _, fun k hk => ?_, ?_⟩
      · rcases HF.out k hk with h5 | h5
        · exact HF1.out k h5
        · exact .inr (by omega)
      · exact ⟨by rw [HBL.out]; omega, HKB.out.trans HSL.out.2.2.2.2, fun h => by cases h⟩
  · gi_wp2_with (fail)
    obtain ⟨hg9, L9, hd9, hf9, hN9, hkb9, _⟩ := HATS.out
    have n4 := foot_nd hd9 E4.out err_nd
    have hd8 : DevL (Ws.setCell ⟨w.heap.size + 1 + 1, 0, none⟩ (.int .i64 5)) b L9 s1 := hd9.keep (fun k hk => heap_set_ne Ws _ 0 k _ (fun e => n4 (e ▸ hk)))
    refine ⟨_, results_boxP rfl _ _ (w.heap.size + 1 + 1) _ _ rfl (E4.out.set _) (fun _ h => loadE h), 5, s1, rfl, BK.out _ _ HRUN.out.app5, HGWS.out.trans (Gr.set Ws _ 0 _ (X := fun k => k = w.heap.size + 1 + 1) rfl) (fun i h => .inr (by omega)), L9, hd8, fun k hk => (hf9 k hk).imp id (fun h => by omega), ?_, hkb9, fun h => by cases h⟩
    rw [HBL.out]
    omega
theorem lrestore_any {w : World} {g b a z xn R o cap : Nat} {L : Lay} {σ : St} {old : List Nat} (h : LogL w g b a z) (hd : Dv w b L σ) (hops : σ.ops + 4000000 ≤ 1400000000000) (hsl : Sl w (some ⟨R, o, none⟩) old) (hcap : old.length ≤ cap) (hlen : xn + old.length ≤ 64 * σ.n) (haf : R < w.heap.size ∧ ¬ Foot b L σ R) :
    Calls Try.prog 43 #[.pointer (some ⟨g, 0, none⟩), .agg #[.int .i64 (xn : Int), .slice (some ⟨R, o, none⟩) old.length cap]] w fun e w' => ∃ c s, e = .returned (.int .i64 c) ∧ RunD (bckF xn old) σ c s ∧ AtS w b L σ w' s (bckF xn old).length c := callsIn_wide.1 (lrestore_in h hd hops hsl hcap hlen haf)
theorem bck_good {N xn : Nat} {old : List Nat} (ho : ∀ y ∈ old, y < 256) (h : xn + old.length ≤ 64 * N) (hN : N ≤ 65536) : ∀ f ∈ bckF xn old, GoodF N f := by
  intro f hf
  rcases List.mem_append.1 hf with h1 | h1
  · exact wds_good ho (wordsOf_lt h hN) f h1
  · exact fls_good _ f h1
theorem bck_few {xn : Nat} {old : List Nat} (h : xn + old.length ≤ 4194304) : (bckF xn old).length ≤ 600000 := by
  have h1 := linesOf_len h
  have h2 := wordsOf_len h
  unfold bckF
  rw [List.length_append, wds_len, fls_len]
  omega
theorem bck_bytes {xn : Nat} {old : List Nat} {σ : St} (ho : ∀ y ∈ old, y < 256) (hok : σ.Ok) (h : xn + old.length ≤ 64 * σ.n) (hops : σ.ops + 600000 ≤ 1400000000000) : (acts (bckF xn old) σ).bytes = splice σ.bytes xn old := by
  unfold bckF
  rw [acts_append, fls_bytes, wds_acts, writeG_bytes ho hok h hops]
end Go.Proofs.Ytgfgihpkbbjkfaa
namespace Go.Proofs.Ytgfgihpkbbjkfaa
open Go.RowKit Go.Shelf
set_option linter.unusedVariables false
set_option maxRecDepth 100000
attribute [local go_sem] Oper.semAt_some
/-- What a row tells from behind. -/
def bkL {β : Type} (cs : List β) : List (Nat × β) := (cs.zipIdx.map (fun p => (p.2, p.1))).reverse
theorem bkL_len {β : Type} (cs : List β) : (bkL cs).length = cs.length := by simp [bkL]
theorem bkL_at {β : Type} {cs : List β} {k j : Nat} {p : β} (hx : cs[j]? = some p) (hj : cs.length = k + j + 1) : (bkL cs)[k]? = some (j, p) := by
  unfold bkL
  rw [List.getElem?_reverse (by simp; omega), List.getElem?_map, List.getElem?_zipIdx]
  have e : (cs.zipIdx.map (fun p => (p.2, p.1))).length - 1 - k = j := by simp; omega
  rw [e, hx]
  simp
theorem bkL_take {β : Type} {cs : List β} {k j : Nat} {p : β} (hx : cs[j]? = some p) (hj : cs.length = k + j + 1) : (bkL cs).take (k + 1) = (bkL cs).take k ++ [(j, p)] := by
  rw [List.take_add_one, bkL_at hx hj]
  rfl
def encB {β : Type} (f : β → Value × Value) (x : Nat × β) : Array Value := #[.int .i64 (x.1 : Int), .agg #[(f x.2).1, (f x.2).2]]
theorem index_rec (g o i len cap : Nat) (hi : i < len) (w : World) : (Instr.indexAt 38 (.slice (some ⟨g, o, none⟩) len cap) (.int .i64 (i : Int))).run Try.prog w = .ok (.pointer (some ⟨g, o + i * 2, none⟩)) w :=
  index_at (t := 38) (e := 57) (sz := 2) Try.underlying38 (by kernel_rfl) g o i len cap hi w
set_option maxHeartbeats 1000000 in
theorem backward_x {β : Type} (f : β → Value × Value) (H : TypeId → Prop) (N : Nat → Prop) (Bs g m cap : Nat) (cs : List β) (cur : Array Value) (w : World) (hN : ∀ k, N k → k < w.heap.size) (hBs : N Bs) (hg : N g)
    (hb : Boxed w Bs 38 (.slice (some ⟨g, 0, none⟩) m cap)) (hgr : w.heap[g]? = some (.cells cur 57 (0, 0))) (hm : cs.length = m) (hm2 : m ≤ 4194304) (hcs : ∀ (i : Nat) (p : β), cs[i]? = some p → cur[i * 2]? = some (f p).1 ∧ cur[i * 2 + 1]? = some (f p).2) :
    SeqX H N 64 #[.pointer (some ⟨Bs, 0, none⟩)] (encB f) (bkL cs) w := fun l J Jx W hW hJ hJx hY h0 => by
  have b0 : Boxed W Bs 38 (.slice (some ⟨g, 0, none⟩) m cap) := (hW.block _ (hN _ hBs)).trans hb
  have g0 : W.heap[g]? = some (.cells cur 57 (0, 0)) := (hW.block _ (hN _ hg)).trans hgr
  have c0 := b0.cell
  have B0 := hide b0
  have G0 := hide g0
  clear hb hgr hW
  refine callsIn_of_wp Try.func64 rfl trivial ?_ rfl
  simp only [Try.ntmps64, List.size_toArray, List.length_cons, List.length_nil, Nat.reduceAdd, Nat.reduceSub, Array.replicate_succ, Array.replicate_zero, List.push_toArray, List.append_toArray, List.nil_append, List.cons_append]
  have wm : IntKind.i64.wrap ((m : Int) - 1) = (m : Int) - 1 := by rw [IntKind.wrap_i64]; omega
  gi_wp2
  clear c0 b0 g0
  gi_loopw [3] (fun i wr => ∃ k : Nat, i = .int .i64 ((m : Int) - 1 - k) ∧ k ≤ m ∧ J ((bkL cs).take k) wr ∧ Boxed wr Bs 38 (.slice (some ⟨g, 0, none⟩) m cap) ∧ wr.heap[g]? = some (.cells cur 57 (0, 0))) (fun i _ => (intOf i + 1).toNat)
  case atStart => exact ⟨0, int_congr0 (by simp), by omega, h0, B0.out, G0.out⟩
  case round =>
    obtain ⟨k, rfl, hk, hJk, hbk, hgk⟩ := hrel
    by_cases hlt : k < m
    · obtain ⟨j, hj⟩ : ∃ j, m = k + j + 1 := ⟨m - k - 1, by omega⟩
      obtain ⟨p, hp⟩ : ∃ p, cs[j]? = some p := ⟨_, List.getElem?_eq_getElem (by omega)⟩
      have e1 : (m : Int) - 1 - (k : Int) = (j : Int) := by omega
      rw [e1]
      have ht := bkL_take hp (by omega : cs.length = k + j + 1)
      have hpre : (bkL cs).take k ++ [(j, p)] <+: bkL cs := by rw [← ht]; exact List.take_prefix _ _
      obtain ⟨fn, tmps, assign, body, hy, hR⟩ := hY ((bkL cs).take k) (j, p) wr hJk hpre
      obtain ⟨q0, q1⟩ := hcs j p hp
      have x0 : wr.cell? ⟨g, j * 2, none⟩ = some (f p).1 := by exact (cell8 hgk _).trans q0
      have x1 : wr.cell? ⟨g, j * 2 + 1, none⟩ = some (f p).2 := by exact (cell8 hgk _).trans q1
      have ib := index_rec g 0 j m cap (by omega) wr
      rw [Nat.zero_add] at ib
      have HJM := hide hj
      have hj4 : j < 4194304 := by omega
      have wm2 : IntKind.i64.wrap ((j : Int) - 1) = (j : Int) - 1 := by rw [IntKind.wrap_i64]; omega
      have cb := hbk.cell
      have HT := hide ht
      have HBK := hide hbk
      have HGK := hide hgk
      have HPRE := hide hpre
      simp only [encB] at hy hR
      clear hY hJk hbk hgk ht hpre q0 q1 hcs hj e1 hp
      gi_wp2
      refine hR.mono ?_
      rintro e W3 (⟨rfl, hJ3, hK3⟩ | ⟨rfl, hJx3, hK3⟩)
      · have HJ3 := hide hJ3
        have HK3 := hide hK3
        clear hJ3 hK3 hR hy x0 x1 ib cb
        gi_wp2
        go_roundw
        case rel =>
          have hj := HJM.out
          exact ⟨k + 1, int_congr0 (by omega), by omega, by rw [HT.out]; exact HJ3.out, HK3.out.2 _ _ HBK.out (.inl hBs), HK3.out.2 _ _ HGK.out (.inl hg)⟩
        case measure => simp [intOf]
      · have HJ3 := hide hJx3
        clear hJx3 hR hy x0 x1 ib cb hK3
        gi_wp2
        refine bodyPost_ret (results_none rfl _ _ _) rfl ?_
        exact ⟨⟨_, rfl⟩, .inr ⟨_, HPRE.out, HJ3.out⟩⟩
    · obtain rfl : k = m := by omega
      have HJ := hide hJk
      have e1 : (k : Int) - 1 - (k : Int) = -1 := by omega
      rw [e1]
      clear hJk hY hbk hgk e1
      gi_wp2
      go_end0
      refine ⟨⟨_, rfl⟩, .inl ?_⟩
      have h9 := HJ.out
      rw [List.take_of_length_le (by rw [bkL_len]; omega)] at h9
      exact h9
theorem backward_in (F : Fence) (n : Nat) (hf : F.fn 42) (hro : F.round = none) (a : Option Addr) (m cap : Nat) (w : World) :
    CallsIn F n Try.prog 42 #[.slice a m cap] w fun e w' => e = .returned (.func (.func 64) #[] #[.pointer (some ⟨w.heap.size, 0, none⟩)]) ∧ w' = w.alloc (.cells #[.slice a m cap] 38) := by
  refine callsIn_of_wp Try.func42 rfl hf ?_ hro
  simp only [Try.ntmps42, List.size_toArray, List.length_cons, List.length_nil, Nat.reduceAdd, Nat.reduceSub, Array.replicate_succ, Array.replicate_zero, List.push_toArray, List.append_toArray, List.nil_append, List.cons_append]
  gi_wp2
  go_ret
  exact ⟨rfl, rfl⟩
end Go.Proofs.Ytgfgihpkbbjkfaa
namespace Go.Proofs.Ytgfgihpkbbjkfaa
open Go.RowKit Go.Shelf
set_option linter.unusedVariables false
set_option maxRecDepth 100000

theorem own_old {W : World} {R xn : Nat} {old : List Nat} (hO : OwnB W R (recB xn old)) (hold : ∀ y ∈ old, y < 256) : Sl W (some ⟨R, 24, none⟩) old :=
  .inr ⟨R, 24, rfl, hO.lt, fun i y hy => ⟨hO.cell (24 + i) y (by
    unfold recB
    rw [List.getElem?_append_right (by rw [recH_len]; omega), recH_len, show 24 + i - 24 = i by omega, List.getElem?_append_left (List.getElem?_eq_some_iff.1 hy).1]
    exact hy), hold y (List.mem_of_getElem? hy)⟩⟩
theorem Dv.of_like {w w' : World} {b m : Nat} {L L' : Lay} {σ s : St} (h : Dv w b L σ) (hd : DevL w' b L' s) (hl : LikeG σ s m) (hN : L'.N ≤ L.N + m) (hlt : σ.ops + m < 1400000000000) : Dv w' b L' s := by
  have h1 := h.num
  have h2 := hl.ops
  have h3 := hl.cnt
  have h4 := h.cn
  refine ⟨hd, hl.ok, hl.off.trans h.on, by omega, ⟨by rw [hl.arms]; exact h.few.one, ?_⟩, ?_⟩
  · have := h.few.cnt
    rw [h3]
    split
    · omega
    · omega
  · rw [h3]
    split <;> omega
/-- The operations that put the last k records back. -/
def rolB (rs : List (Nat × List Nat)) (k : Nat) : List (St → St) := (rs.reverse.take k).flatMap (fun r => bckF r.1 r.2)
theorem rolB_zero (rs : List (Nat × List Nat)) : rolB rs 0 = [] := rfl
theorem rolB_succ {rs : List (Nat × List Nat)} {k j : Nat} {r : Nat × List Nat} (hx : rs[j]? = some r) (hj : rs.length = k + j + 1) : rolB rs (k + 1) = rolB rs k ++ bckF r.1 r.2 := by
  have e : rs.reverse[k]? = some r := by
    rw [List.getElem?_reverse (by omega), show rs.length - 1 - k = j by omega, hx]
  unfold rolB
  rw [List.take_add_one, e, List.flatMap_append]
  simp
theorem linesOf_few {at_ n : Nat} (h : at_ + n ≤ 4194304) : (linesOf at_ n).length ≤ n := by
  rw [linesOf_eq at_ n h]
  split
  · simp
  · simp
    omega
theorem bck_le {xn : Nat} {old : List Nat} (h : xn + old.length ≤ 4194304) : (bckF xn old).length ≤ 2 * (recB xn old).length := by
  have h1 := linesOf_few h
  have h2 := wordsOf_few h
  have h3 := recB_len xn old
  unfold bckF
  rw [List.length_append, wds_len, fls_len]
  omega
theorem RecsAt.total {a z N : Nat} {B : List Nat} : ∀ (rs : List (Nat × List Nat)) (at_ : Nat), at_ ≤ a + z → RecsAt a z N B at_ rs → at_ + recsLen rs ≤ a + z
  | [], at_, h0, _ => by simpa [recsLen] using h0
  | r :: t, at_, h0, h => by
    have k := RecsAt.total t (at_ + (recB r.1 r.2).length) h.2.2.2.2.1 h.2.2.2.2.2
    have e : recsLen (r :: t) = (recB r.1 r.2).length + recsLen t := by simp [recsLen]
    omega
/-- A record that may be put back. -/
def Bk1 (N : Nat) (r : Nat × List Nat) : Prop := 1 ≤ r.2.length ∧ r.1 + r.2.length ≤ 64 * N ∧ ∀ y ∈ r.2, y < 256
theorem RecsAt.each {a z N : Nat} {B : List Nat} (haz : a + z ≤ 64 * N) (ha : 64 ≤ a) (hB : ∀ y ∈ B, y < 256) : ∀ (rs : List (Nat × List Nat)) (at_ : Nat), RecsAt a z N B at_ rs → ∀ r ∈ rs, Bk1 N r
  | [], at_, _ => fun r hr => by simp at hr
  | q :: t, at_, h => fun r hr => by
    rcases List.mem_cons.1 hr with rfl | hr
    · obtain ⟨h1, h2, h3, h4, h5, _⟩ := h
      obtain ⟨f1, f2, f3, _⟩ := fine_of haz ha h4
      refine ⟨h2, by simp only at f3; omega, fun y hy => ?_⟩
      have h6 : y ∈ recB r.1 r.2 := by unfold recB; simp [hy]
      unfold RecAt at h1
      rw [← h1] at h6
      exact hB y (List.mem_of_mem_drop (List.mem_of_mem_take h6))
    · exact RecsAt.each haz ha hB t _ h.2.2.2.2.2 r hr
theorem rolB_good {N : Nat} (hN : N ≤ 65536) {rs : List (Nat × List Nat)} (h : ∀ r ∈ rs, Bk1 N r) (k : Nat) : ∀ f ∈ rolB rs k, GoodF N f := by
  intro f hf
  obtain ⟨r, hr, hf⟩ := List.mem_flatMap.1 hf
  obtain ⟨h1, h2, h3⟩ := h r (List.mem_reverse.1 (List.mem_of_mem_take hr))
  exact bck_good h3 h2 hN f hf
theorem flat_le {N : Nat} (hN : N ≤ 65536) : ∀ (rs : List (Nat × List Nat)), (∀ r ∈ rs, Bk1 N r) → (rs.flatMap (fun r => bckF r.1 r.2)).length ≤ 2 * recsLen rs
  | [], _ => by simp
  | r :: t, h => by
    have k := flat_le hN t (fun q hq => h q (List.mem_cons_of_mem _ hq))
    obtain ⟨h1, h2, h3⟩ := h r List.mem_cons_self
    have h4 := bck_le (xn := r.1) (old := r.2) (by omega)
    have e : recsLen (r :: t) = (recB r.1 r.2).length + recsLen t := by simp [recsLen]
    rw [List.flatMap_cons, List.length_append, e]
    omega
theorem recsLen_rev : ∀ (rs : List (Nat × List Nat)), recsLen rs.reverse = recsLen rs
  | [] => rfl
  | r :: t => by
    rw [List.reverse_cons, recsLen_snoc, recsLen_rev t]
    have e : recsLen (r :: t) = (recB r.1 r.2).length + recsLen t := by simp [recsLen]
    omega
theorem rolB_few {N : Nat} (hN : N ≤ 65536) {rs : List (Nat × List Nat)} (h : ∀ r ∈ rs, Bk1 N r) (k : Nat) : (rolB rs k).length ≤ 2 * recsLen rs := by
  have h1 := flat_le hN rs.reverse (fun r hr => h r (List.mem_reverse.1 hr))
  rw [recsLen_rev] at h1
  have e : rs.reverse.flatMap (fun r => bckF r.1 r.2) = rolB rs k ++ (rs.reverse.drop k).flatMap (fun r => bckF r.1 r.2) := by
    unfold rolB
    rw [← List.flatMap_append, List.take_append_drop]
  rw [e, List.length_append] at h1
  omega
/-- The operations of a Rollback. -/
def rolF (a : Nat) (rs : List (Nat × List Nat)) : List (St → St) := rolB rs rs.length ++ ([fnA] ++ pubF 0 a)
theorem rolB_all (rs : List (Nat × List Nat)) : rolB rs rs.length = rs.reverse.flatMap (fun r => bckF r.1 r.2) := by
  unfold rolB
  rw [List.take_of_length_le (by simp)]
theorem results_two {P : Program} {fn : Func} {p q : Tmp} {ty uy : TypeId} (h : fn.results = #[.cell p ty, .cell q uy]) (tmps : Array Value) (w : World) (g k : Nat) (t u : TypeId) (v x : Value)
    (hp : tmps.getD p undef = .pointer (some ⟨g, 0, none⟩)) (hq : tmps.getD q undef = .pointer (some ⟨k, 0, none⟩)) (hg : Boxed w g t v) (hk : Boxed w k u x)
    (h1 : ∀ w' : World, w'.cell? ⟨g, 0, none⟩ = some v → (loadVar ty ⟨g, 0, none⟩).run P w' = .ok v w') (h2 : ∀ w' : World, w'.cell? ⟨k, 0, none⟩ = some x → (loadVar uy ⟨k, 0, none⟩).run P w' = .ok x w') :
    (results fn tmps).run P w = .ok (.tuple #[v, x]) w := by
  have hp' : tmps[p]?.getD undef = .pointer (some ⟨g, 0, none⟩) := by simpa using hp
  have hq' : tmps[q]?.getD undef = .pointer (some ⟨k, 0, none⟩) := by simpa using hq
  have e1 := h1 w hg.cell
  have e2 := h2 w hk.cell
  simp [results, h, hp', hq', asAddr, e1, e2]
end Go.Proofs.Ytgfgihpkbbjkfaa
