/- The road of TallyParts: of every text and list of places (of a bulk of at most 1048576) it returns true, and writes nothing that was there. -/
import Derived.Test.YtojbclifafmllaaTRPt
import Derived.Test.YtojbclifafmllaaTSpI
import Derived.Test.YtojbclifafmllaaTSs2
import Derived.Test.YtojbclifafmllaaTWk
import Derived.Maps.AppendAt
namespace Go.Proofs.Ytojbclifafmllaa
open Go.RowKit
set_option linter.unusedVariables false

theorem SlT.keep {W W' : World} {a : Option Addr} {xs : List (Int × Int × Int × ByteArray × ByteArray)} (h : SlT W a xs) (hk : ∀ b off, a = some ⟨b, off, none⟩ → b < W.heap.size → W'.heap[b]? = W.heap[b]?) : SlT W' a xs := by
  rcases h with h | ⟨b, off, rfl, hb, hc⟩
  · exact .inl h
  · have e := hk b off rfl hb
    refine .inr ⟨b, off, rfl, ?_, fun i x hx => ?_⟩
    · rw [Array.getElem?_eq_getElem hb] at e
      exact (Array.getElem?_eq_some_iff.1 e).1
    · have hcell : ∀ o, W'.cell? ⟨b, o, none⟩ = W.cell? ⟨b, o, none⟩ := fun o => by unfold World.cell?; simp only [e]
      simp only [hcell]
      exact hc i x hx
theorem row_exact {W : World} {base g N : Nat} {xs : List (Int × Int × Int × ByteArray × ByteArray)} (h : W.ownsRow base 24 5 (.slice (some ⟨g, 0, none⟩) N N) N (tCs xs)) : W.heap[g]? = some (.cells (tCs xs).toArray 24 (0, 0)) := by
  rcases h.2 with ⟨h1, _⟩ | ⟨g', cap', cur, hv, _, hg, hnc, _, hs, hc⟩
  · cases h1
  · cases hv
    rw [List.take_of_length_le (by rw [Array.length_toList, hs]; exact Nat.le_refl _)] at hc
    rw [← hc]
    exact hg
/-- What both answer. -/
theorem parts_both (s : ByteArray) (zs : List Int) (hs : s.size ≤ 1048576) (hl : zs.length ≤ 1048576) : ∃ (E : Int) (xs : List (Int × Int × Int × ByteArray × ByteArray)), xs.length ≤ 1048577 ∧
    (∀ a cap w, SlI w a zs → Calls Try.prog 12 #[.string s, .slice a zs.length cap] w fun e w' => ∃ v, e = .returned (.tuple #[v, .int .i64 E]) ∧ w'.ownsRow w.heap.size 24 5 v xs.length (tCs xs) ∧ Below w.heap.size w w') ∧
    (∀ a cap w, SlI w a zs → Calls Try.prog 14 #[.string s, .slice a zs.length cap] w fun e w' => ∃ v, e = .returned (.tuple #[v, .int .i64 E]) ∧ w'.ownsRow w.heap.size 24 5 v xs.length (tCs xs) ∧ (v = .slice none 0 0 ∨ ∃ g, v = .slice (some ⟨g, 0, none⟩) xs.length xs.length) ∧ Below w.heap.size w w') := by
  by_cases hr : RiseI s.size 0 zs
  · obtain ⟨ps, rfl, hp⟩ := rise_of hr
    rw [List.length_map] at hl ⊢
    have hpl : ((pieces s 0 ps).map ofT).length = ps.length + 1 := by rw [List.length_map, pieces_len]
    refine ⟨0, (pieces s 0 ps).map ofT, by omega, fun a cap w h => ?_, fun a cap w h => ?_⟩
    · refine (rparts_any s a cap ps w h hp hs hl).mono ?_
      rintro e w' ⟨v, rfl, h1, h2⟩
      exact ⟨v, rfl, by rw [hpl]; exact h1, h2⟩
    · refine (parts_any s a cap ps w h hp hs hl).mono ?_
      rintro e w' ⟨g, rfl, h1, h2⟩
      exact ⟨_, rfl, by rw [hpl]; exact h1, .inr ⟨g, by rw [hpl]⟩, h2⟩
  · refine ⟨2, [], by simp, fun a cap w h => ?_, fun a cap w h => ?_⟩
    · refine (rparts_bad s a cap zs w h hr hs hl).mono ?_
      rintro e w' ⟨rfl, h2⟩
      exact ⟨_, rfl, World.ownsRow_nil _ _ _ _, h2⟩
    · refine (parts_bad s a cap zs w h hr hs hl).mono ?_
      rintro e w' ⟨rfl, h2⟩
      exact ⟨_, rfl, World.ownsRow_nil _ _ _ _, .inl rfl, h2⟩

namespace tallyParts
set_option maxRecDepth 100000 in
set_option maxHeartbeats 4000000 in
theorem walk (s : ByteArray) (a : Option Addr) (cap : Nat) (zs : List Int) (w : World) (hz : SlI w a zs) (hs : s.size ≤ 1048576) (hl : zs.length ≤ 1048576) :
    Calls Try.prog 4 #[.string s, .slice a zs.length cap] w fun e w' => e = .returned (.bool true) ∧ Below w.heap.size w w' := by
  obtain ⟨i0, hi, hz0, hz1, hz2⟩ := info_parts Try.infoT
  obtain ⟨E, xs, hxl, kr, kp⟩ := parts_both s zs hs hl
  have ksp := fun w' h => spareInts_any a cap zs w' h hl
  have kk := fun g w' h1 h2 => keptInts_yes g a cap zs w' h1 h2 hl
  have keq := fun a' b' c d w' h1 h2 => eq_yes a' b' c d xs xs.length rfl w' h1 h2 (by omega)
  obtain ⟨N, hN⟩ : ∃ N, N = xs.length := ⟨_, rfl⟩
  obtain ⟨n, hn⟩ : ∃ n, n = zs.length := ⟨_, rfl⟩
  rw [← hN] at hxl keq
  simp only [← hN] at kr kp
  simp only [← hn] at kr kp ksp kk
  rw [← hn]
  have HN := hide hN
  have HNZ := hide hn
  have KR := hide kr
  have KP1 := hide kp
  have KP2 := hide kp
  have KSP := hide ksp
  have KK := hide kk
  have KE1 := hide keq
  have KE2 := hide keq
  have KE3 := hide keq
  have HZ := hide hz
  have hE : (E != E) = false := by simp
  have hnl : n ≤ 1048576 := by omega
  clear kr kp ksp kk keq hz hN hn hs hl
  go_enter Try.func4, Try.ntmps4
  go_upto_region 7 with (first | (go_at_call 12; refine (KR.out _ _ _ HZ.out).mono ?_; clear KR; rintro e1 w1 ⟨v1, rfl, hO1, hB1⟩; obtain ⟨aW, cW, rfl, tW⟩ := slt_own hO1 HN.out.symm; replace tW := hide tW; replace hO1 := hide hO1) | (go_at_call 13; refine (KSP.out _ (HZ.out.below hB1)).mono ?_; clear KSP; rintro e2 w2 ⟨rfl, hI2, hB2⟩; replace hI2 := hide hI2) | (go_at_call 14; refine (KP1.out _ _ _ (hI2.out.sli (by have := HNZ.out; omega))).mono ?_; clear KP1; rintro e3 w3 ⟨v3, rfl, hO3, hs3, hB3⟩; obtain ⟨aA, cA, rfl, tA⟩ := slt_own hO3 HN.out.symm; replace tA := hide tA; replace hO3 := hide hO3; replace hs3 := hide hs3) | (go_at_call 14; refine (KP2.out _ _ _ ((hI2.out.below hB3).sli (by have := HNZ.out; omega))).mono ?_; clear KP2; rintro e4 w4 ⟨v4, rfl, hO4, hs4, hB4⟩; obtain ⟨aB, cB, rfl, tB⟩ := slt_own hO4 HN.out.symm; replace tB := hide tB; replace hO4 := hide hO4; clear hs4) | (go_at_call 15; refine (KE1.out _ _ _ _ _ (tA.out.below hB4) (tW.out.below (bseq (bseq hB2 hB3) hB4))).mono ?_; clear KE1; rintro e5 w5 ⟨rfl, hB5⟩) | (go_at_call 15; refine (KE2.out _ _ _ _ _ (tB.out.below hB5) (tW.out.below (bseq (bseq (bseq hB2 hB3) hB4) hB5))).mono ?_; clear KE2; rintro e6 w6 ⟨rfl, hB6⟩) | (go_at_call 16; refine (KK.out _ _ (hI2.out.below (bseq (bseq (bseq hB3 hB4) hB5) hB6)) (HZ.out.below (bseq (bseq (bseq (bseq (bseq hB1 hB2) hB3) hB4) hB5) hB6))).mono ?_; clear KK; rintro e7 w7 ⟨rfl, hB7⟩))
  have hW7 : Below w.heap.size w w7 := bseq (bseq (bseq (bseq (bseq (bseq hB1 hB2) hB3) hB4) hB5) hB6) hB7
  have hB47 : Below w4.heap.size w4 w7 := bseq (bseq hB5 hB6) hB7
  have hform : (aA = none ∧ N = 0 ∧ cA = 0) ∨ ∃ g, aA = some ⟨g, 0, none⟩ ∧ cA = N := by
    rcases hs3.out with h | ⟨g, h⟩
    · cases h; exact .inl ⟨rfl, rfl, rfl⟩
    · cases h; exact .inr ⟨g, rfl, rfl⟩
  have hga : ∀ g, aA = some ⟨g, 0, none⟩ → w2.heap.size ≤ g ∧ g < w3.heap.size ∧ w7.heap[g]? = some (.cells (tCs xs).toArray 24 (0, 0)) := fun g hg => by
    subst hg
    have hc : cA = N := by
      rcases hform with ⟨h, _⟩ | ⟨g', h, h2⟩
      · cases h
      · exact h2
    have h1 := hO3.out
    rw [hc] at h1
    exact ⟨(h1.lt g rfl).1, (h1.lt g rfl).2, row_keep (row_keep (row_exact h1) hB4) hB47⟩
  have hsW : ∀ b off, aW = some ⟨b, off, none⟩ → b < w2.heap.size := fun b off h => by
    subst h
    have := (hO1.out.lt b rfl).2
    have := hB2.size
    omega
  have hsB : ∀ b off, aB = some ⟨b, off, none⟩ → w3.heap.size ≤ b := fun b off h => by
    subst h
    exact (hO4.out.lt b rfl).1
  have tW7 : SlT w7 aW xs := tW.out.below (bseq (bseq (bseq hB2 hB3) hB4) hB47)
  have tB7 : SlT w7 aB xs := tB.out.below hB47
  have hz2w : w.heap.size ≤ w2.heap.size := by have := hB1.size; have := hB2.size; omega
  generalize w2.heap.size = M2 at *
  generalize w3.heap.size = M3 at *
  have HFORM := hide hform
  have HGA := hide hga
  have HSW := hide hsW
  have HSB := hide hsB
  have TW := hide tW7
  have TB := hide tB7
  have HW7 := hide hW7
  clear hform hga hsW hsB tW7 tB7 hW7 hB47 hO1 hO3 hO4 hs3 tW tA tB hI2 HZ
  generalize w7 = X at *
  clear hB1 hB2 hB3 hB4 hB5 hB6 hB7
  go_wp2_with (fail)
  go_loopw [12] (fun i wr => ∃ (k : Nat) (ys : List (Int × Int × Int × ByteArray × ByteArray)), i = .int .i64 k ∧ k ≤ N ∧ ys.length = N ∧ (∀ g, aA = some ⟨g, 0, none⟩ → wr.heap[g]? = some (.cells (tCs ys).toArray 24 (0, 0))) ∧ (∀ j, (∀ g, aA = some ⟨g, 0, none⟩ → j ≠ g) → wr.heap[j]? = X.heap[j]?) ∧ wr.heap.size = X.heap.size ∧ Below w.heap.size w wr) (fun i _ => N - (intOf i).toNat)
  case atStart => exact ⟨0, xs, rfl, by omega, HN.out.symm, fun g hg => (HGA.out g hg).2.2, fun j _ => rfl, rfl, HW7.out⟩
  case round =>
    obtain ⟨k, ys, rfl, hk, hyl, hrow, hoth, hsz, hB⟩ := hrel
    by_cases hlt : k < N
    · have hltI : (k : Int) < (N : Int) := by omega
      obtain ⟨g, hg, hc⟩ : ∃ g, aA = some ⟨g, 0, none⟩ ∧ cA = N := by
        rcases HFORM.out with ⟨_, h, _⟩ | h
        · omega
        · exact h
      have hgw : w.heap.size ≤ g := by have := (HGA.out g hg).1; omega
      have hrg := hrow g hg
      obtain ⟨⟨a0, a1, a2, a3, a4, d0, d1, d2, d3, d4⟩, ⟨f0, f1, f2, f3, f4⟩, R, O, BB⟩ := chainAt hrg (i := k) (by omega) ((-1 - (k : Int)), 0, 0, ⟨#[]⟩, ⟨#[]⟩)
      dsimp only at d0 d1 d2 d3 d4 R O BB
      have hw1 : IntKind.i64.wrap (-1 - (k : Int)) = -1 - (k : Int) := by rw [IntKind.wrap_i64]; omega
      have HF := hide (And.intro R (And.intro O (BB _ _ hgw hB)))
      have HOTH := hide hoth
      have HSZ := hide hsz
      have HYL := hide hyl
      clear R O BB hB hrow hoth hrg hyl hsz HFORM HGA HSW HSB TW TB HW7 KE3
      subst hg
      subst hc
      go_wp2
      go_roundw
      case rel => exact ⟨k + 1, ys.set k ((-1 - (k : Int)), 0, 0, ⟨#[]⟩, ⟨#[]⟩), by go_num, by omega, by rw [List.length_set]; exact HYL.out, fun g' e => by cases e; exact HF.out.1, fun j hj => (HF.out.2.1 j (hj g rfl)).trans (HOTH.out j hj), by simp [HSZ.out], HF.out.2.2⟩
      case measure => simp [intOf]; omega
    · have hkI : (N : Int) ≤ (k : Int) := by omega
      have hOA : wr.ownsRow w.heap.size 24 5 (.slice aA N cA) N (tCs ys) := by
        refine ⟨by rw [tCs_len, hyl], ?_⟩
        rcases HFORM.out with ⟨h1, h2, h3⟩ | ⟨g, h1, h2⟩
        · exact .inl ⟨by rw [h1, h2, h3], h2⟩
        · have h3 := (HGA.out g h1).1
          exact .inr ⟨g, N, (tCs ys).toArray, by rw [h1, h2], by omega, hrow g h1, Nat.le_refl _, by unfold maxLen; omega, by simp [tCs_len, hyl], by rw [List.take_of_length_le (by simp [tCs_len, hyl])]⟩
      have hnb : ∀ j, (∀ g, aA = some ⟨g, 0, none⟩ → j ≠ g) → (Value.slice aA N cA).ownBlock ≠ some j := fun j hj e => by
        rcases HFORM.out with ⟨h1, _⟩ | ⟨g, h1, _⟩
        · rw [h1] at e; cases e
        · rw [h1] at e; cases e; exact hj _ h1 rfl
      have HOA := hide hOA
      have HNB := hide hnb
      have HOTH := hide hoth
      have HSZ := hide hsz
      have HBw := hide hB
      clear hOA hnb hoth hsz hB hrow hyl hlt hk
      go_wp2_with (fail)
      have hd : decide (k < N) = false := decide_eq_false (by omega)
      rw [hd]
      clear hkI hd
      go_loopw [8, 13] (fun v q w2 => ∃ (k : Nat) (us : List Value), q = .int .i64 k ∧ k ≤ 20 ∧ w2.ownsRow w.heap.size 24 5 v (N + k) us ∧ (∀ j, j < X.heap.size → (∀ g, aA = some ⟨g, 0, none⟩ → j ≠ g) → w2.heap[j]? = X.heap[j]? ∧ v.ownBlock ≠ some j) ∧ X.heap.size ≤ w2.heap.size ∧ Below w.heap.size w w2) (fun _ q _ => 20 - (intOf q).toNat)
      case atStart => exact ⟨0, tCs ys, rfl, by omega, HOA.out, fun j h1 h2 => ⟨HOTH.out j h2, HNB.out j h2⟩, by have := HSZ.out; omega, HBw.out⟩
      case round =>
        clear HOA HNB HOTH HSZ HBw
        obtain ⟨k, us, rfl, hk, hO, hoth, hsz, hB⟩ := hrel
        by_cases hlt : k < 20
        · have hltI : (k : Int) < 20 := by omega
          have HO := hide hO
          have HOTH := hide hoth
          have HB := hide hB
          have hsw := hB.size
          clear hO hoth hB HFORM HGA HSW HSB TW TB HW7 KE3
          go_wp2_with (at_builtin; refine wpList_append_own_at _ rfl _ _ 31 rfl w.heap.size 24 i0 (.agg #[.int .i64 0, .int .i64 0, .int .i64 0, .string ⟨#[]⟩, .string ⟨#[]⟩]) 5 56 Try.underlying31 hi hz0 hz1 hz2 rfl (by decide) _ (N + k) us rfl (HO.out.alloc _) ⟨wr.heap.size, 0, none⟩ 1 1 (tC (-100, 0, 0, ⟨#[]⟩, ⟨#[]⟩)) rfl rfl (row_cells wr (-100, 0, 0, ⟨#[]⟩, ⟨#[]⟩)) (tC_one _) (by unfold maxLen; omega) (by omega) (by simp only [World.size_alloc]; omega) ?_; intro v' w4 hown' hgrow' _ hblk)
          go_roundw
          case rel =>
            have hBa := HB.out.alloc HB.out.size (.cells #[.int .i64 (-100), .int .i64 0, .int .i64 0, .string ⟨#[]⟩, .string ⟨#[]⟩] 24)
            refine ⟨k + 1, _, by go_num, by omega, hown', fun j h1 h2 => ?_, ?_, hBa.grown hgrow' hBa.size (fun j e => (HO.out.lt j e).1)⟩
            · obtain ⟨e1, e2⟩ := HOTH.out j h1 h2
              refine ⟨?_, ?_⟩
              · rw [hgrow'.block j (by simp only [World.size_alloc]; omega) (fun e => e2 e.symm), Below.heap_alloc _ _ _ (by omega)]
                exact e1
              · rcases hblk with h | h
                · rw [h]; exact e2
                · rw [h]
                  intro e
                  simp only [World.size_alloc, Option.some.injEq] at e
                  omega
            · have := hgrow'.size
              simp only [World.size_alloc] at this
              omega
          case measure => simp [intOf]; omega
        · have hltI : (20 : Int) ≤ (k : Int) := by omega
          have hk20 : k = 20 := by omega
          have tB8 : SlT wr aB xs := TB.out.keep (fun b off h hb => (hoth b hb (fun g hg e => by have := HSB.out b off h; have := (HGA.out g hg).2.1; omega)).1)
          have tW8 : SlT wr aW xs := TW.out.keep (fun b off h hb => (hoth b hb (fun g hg e => by have := HSW.out b off h; have := (HGA.out g hg).1; omega)).1)
          obtain ⟨aV, cV, hv⟩ : ∃ aV cV, u8 = Value.slice aV (N + k) cV := by
            rcases hO.2 with ⟨h1, h2⟩ | ⟨g, c', cur, h1, _⟩
            · exact ⟨none, 0, by rw [h1, h2]⟩
            · exact ⟨_, c', h1⟩
          subst hv
          have hq1 : (((N + k : Nat) : Int) == (N : Int) + 20) = true := by simp; omega
          have hq2 : ((N : Int) + (k : Int) == (N : Int) + 20) = true := by simp; omega
          have hw2 : IntKind.i64.wrap ((N : Int) + 20) = (N : Int) + 20 := by rw [IntKind.wrap_i64]; omega
          have HTB := hide tB8
          have HTW := hide tW8
          have HB := hide hB
          clear tB8 tW8 hB hO hoth hk20 hlt HFORM HGA HSW HSB TW TB HW7
          go_wp2_with (first | (go_at_call 15; refine (KE3.out _ _ _ _ _ HTB.out HTW.out).mono ?_; clear KE3; rintro e5 w5 ⟨rfl, hB5⟩) | (go_at_call 11; refine (works_any _).mono ?_; rintro e6 w6 ⟨rfl, hB6⟩))
          go_ret
          exact ⟨rfl, bseq (bseq HB.out hB5) hB6⟩
end tallyParts
end Go.Proofs.Ytojbclifafmllaa
