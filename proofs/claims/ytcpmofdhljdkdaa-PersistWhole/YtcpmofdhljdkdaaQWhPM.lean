/- PersistWhole answers true for all images, places, words, and wherever the power goes: the word is what it was, or the new one, and all others are as they were. -/
import Derived.Test.YtcpmofdhljdkdaaQFl
import Derived.Test.YtcpmofdhljdkdaaPFlG
import Derived.Test.YtcpmofdhljdkdaaPOpG
import Derived.Test.YtcpmofdhljdkdaaPFnW
import Derived.Test.YtcpmofdhljdkdaaQPub
import Derived.Test.YtcpmofdhljdkdaaPStG
import Derived.Test.YtcpmofdhljdkdaaPSto
import Derived.Test.YtcpmofdhljdkdaaQBy2
import Derived.Test.YtcpmofdhljdkdaaPSt
import Derived.Test.YtcpmofdhljdkdaaPNew
import Derived.Test.YtcpmofdhljdkdaaPut
import Derived.Test.YtcpmofdhljdkdaaPMap
import Derived.Test.YtcpmofdhljdkdaaBase
import Derived.Laws.BitsAllLaws
import Derived.Test.YtcpmofdhljdkdaaEq
import Derived.Maps.AppendAt
import Derived.Laws.AppendOwnNone
import Derived.Test.YtcpmofdhljdkdaaPDrp
import Derived.Deep.Cut
import Derived.Deep.RegionWith
import Derived.BigRegion
import Derived.Deep.QuietTactic
import Derived.BigQuiet
import Derived.ProofKit
import Derived.ChangeOld
import Derived.SizedLaws
import Derived.JoinedCond
namespace Go.Proofs.Ytcpmofdhljdkdaa
open Go.RowKit Go.Shelf
set_option linter.unusedVariables false
attribute [local go_sem] Oper.semAt_some

def linesG (σ : St) (ls : List Nat) : St := ls.foldl (fun s i => tick (flA s i)) σ
theorem linesG_snoc (σ : St) (ls : List Nat) (i : Nat) : linesG σ (ls ++ [i]) = tick (flA (linesG σ ls) i) := by simp [linesG]
theorem linesG_like : ∀ (ls : List Nat) (σ : St), σ.Ok → σ.ops + ls.length ≤ 274877906944 → (linesG σ ls).Ok ∧ (linesG σ ls).n = σ.n ∧ (linesG σ ls).ops = σ.ops + ls.length ∧ (linesG σ ls).arms = σ.arms ∧ (linesG σ ls).off = σ.off ∧ (linesG σ ls).cnt = if σ.arms = [] then σ.cnt else σ.cnt + ls.length
  | [], σ, hok, _ => ⟨hok, rfl, rfl, rfl, rfl, by show σ.cnt = if σ.arms = [] then σ.cnt else σ.cnt + 0; split <;> rfl⟩
  | i :: ls, σ, hok, h => by
    rw [List.length_cons] at h
    obtain ⟨h1, h2, h3, h4, h5, h6⟩ := linesG_like ls (tick (flA σ i)) (tick_ok (flush_ok hok i (by omega))) (by show σ.ops + 1 + _ ≤ _; omega)
    refine ⟨h1, h2, h3.trans (by show σ.ops + 1 + _ = _; rw [List.length_cons]; omega), h4, h5, h6.trans ?_⟩
    show (if σ.arms = [] then (if σ.arms = [] then σ.cnt else σ.cnt + 1) else (if σ.arms = [] then σ.cnt else σ.cnt + 1) + ls.length) = _
    rw [List.length_cons]
    by_cases e : σ.arms = []
    · simp only [if_pos e]
    · simp only [if_neg e]; omega
/-- What the flushes leave, and what is answered. -/
def FlD (σ : St) (ls : List Nat) (c : Int) (σ' : St) : Prop :=
  (c = 0 ∧ σ' = linesG σ ls ∧ ∀ af kp, σ.arms = [(af, kp)] → ls ≠ [] → σ.cnt + ls.length < af) ∨
  (c = 5 ∧ ∃ pre no, pre ++ [no] <+: ls ∧ Opd (flA (linesG σ pre) no) 5 σ')
set_option maxRecDepth 100000 in
set_option maxHeartbeats 1000000 in
theorem qflushG_in {w : World} {b at_ n : Nat} {L : Lay} {σ : St} (h : DevL w b L σ) (hok : σ.Ok) (ho : σ.off = false) (hN : L.N ≤ σ.ops) (hfw : Few σ) (hcn : σ.cnt + 600000 ≤ 274877906944) (hlen : at_ + n ≤ 64 * σ.n) (hops : σ.ops + 600000 ≤ 274877906944) :
    CallsIn Fence.wide 3 Try.prog 34 #[.agg #[.pointer (some ⟨b, 0, none⟩), .int .i64 (at_ : Int), .int .i64 (n : Int)]] w fun e w' => ∃ c σ' L', e = .returned (.int .i64 c) ∧ FlD σ (linesOf at_ n) c σ' ∧ DevL w' b L' σ' ∧ (∀ k, Foot b L' σ' k → Foot b L σ k ∨ w.heap.size ≤ k) ∧ Gr (Foot b L σ) w w' ∧ L'.N ≤ L.N + (linesOf at_ n).length ∧ L'.KB = L.KB ∧ (c = 0 → SameL L L') := by
  have hnm := hok.max
  have hO := h.old_
  refine callsIn_of_wp_marks Try.func34 rfl trivial ?_ rfl
  simp only [Try.ntmps34, List.size_toArray, List.length_cons, List.length_nil, Nat.reduceAdd, Nat.reduceSub, Array.replicate_succ, Array.replicate_zero, List.push_toArray, List.append_toArray, List.nil_append, List.cons_append]
  gi_wp2_with (refine ⟨trivial, ?_⟩; gi_at_call 60; refine (lines_in _ _ trivial rfl (at_ : Int) (n : Int) _).mono ?_; rintro e w' ⟨rfl, rfl⟩)
  have hB0 : Below w.heap.size w ((((w.alloc (.cells #[.pointer (some ⟨b, 0, none⟩), .int .i64 (at_ : Int), .int .i64 (n : Int)] 81)).alloc (.cells #[.int .i64 0] 24)).alloc (.cells #[.int .i64 (at_ : Int)] 3)).alloc (.cells #[.int .i64 (n : Int)] 3)) := ((((Below.refl _ w).alloc (Nat.le_refl _) _).alloc (by simp) _).alloc (by simp; omega) _).alloc (by simp; omega) _
  have hsz : ((((w.alloc (.cells #[.pointer (some ⟨b, 0, none⟩), .int .i64 (at_ : Int), .int .i64 (n : Int)] 81)).alloc (.cells #[.int .i64 0] 24)).alloc (.cells #[.int .i64 (at_ : Int)] 3)).alloc (.cells #[.int .i64 (n : Int)] 3)).heap.size = w.heap.size + 4 := by simp
  have b3 : ((((w.alloc (.cells #[.pointer (some ⟨b, 0, none⟩), .int .i64 (at_ : Int), .int .i64 (n : Int)] 81)).alloc (.cells #[.int .i64 0] 24)).alloc (.cells #[.int .i64 (at_ : Int)] 3)).alloc (.cells #[.int .i64 (n : Int)] 3)).heap[w.heap.size]? = some (.cells #[.pointer (some ⟨b, 0, none⟩), .int .i64 (at_ : Int), .int .i64 (n : Int)] 81 (0, 0)) := by
    rw [Below.heap_alloc _ _ _ (by simp; omega), Below.heap_alloc _ _ _ (by simp; omega), Below.heap_alloc _ _ _ (by simp)]
    exact heap_alloc_new w _
  have b6 := ((Boxed.new (w.alloc (.cells #[.pointer (some ⟨b, 0, none⟩), .int .i64 (at_ : Int), .int .i64 (n : Int)] 81)) 24 (.int .i64 0)).alloc (.cells #[.int .i64 (at_ : Int)] 3)).alloc (.cells #[.int .i64 (n : Int)] 3)
  have b7 := (Boxed.new ((w.alloc (.cells #[.pointer (some ⟨b, 0, none⟩), .int .i64 (at_ : Int), .int .i64 (n : Int)] 81)).alloc (.cells #[.int .i64 0] 24)) 3 (.int .i64 (at_ : Int))).alloc (.cells #[.int .i64 (n : Int)] 3)
  have b8 := Boxed.new (((w.alloc (.cells #[.pointer (some ⟨b, 0, none⟩), .int .i64 (at_ : Int), .int .i64 (n : Int)] 81)).alloc (.cells #[.int .i64 0] 24)).alloc (.cells #[.int .i64 (at_ : Int)] 3)) 3 (.int .i64 (n : Int))
  simp only [World.size_alloc] at b6 b7 b8
  obtain ⟨W0, hW0⟩ : ∃ W0, ((((w.alloc (.cells #[.pointer (some ⟨b, 0, none⟩), .int .i64 (at_ : Int), .int .i64 (n : Int)] 81)).alloc (.cells #[.int .i64 0] 24)).alloc (.cells #[.int .i64 (at_ : Int)] 3)).alloc (.cells #[.int .i64 (n : Int)] 3)) = W0 := ⟨_, rfl⟩
  rw [hW0] at b3 b6 b7 b8 hB0 hsz ⊢
  clear hW0
  have hd0 := h.below hB0
  apply rangeX (gf := 72) (lb := #[.pointer (some ⟨w.heap.size + 1 + 1, 0, none⟩), .pointer (some ⟨w.heap.size + 1 + 1 + 1, 0, none⟩)]) (encs := encI) rfl (enters_of Try.func72 (by kernel_rfl) rfl)
    (lines_x HP (fun k => k = w.heap.size + 1 + 1 ∨ k = w.heap.size + 1 + 1 + 1) (w.heap.size + 1 + 1) (w.heap.size + 1 + 1 + 1) (at_ : Int) (n : Int) W0 (by omega) (by omega) b7.cell b8.cell (by omega) (by omega)) (Below.refl _ _) (fun k hk => by omega) (fun _ => rfl)
    (fun pre W' => (W'.heap[w.heap.size]? = some (.cells #[.pointer (some ⟨b, 0, none⟩), .int .i64 (at_ : Int), .int .i64 (n : Int)] 81 (0, 0)) ∧ (Boxed W' (w.heap.size + 1) 24 (.int .i64 0) ∧ (Boxed W' (w.heap.size + 1 + 1) 3 (.int .i64 (at_ : Int)) ∧ Boxed W' (w.heap.size + 1 + 1 + 1) 3 (.int .i64 (n : Int))))) ∧ (Gr (Foot b L σ) W0 W' ∧ ∃ L', DevL W' b L' (linesG σ (pre.map Int.toNat)) ∧ (SameL L L' ∧ L'.N ≤ L.N + pre.length ∧ (∀ k, Foot b L' (linesG σ (pre.map Int.toNat)) k → Foot b L σ k ∨ w.heap.size ≤ k) ∧ ∀ af kp, σ.arms = [(af, kp)] → pre ≠ [] → σ.cnt + pre.length < af)))
    (fun c pre W' => (c = .ret ∧ Boxed W' (w.heap.size + 1) 24 (.int .i64 5)) ∧ (Gr (Foot b L σ) w W' ∧ ∃ L' σ', DevL W' b L' σ' ∧ ((L'.KB = L.KB ∧ L'.N ≤ L.N + pre.length) ∧ (∃ pr no, pre.map Int.toNat = pr ++ [no] ∧ Opd (flA (linesG σ pr) no) 5 σ') ∧ ∀ k, Foot b L' σ' k → Foot b L σ k ∨ w.heap.size ≤ k)))
    (Stab.and (Stab.and (Stab.blk _ (by omega)) (Stab.and (Stab.box _ _ (by omega)) (Stab.and (Stab.box _ _ (by omega)) (Stab.box _ _ (by omega))))) (Stab.and (stab_gr (Nat.le_refl _)) (fun s W W' hJ hs => by obtain ⟨L', h1, h2, h3⟩ := hJ; exact ⟨L', stab_dev (σ := fun _ : Unit => linesG σ (s.map Int.toNat)) (hO.same h2) (by omega) () W W' h1 hs, h2, h3⟩)))
    (fun c => Stab.and (Stab.and (Stab.pure _) (Stab.box _ _ (by omega))) (Stab.and (stab_gr (by omega)) (fun s W W' hJ hs => by obtain ⟨L', σ', h1, h2⟩ := hJ; exact ⟨L', σ', dev_sub h1 (fun k hk => by rw [h2.1.1] at hk; have := hO.kb k hk; omega) hs, h2⟩)))
    ⟨⟨b3, b6, b7, b8⟩, Gr.refl _ _, L, hd0, SameL.refl L, by simp, fun k hk => .inl hk, fun _ _ _ h => absurd rfl h⟩
  case hassign =>
    intro l' x W' K hK
    simp only [encI]
    gi_wp2
    exact hK
  case hbody =>
    rintro l' pre x W ⟨⟨h3, h6, h7, h8⟩, hgW, L', hdW, hsame, hNL, hfoot, _⟩ hpx
    obtain ⟨no, rfl, hno, hpl⟩ := unit_told hlen hnm hpx
    obtain ⟨k1, k2, k3, k4, k5, k6⟩ := linesG_like (pre.map Int.toNat) σ hok (by rw [List.length_map]; omega)
    rw [List.length_map] at k3
    have hsn : linesG σ ((pre ++ [(no : Int)]).map Int.toNat) = tick (flA (linesG σ (pre.map Int.toNat)) no) := by rw [List.map_append, List.map_cons, List.map_nil, linesG_snoc]; rfl
    generalize hgk : linesG σ (pre.map Int.toNat) = σk at *
    have HGK := hide hgk
    clear hgk
    rw [List.length_map] at k6
    have HCT := hide k6
    have HAR := hide k4
    have hfk : Few σk := ⟨by rw [k4]; exact hfw.one, by rw [k6]; split <;> omega⟩
    have kf := pflush_gen hdW k1 (k5.trans ho) hfk (no * 64) (by omega) (by omega) (by omega)
    rw [show no * 64 / 64 = no by omega] at kf
    have e3 : ((no * 64 : Nat) : Int) = (no : Int) * 64 := by omega
    rw [e3] at kf
    have c3 := cell8 h3 0
    have noI : (no : Int) ≤ 65536 := by omega
    have hOL := hO.same hsame
    have n3 := blk_foot hdW hOL h3 (by omega) (by unfold HP; decide)
    have n6 := box_foot hdW hOL h6 (by omega) (by unfold HP; decide)
    have n7 := box_foot hdW hOL h7 (by omega) (by unfold HP; decide)
    have n8 := box_foot hdW hOL h8 (by omega) (by unfold HP; decide)
    have KF := hide kf
    have HD := hide hdW
    have HG := hide hgW
    have HF := hide hfoot
    have HS := hide hsame
    have H3 := hide h3
    have H6 := hide h6
    have H7 := hide h7
    have H8 := hide h8
    have HSN := hide hsn
    have HOL := hide hOL
    have HNL := hide hNL
    clear kf hdW hgW hfoot hsame h3 h6 h7 h8 hsn hpx k1 k2 k3 k4 k5 k6 hNL hOL hfk
    have N6 := hide n6
    rcases Classical.em (fires (flA σk no)) with hF | hF
    · have HF0 := hide hF
      clear hF
      gi_wp2_with (refine ⟨trivial, ?_⟩; gi_at_call 47; refine (inR (KF.out)).mono ?_; rintro e W1 ⟨c, σ2, L2, rfl, ho2, hd2, hf2, hg2, hN2, hk2, hs2⟩; obtain rfl := ho2.yes HF0.out; have y6 := hg2.box H6.out N6.out; have cy6 := y6.cell; have zy6 := y6.frozen; have Y6 := hide y6; have HO2 := hide ho2; have HD2 := hide hd2; have HF2 := hide hf2; have HG2 := hide hg2; have HN2 := hide hN2; have HK2 := hide hk2; clear ho2 hd2 hf2 hg2 hN2 hk2 hs2 y6)
      have hdW := HD.out
      have hOL := HOL.out
      have g1 := HG2.out
      have h2 := HN2.out
      have h3 := HNL.out
      have h4 := HG.out.size
      have hd5 : DevL (W1.setCell ⟨w.heap.size + 1, 0, none⟩ (.int .i64 5)) b L2 σ2 := HD2.out.keep (fun k hk => heap_set_ne W1 _ 0 k _ (fun e => by
        rcases HF2.out k hk with h5 | h5
        · exact N6.out (e ▸ h5)
        · omega))
      have g0 : Gr (Foot b L σ) w W := (Gr.of_below hB0).trans HG.out (fun i h => .inl h)
      refine ⟨(g1.kp (fun k o hk hf => ⟨fun hn => by rcases hn with e | e; exact n7 (e ▸ hf); exact n8 (e ▸ hf), ?_⟩)).trans (Kp.set _ (fun h => by omega) (by omega)), ⟨rfl, Y6.out.set _⟩, (g0.trans g1 HF.out).trans (Gr.set W1 _ 0 _ (X := fun k => k = w.heap.size + 1) rfl) (fun i h => .inr (by omega)), L2, σ2, hd5, ⟨HK2.out.trans HS.out.2.2.2.2, ?_⟩, ⟨pre.map Int.toNat, no, by simp, ?_⟩, fun k hk => ?_⟩
      · rcases foot_cases hdW hOL hf with h1 | ⟨o', h1, h2⟩
        · exact .inl (by omega)
        · rw [hk] at h1; cases h1; exact .inr h2
      · rw [List.length_append, List.length_singleton]; omega
      · rw [HGK.out]; exact HO2.out
      · rcases HF2.out k hk with h5 | h5
        · exact HF.out k h5
        · exact .inr (by omega)
    · have HF0 := hide hF
      clear hF
      gi_wp2_with (refine ⟨trivial, ?_⟩; gi_at_call 47; refine (inR (KF.out)).mono ?_; rintro e W1 ⟨c, σ2, L2, rfl, ho2, hd2, hf2, hg2, hN2, hk2, hs2⟩; obtain ⟨rfl, rfl⟩ := ho2.no HF0.out; have HS2 := hide (hs2 rfl); have HD2 := hide hd2; have HF2 := hide hf2; have HG2 := hide hg2; have HN2 := hide hN2; have HK2 := hide hk2; clear ho2 hd2 hf2 hg2 hN2 hk2 hs2)
      have hdW := HD.out
      have hOL := HOL.out
      have g1 := HG2.out
      have h2 := HN2.out
      have h3 := HNL.out
      have h4 := HG.out.size
      refine ⟨g1.kp (fun k o hk hf => ⟨fun hn => by rcases hn with e | e; exact n7 (e ▸ hf); exact n8 (e ▸ hf), ?_⟩), ⟨(g1.block (lt_of_heap H3.out) n3).trans H3.out, g1.box H6.out n6, g1.box H7.out n7, g1.box H8.out n8⟩, HG.out.trans g1 (fun i hi => ?_), L2, ?_, HS.out.trans HS2.out, ?_, fun k hk => ?_, fun af kp e _ => ?_⟩
      · rcases foot_cases hdW hOL hf with h1 | ⟨o', h1, h2⟩
        · exact .inl (by omega)
        · rw [hk] at h1; cases h1; exact .inr h2
      · rcases HF.out i hi with h5 | h5
        · exact .inl h5
        · have q3 : i ≠ w.heap.size := fun e => n3 (e ▸ hi)
          have q6 : i ≠ w.heap.size + 1 := fun e => n6 (e ▸ hi)
          have q7 : i ≠ w.heap.size + 1 + 1 := fun e => n7 (e ▸ hi)
          have q8 : i ≠ w.heap.size + 1 + 1 + 1 := fun e => n8 (e ▸ hi)
          exact .inr (by omega)
      · rw [HSN.out]; exact HD2.out
      · rw [List.length_append, List.length_singleton]; omega
      · rw [HSN.out] at hk
        rcases HF2.out k hk with h5 | h5
        · exact HF.out k h5
        · exact .inr (by omega)
      · refine Classical.byContradiction fun hc => HF0.out ⟨af, kp, HAR.out.trans e, ?_⟩
        show af ≤ σk.cnt + 1
        rw [HCT.out, if_neg (by rw [e]; simp)]
        rw [List.length_append, List.length_singleton] at hc
        omega
  case hdone =>
    rintro D W hD ⟨⟨h3, h6, h7, h8⟩, hgW, L', hdW, hsame, hNL, hfoot, hpu⟩ hK
    have hOL := hO.same hsame
    have n6 := box_foot hdW hOL h6 (by omega) (by unfold HP; decide)
    have c6 := h6.cell
    have z6 := h6.frozen
    have hl : (unitsV 64 (at_ : Int) (n : Int)).length = (linesOf at_ n).length := by unfold linesOf; rw [List.length_map]
    rw [hl] at hNL hpu
    have HPU := hide hpu
    clear hpu
    have hd' : DevL W b L' (linesG σ (linesOf at_ n)) := hdW
    have hf' : ∀ k, Foot b L' (linesG σ (linesOf at_ n)) k → Foot b L σ k ∨ w.heap.size ≤ k := hfoot
    have HD := hide hd'
    have HG := hide hgW
    have HF := hide hf'
    have HS := hide hsame
    have HK := hide hK
    have H6 := hide h6
    clear h3 h6 h7 h8 hgW hdW hsame hfoot hK hl hd' hf'
    gi_wp2
    have hne : D ≠ w.heap.size + 1 := by omega
    have hK' : (W.setCell ⟨w.heap.size + 1, 0, none⟩ (.int .i64 0)).heap[D]? = some (.deferred (some [])) := (heap_set_ne W _ 0 D _ hne).trans HK.out
    refine ⟨by simp, .inl ⟨_, _, rfl, run_takeDeferred hK', ?_⟩⟩
    have hd1 : DevL (W.setCell ⟨w.heap.size + 1, 0, none⟩ (.int .i64 0)) b L' (linesG σ (linesOf at_ n)) := HD.out.keep (fun k hk => heap_set_ne W _ 0 k _ (fun e => n6 (e ▸ hk)))
    have hgr : Gr (Foot b L σ) w ((W.setCell ⟨w.heap.size + 1, 0, none⟩ (.int .i64 0)).putObj D (.deferred none)) := by
      have g1 : Gr (Foot b L σ) w W := (Gr.of_below hB0).trans HG.out (fun i h => .inl h)
      have g2 : Gr (fun k => k = w.heap.size + 1) W (W.setCell ⟨w.heap.size + 1, 0, none⟩ (.int .i64 0)) := Gr.set W _ 0 _ rfl
      have g3 : Gr (fun k => k = D) (W.setCell ⟨w.heap.size + 1, 0, none⟩ (.int .i64 0)) ((W.setCell ⟨w.heap.size + 1, 0, none⟩ (.int .i64 0)).putObj D (.deferred none)) := Gr.of_grown (grownBy_putObj' _ D _) (fun k hk => .inl (by cases hk; rfl))
      exact (g1.trans g2 (fun i h => .inr (by omega))).trans g3 (fun i h => .inr (by omega))
    refine ⟨_, results_boxP rfl _ _ (w.heap.size + 1) _ _ rfl ((World.putObj_heap_other (Ne.symm hne)).trans (H6.out.set _)) (fun _ h => loadE h), 0, _, L', rfl, .inl ⟨rfl, rfl, fun af kp e h => HPU.out af kp e (fun e2 => h (by unfold linesOf; rw [e2]; rfl))⟩, hd1.put_ hK' _, HF.out, hgr, hNL, HS.out.2.2.2.2, fun _ => HS.out⟩
  case hstop =>
    rintro D c pre W2 hD hpre ⟨⟨rfl, h6⟩, hgW, L', σ', hdW, ⟨hkb, hNL⟩, ⟨pr, no, hpn, hop⟩, hfoot⟩ hK
    have HD := hide hdW
    have HG := hide hgW
    have HF := hide hfoot
    have HOP := hide hop
    have HPN := hide hpn
    have HPR := hide hpre
    have HNL := hide hNL
    have HKB := hide hkb
    have H6 := hide h6
    clear h6 hgW hdW hfoot hop hpn hpre hNL hkb
    gi_wp2
    have hne : D ≠ w.heap.size + 1 := by omega
    refine ⟨by simp, .inl ⟨_, _, rfl, run_takeDeferred hK, ?_⟩⟩
    have hgr : Gr (Foot b L σ) w (W2.putObj D (.deferred none)) := HG.out.trans (Gr.of_grown (X := fun k => k = D) (grownBy_putObj' _ D _) (fun k hk => .inl (by cases hk; rfl))) (fun i h => .inr (by omega))
    have hpl := HPR.out.length_le
    have hl : (unitsV 64 (at_ : Int) (n : Int)).length = (linesOf at_ n).length := by unfold linesOf; rw [List.length_map]
    have h9 := HNL.out
    refine ⟨_, results_boxP rfl _ _ (w.heap.size + 1) _ _ rfl ((World.putObj_heap_other (Ne.symm hne)).trans H6.out) (fun _ h => loadE h), 5, σ', L', rfl, .inr ⟨rfl, pr, no, ?_, HOP.out⟩, HD.out.put_ hK _, HF.out, hgr, by omega, HKB.out, fun h => by cases h⟩
    have := HPR.out.map Int.toNat
    rw [HPN.out] at this
    exact this
end Go.Proofs.Ytcpmofdhljdkdaa
namespace Go.Proofs.Ytcpmofdhljdkdaa
open Go.RowKit Go.Shelf
set_option linter.unusedVariables false

/-- A fence is made; the operation is not yet counted. -/
def fnA (σ : St) : St := { fenceDo σ with ops := σ.ops }
theorem fnA_ok {σ : St} (h : σ.Ok) : (fnA σ).Ok := by
  have hp : ∀ i, ∃ k, (fnA σ).past i = (σ.past i).drop k := fun i => by
    show ∃ k, fenP σ false i = _
    unfold fenP
    cases h1 : σ.fl i with
    | none => exact ⟨0, by simp⟩
    | some p => exact ⟨p, by simp⟩
  refine ⟨h.pos, h.max, h.len, h.byte, fun i hi => ?_, fun i c hc => ?_, fun i c hc => ?_, fun i => ?_, fun i k hk => (by cases hk), h.opsm⟩
  · obtain ⟨k, hk⟩ := hp i
    rw [hk, h.out i hi]; simp
  · obtain ⟨k, hk⟩ := hp i
    rw [hk] at hc
    exact h.clen i c (List.mem_of_mem_drop hc)
  · obtain ⟨k, hk⟩ := hp i
    rw [hk] at hc
    exact h.cbyte i c (List.mem_of_mem_drop hc)
  · obtain ⟨k, hk⟩ := hp i
    rw [hk, List.length_drop]
    have := h.few i
    show _ ≤ σ.ops
    omega
section
variable {w : World} {b : Nat} {L : Lay} {σ : St}
set_option maxRecDepth 100000 in
set_option maxHeartbeats 1000000 in
theorem pfence_gen (h : DevL w b L σ) (hok : σ.Ok) (ho : σ.off = false) (hfw : Few σ) (hops : σ.ops < 274877906944) : Calls Try.prog 35 #[.pointer (some ⟨b, 0, none⟩)] w fun e w' =>
    ∃ c σ' L', e = .returned (.int .i64 c) ∧ Opd (fnA σ) c σ' ∧ DevL w' b L' σ' ∧ (∀ k, Foot b L' σ' k → Foot b L σ k ∨ w.heap.size ≤ k) ∧ Gr (Foot b L σ) w w' ∧ L'.N ≤ L.N ∧ L'.KB = L.KB := by
  have ks := pstate_any h
  rw [ho] at ks
  simp only [Bool.false_eq_true, if_false] at ks
  have c3 := h.c3
  have KS := hide ks
  have HD := hide h
  have HOK := hide hok
  have HFW := hide hfw
  have HOPS := hide hops
  clear h hok ks hfw ho hops
  go_enter Try.func35, Try.ntmps35
  go_wp2_with (first | (go_at_call 40; refine (KS.out).mono ?_; rintro e w' ⟨rfl, hw⟩; obtain rfl := hw.symm) | (at_range; refine wpList_range_num rfl (.tmp 15) rfl L.fb L.N (flF σ) (by kernel_rfl) HD.out.flm ?_; intro W0 hrg0 hg0 hs0; have HRG0 := hide hrg0; have HG0 := hide hg0; have HS0 := hide hs0; clear hrg0 hg0 hs0))
  go_frame
  go_loopw [] (fun wr => ∃ left L', FenR w b L σ w.heap.size wr left L') (fun wr => wr.rangeLeft L.fb w.heap.size)
  case atStart =>
    refine ⟨fun x => (flF σ x).isSome, L, ⟨HRG0.out, ?_, SameL.refl L, rfl, fun k hk => .inl (by rw [fenL_start] at hk; exact hk), Gr.of_grown HG0.out (fun k hk => by cases hk)⟩⟩
    rw [fenL_start]
    exact HD.out.keep fun k hk => HG0.out.block k (by rcases foot_obj2 HD.out hk with ⟨c, t, f, e1⟩ | ⟨c, t, e1⟩ <;> exact lt_of_heap e1) (by simp)
  case round =>
    obtain ⟨left, L', hF⟩ := hrel
    have HF := hide hF
    clear hF
    go_wp2_with (at_next; refine wpList_next_g numL rfl (.tmp 16) rfl L.fb w.heap.size L.N (flF σ) left (by kernel_rfl) HF.out.ran ?_ ?_)
    · intro hl0
      have hne := HF.out.dev
      have hha := (((Below.refl _ wr).alloc (Nat.le_refl _) (.map #[] 0)).block b (lt_of_heap hne.dev)).trans hne.dev
      have c3r : (wr.alloc (.map #[] 0)).cell? ⟨b, 3, none⟩ = some (.map (some L'.fb)) := cell8 hha 3
      have hfz := froz8 hha 3
      have hfa : ({ fenL σ left with fl := fun _ => none } : St) = fnA σ := congrArg (fun s : St => { s with ops := σ.ops }) (fenL_none σ left hl0)
      have hd9 := dev_newfl HF.out.dev
      have hft9 : ∀ k, Foot b { L' with fb := wr.heap.size } (fnA σ) k → Foot b L' (fenL σ left) k ∨ wr.heap.size ≤ k := fun k hk => by
        rw [← hfa] at hk
        rcases hk with h | h | h | h | h | h | h
        · exact .inl (.inl h)
        · exact .inl (.inr (.inl h))
        · exact .inl (.inr (.inr (.inl h)))
        · exact .inr (by rw [h]; exact Nat.le_refl _)
        · exact .inl (.inr (.inr (.inr (.inr (.inl h)))))
        · exact .inl (.inr (.inr (.inr (.inr (.inr (.inl h))))))
        · exact .inl (.inr (.inr (.inr (.inr (.inr (.inr h))))))
      rw [hfa] at hd9
      have ko := poper_gen hd9 (fence_ok (σ := σ) HOK.out HOPS.out) ⟨HFW.out.one, HFW.out.cnt⟩ HOPS.out
      have HFT := hide hft9
      have hmk : (Instr.makeMap 39 none).run Try.prog wr = .ok (.map (some wr.heap.size)) (wr.alloc (.map #[] 0)) := rfl
      have KO := hide ko
      have HL0 := hide hl0
      clear ko hl0 hne c3 hha hfa hd9 hft9
      go_wp2_with (go_at_call 62; refine (KO.out).mono ?_; rintro e w' ⟨c, σ', L9, rfl, hr⟩; have HR := hide hr; clear hr)
      go_ret
      obtain ⟨r1, r2, r3, r4, r5⟩ := HR.out
      have g1 : Gr (Foot b L σ) w ((wr.alloc (.map #[] 0)).setCell ⟨b, 3, none⟩ (.map (some wr.heap.size))) := (HF.out.gr.trans (Gr.of_below ((Below.refl _ wr).alloc (Nat.le_refl _) _) : Gr (Foot b L σ) wr (wr.alloc (.map #[] 0))) (fun i h => .inl h)).trans (Gr.set _ b 3 _ (X := fun k => k = b) rfl) (fun i h => .inl (.inl h))
      have hfo : ∀ k, Foot b { L' with fb := wr.heap.size } (fnA σ) k → Foot b L σ k ∨ w.heap.size ≤ k := fun k hk => (HFT.out k hk).elim (HF.out.foot k) (fun h => .inr (Nat.le_trans HF.out.gr.size h))
      exact ⟨c, σ', L9, rfl, r1, r2, fun k hk => (r3 k hk).elim (hfo k) (fun h => .inr (Nat.le_trans g1.size h)), g1.trans r4 hfo, Nat.le_trans r5.1 (Nat.le_of_eq HF.out.num), r5.2.1.trans HF.out.same.2.2.2.2⟩
    · intro x p w1 hwx hfx hlx hrg1 hlt hg1 hs1 hen
      obtain ⟨hD1, hG1⟩ := HF.out.next hg1 (Nat.le_refl _)
      obtain ⟨i, rfl, hfi⟩ : ∃ i : Nat, x = (i : Int) ∧ σ.fl i = some p := by
        unfold flF at hfx
        split at hfx
        · exact ⟨x.toNat, by omega, hfx⟩
        · cases hfx
      obtain ⟨hpl, hpi⟩ := HOK.out.flp i p hfi
      obtain ⟨hst, hpa⟩ := fenL_step σ left i p hfi hlx
      have hpi' : (fenL σ left).past i ≠ [] := by rw [hpa]; exact hpi
      have hof : oldF L' (fenL σ left) (i : Int) = some (L'.pb i) := by unfold oldF; rw [if_pos ⟨by omega, by simpa using hpi'⟩]; simp
      have hP := hD1.pasts i hpi'
      rw [hpa] at hP
      have hfew := HOK.out.few i
      have hopm := HOK.out.opsm
      have kd := pdrop_any (L'.pb i) p (L'.rv i) (σ.past i) w1 hP hpl hpi (by omega)
      have c2 := hD1.c2
      have hbp : b ≠ L'.pb i := ne_ty hD1.dev hP.1 (by decide)
      obtain ⟨eo, qo, hob⟩ := hD1.old.block
      have hop : L'.ob ≠ L'.pb i := fun e => ne_map hP.1 hob e.symm
      have KD := hide kd
      have HD1 := hide hD1
      have HG1 := hide hG1
      have HRG1 := hide hrg1
      have HFI := hide hfi
      have HLX := hide hlx
      have HPI := hide hpi
      have HPI2 := hide hpi'
      have HOF := hide hof
      have HBP := hide hbp
      have HOP := hide hop
      have HOB := hide hob
      have HLT := hide hlt
      have HFX := hide hfx
      have hpI : (p : Int) ≤ 274877906944 := by omega
      clear kd hD1 hG1 hrg1 hfi hlx hpi hpi' hof hbp hop hob hlt hg1 hs1 hst hpa hP hfew hopm hpl hfx c3
      by_cases hz : (σ.past i).drop p = []
      · have HZ := hide hz
        clear hz
        go_wp2_with (first | (at_lookup; refine wpList_look_ptr' rfl (.tmp 25) (.tmp 26) rfl L'.ob L'.N (oldF L' (fenL σ left)) (by kernel_rfl) HD1.out.old (i : Int) (by simp [Act.eval]) hwx (L'.pb i) HOF.out ?_) | (go_at_call 61; refine (KD.out).mono ?_; rintro e W2 ⟨rfl, v', hp2, hv2, hg2⟩; have cz : W2.cell? ⟨L'.pb i, 1, none⟩ = some (.int .i64 0) := (by have h5 := cell8 hp2.1 1; rw [HZ.out] at h5; exact h5); have cb : W2.cell? ⟨b, 2, none⟩ = some (.map (some L'.ob)) := cell8 ((hg2.block (lt_of_heap HD1.out.dev) HBP.out).trans HD1.out.dev) 2; have hm2 := HD1.out.old.of_block (hg2.block (lt_of_heap HOB.out) HOP.out); have HP2 := hide hp2; have HV2 := hide hv2; have HG2 := hide hg2; have HM2 := hide hm2; clear hp2 hv2 hg2 hm2) | (at_delete; refine wpList_del_ptr rfl (.tmp 39) (.tmp 40) rfl L'.ob L'.N (oldF L' (fenL σ left)) (by kernel_rfl) HM2.out (i : Int) (by simp [Act.eval]) hwx ?_; intro W3 hm3 hg3; go_frame; have HM3 := hide hm3; have HG3 := hide hg3; clear hm3 hg3))
        go_roundw
        case rel =>
          have hB := HG3.out
          exact ⟨_, _, (FenR.step (v' := v') HD1.out HF.out.same HF.out.num HF.out.foot HG1.out HFI.out HLX.out HPI.out HRG1.out (HG2.out.mono (fun k h => .inl h) |>.trans (Gr.of_grown (X := fun k => k = L'.pb i ∨ k = L'.ob) hB (fun k hk => by cases hk; exact .inl (.inr rfl))) (fun i h => .inl h)) (by rw [HZ.out]; exact HM3.out.congr (fun x => old_less x)) (fun h => absurd HZ.out h) HV2.out).1⟩
        case measure =>
          have hB := HG3.out
          have h9 := (FenR.step (v' := v') HD1.out HF.out.same HF.out.num HF.out.foot HG1.out HFI.out HLX.out HPI.out HRG1.out (HG2.out.mono (fun k h => .inl h) |>.trans (Gr.of_grown (X := fun k => k = L'.pb i ∨ k = L'.ob) hB (fun k hk => by cases hk; exact .inl (.inr rfl))) (fun i h => .inl h)) (by rw [HZ.out]; exact HM3.out.congr (fun x => old_less x)) (fun h => absurd HZ.out h) HV2.out).2
          rw [h9]
          exact HLT.out
      · obtain ⟨q, hq⟩ : ∃ q, q = ((σ.past i).drop p).length := ⟨_, rfl⟩
        have hz2 : (0 : Int) < (q : Int) := by
          have := List.length_pos_iff.2 hz
          omega
        have HZ := hide hz
        have HQ := hide hq
        clear hz hq
        go_wp2_with (first | (at_lookup; refine wpList_look_ptr' rfl (.tmp 25) (.tmp 26) rfl L'.ob L'.N (oldF L' (fenL σ left)) (by kernel_rfl) HD1.out.old (i : Int) (by simp [Act.eval]) hwx (L'.pb i) HOF.out ?_) | (go_at_call 61; refine (KD.out).mono ?_; rintro e W2 ⟨rfl, v', hp2, hv2, hg2⟩; have cz : W2.cell? ⟨L'.pb i, 1, none⟩ = some (.int .i64 (q : Int)) := (by have h5 := cell8 hp2.1 1; rw [← HQ.out] at h5; exact h5); have hm2 := HD1.out.old.of_block (hg2.block (lt_of_heap HOB.out) HOP.out); have HP2 := hide hp2; have HV2 := hide hv2; have HG2 := hide hg2; have HM2 := hide hm2; clear hp2 hv2 hg2 hm2))
        go_roundw
        case rel => exact ⟨_, _, (FenR.step (v' := v') HD1.out HF.out.same HF.out.num HF.out.foot HG1.out HFI.out HLX.out HPI.out HRG1.out (HG2.out.mono (fun k h => .inl h)) (HM2.out.congr (fun x => old_same HPI2.out HZ.out x)) (fun _ => HP2.out) HV2.out).1⟩
        case measure =>
          have h9 := (FenR.step (v' := v') HD1.out HF.out.same HF.out.num HF.out.foot HG1.out HFI.out HLX.out HPI.out HRG1.out (HG2.out.mono (fun k h => .inl h)) (HM2.out.congr (fun x => old_same HPI2.out HZ.out x)) (fun _ => HP2.out) HV2.out).2
          rw [h9]
          exact HLT.out
end
end Go.Proofs.Ytcpmofdhljdkdaa
namespace Go.Proofs.Ytcpmofdhljdkdaa
open Go.RowKit Go.Shelf
set_option linter.unusedVariables false

/-- What Publish leaves, and what it answers. -/
def PubD (v at_ : Nat) (σ : St) (c : Int) (σ' : St) : Prop :=
  (c = 5 ∧ WrD (leB 8 v) at_ σ (wordsOf at_ 8) 5 σ') ∨ ∃ s1, WrD (leB 8 v) at_ σ (wordsOf at_ 8) 0 s1 ∧ ((c = 5 ∧ FlD s1 (linesOf at_ 8) 5 σ') ∨ ∃ s2, FlD s1 (linesOf at_ 8) 0 s2 ∧ Opd (fnA s2) c σ')
def pubS (v at_ : Nat) (σ : St) (j : Nat) (s : St) : Prop :=
  if j = 0 then s = σ else if j = 1 then WrD (leB 8 v) at_ σ (wordsOf at_ 8) 0 s else if j = 2 then ∃ s1, WrD (leB 8 v) at_ σ (wordsOf at_ 8) 0 s1 ∧ FlD s1 (linesOf at_ 8) 0 s else PubD v at_ σ 0 s
theorem WrD.zero {bs : List Nat} {at_ : Nat} {σ σ' : St} {nos : List Nat} (h : WrD bs at_ σ nos 0 σ') : σ' = writeG bs at_ σ nos ∧ ∀ af kp, σ.arms = [(af, kp)] → nos ≠ [] → σ.cnt + nos.length < af := by
  rcases h with ⟨_, h1, h2⟩ | ⟨h, _⟩
  · exact ⟨h1, h2⟩
  · cases h
theorem FlD.zero {σ σ' : St} {ls : List Nat} (h : FlD σ ls 0 σ') : σ' = linesG σ ls ∧ ∀ af kp, σ.arms = [(af, kp)] → ls ≠ [] → σ.cnt + ls.length < af := by
  rcases h with ⟨_, h1, h2⟩ | ⟨h, _⟩
  · exact ⟨h1, h2⟩
  · cases h
theorem WrD.five {bs : List Nat} {at_ : Nat} {σ σ' : St} {nos : List Nat} {c : Int} (h : WrD bs at_ σ nos c σ') (hc : c ≠ 0) : c = 5 := by
  rcases h with ⟨h, _⟩ | ⟨h, _⟩
  · exact absurd h hc
  · exact h
theorem FlD.five {σ σ' : St} {ls : List Nat} {c : Int} (h : FlD σ ls c σ') (hc : c ≠ 0) : c = 5 := by
  rcases h with ⟨h, _⟩ | ⟨h, _⟩
  · exact absurd h hc
  · exact h
section
variable {w : World} {b : Nat} {L : Lay} {σ : St}
theorem Atd.more {W0 W : World} {σ' : St} {m m2 : Nat} (h : Atd W0 b L σ W σ' m) (hm : m ≤ m2) : Atd W0 b L σ W σ' m2 := by
  obtain ⟨h1, L', h2, h3, h4⟩ := h
  exact ⟨h1, L', h2, h3, by omega⟩
theorem qwstoreG (v at_ : Nat) (h : DevL w b L σ) (hok : σ.Ok) (ho : σ.off = false) (hN : L.N ≤ σ.ops) (hfw : Few σ) (hcn : σ.cnt + 600000 ≤ 274877906944) (hops : σ.ops + 600000 ≤ 274877906944) (hat : at_ % 8 = 0) (hlen : at_ + 8 ≤ 64 * σ.n) (hv : v < 18446744073709551616) :
    Calls Try.prog 37 #[.agg #[.pointer (some ⟨b, 0, none⟩), .int .i64 (at_ : Int), .int .i64 8, .int .u64 (v : Int)]] w fun e w' => ∃ c σ' L', e = .returned (.int .i64 c) ∧ WrD (leB 8 v) at_ σ (wordsOf at_ 8) c σ' ∧ DevL w' b L' σ' ∧ (∀ k, Foot b L' σ' k → Foot b L σ k ∨ w.heap.size ≤ k) ∧ Gr (Foot b L σ) w w' ∧ L'.N ≤ L.N + (wordsOf at_ 8).length := by
  have hA : Below w.heap.size w (w.alloc (.cells #[.pointer (some ⟨b, 0, none⟩), .int .i64 (at_ : Int), .int .i64 8, .int .u64 (v : Int)] 86)) := (Below.refl _ w).alloc (Nat.le_refl _) _
  have ks := pst8_gen (at_ := at_) v (h.below hA) hok ho hN hfw hcn hops hat hlen hv
  have KS := hide ks
  have HA := hide hA
  clear h hok ho hN hfw hcn hops hlen ks hA hat hv
  go_enter Try.func37, Try.ntmps37
  go_wp2_with (go_at_call 63; refine (KS.out).mono ?_; rintro e W1 ⟨c, s5, L5, rfl, hr⟩; have HR := hide hr; clear hr)
  go_ret
  obtain ⟨h0, h1, h2, h3, h4, _⟩ := HR.out
  exact ⟨c, s5, L5, rfl, h0, h1, fun k hk => (h2 k hk).imp id (fun h => Nat.le_trans HA.out.size h), (Gr.of_below HA.out).trans h3 (fun i h => .inl h), h4⟩
set_option maxRecDepth 100000 in
set_option maxHeartbeats 400000 in
theorem qpubG_turn (v at_ rb : Nat) (W0 : World) (hB0 : Below w.heap.size w W0) (h : DevL w b L σ) (hok : σ.Ok) (ho : σ.off = false) (hN : L.N ≤ σ.ops) (hfw : Few σ) (hcn : σ.cnt + 2000000 ≤ 274877906944) (hops : σ.ops + 2000000 ≤ 274877906944) (hv : v < 18446744073709551616) (hat : at_ % 8 = 0) (hlen : at_ + 8 ≤ 64 * σ.n)
    (hrb : w.heap.size ≤ rb) (hrow : W0.heap[rb]? = some (.cells #[.func (.func (wbF 0)) (wbA b at_ v 0) #[], .func (.func (wbF 1)) (wbA b at_ v 1) #[], .func (.func (wbF 2)) (wbA b at_ v 2) #[]] 116 (0, 0))) :
    Calls Try.prog 33 #[.agg #[.pointer (some ⟨b, 0, none⟩), .int .i64 (at_ : Int), .int .i64 8], .slice (some ⟨rb, 0, none⟩) 3 3] W0 fun e w' => ∃ c s, e = .returned (.int .i64 c) ∧ PubD v at_ σ c s ∧ Atd W0 b L σ w' s ((wordsOf at_ 8).length + (linesOf at_ 8).length) := by
  have hm := hok.max
  have hlen2 : at_ + 8 ≤ 4194304 := by omega
  have hwl := wordsOf_len hlen2
  have hll := linesOf_len hlen2
  have hlk := writeG_like (at_ := at_) (leB_lt 8 v) (wordsOf at_ 8) σ hok (wordsOf_lt hlen hm) (by omega)
  obtain ⟨j1, j2, j3, j4, j5, j6⟩ := linesG_like (linesOf at_ 8) (writeG (leB 8 v) at_ σ (wordsOf at_ 8)) hlk.ok (by rw [hlk.ops]; omega)
  rw [hlk.ops] at j3
  have hc1 : (writeG (leB 8 v) at_ σ (wordsOf at_ 8)).cnt ≤ σ.cnt + 600000 := by rw [hlk.cnt]; split <;> omega
  have hf1 : Few (writeG (leB 8 v) at_ σ (wordsOf at_ 8)) := ⟨by rw [hlk.arms]; exact hfw.one, by omega⟩
  have hf2 : Few (linesG (writeG (leB 8 v) at_ σ (wordsOf at_ 8)) (linesOf at_ 8)) := ⟨by rw [j4, hlk.arms]; exact hfw.one, by rw [j6]; split <;> omega⟩
  have hd0 := h.below hB0
  have hnf : ¬ Foot b L σ rb := fun hf => by have := h.foot_is hf; omega
  have hrl := lt_of_heap hrow
  refine (qturn_gen hd0 hok ho at_ 8 (by omega) hlen rb 3 wbF (wbA b at_ v) (fun j W => ∃ s, pubS v at_ σ j s ∧ Atd W0 b L σ W s (wbM at_ 8 j)) (fun c W => ∃ s, PubD v at_ σ c s ∧ Atd W0 b L σ W s ((wordsOf at_ 8).length + (linesOf at_ 8).length)) (fun j hj => ?_) (by omega) (fun j W hP i hi => ?_) (fun j hj W hP => ?_) (fun W hB => ⟨σ, rfl, Atd.start hd0 hB⟩) (fun W hP => hP)).mono ?_
  · obtain rfl | rfl | rfl := three hj
    · exact enters_of Try.func37 (by kernel_rfl) rfl
    · exact enters_of Try.func34 (by kernel_rfl) rfl
    · exact enters_of Try.func35 (by kernel_rfl) rfl
  · obtain ⟨s, _, hP⟩ := hP
    have hr := (hP.1.block hrl hnf).trans hrow
    obtain rfl | rfl | rfl := three hi
    · exact cell8 hr 0
    · exact cell8 hr 1
    · exact cell8 hr 2
  · obtain ⟨s, hs, hg, L', hd, hf, hN'⟩ := hP
    obtain rfl | rfl | rfl := three hj
    · obtain rfl : s = σ := hs
      have hN0 : L'.N ≤ L.N + 0 := hN'
      refine (qwstoreG v at_ hd hok ho (by omega) hfw (by omega) (by omega) hat hlen hv).mono ?_
      rintro e W' ⟨c, s1, L2, rfl, h0, h1, h2, h3, h4⟩
      have h5 := Atd.go hg hf hN0 h1 h2 h3 h4
      exact ⟨c, rfl, fun e0 => ⟨s1, by subst e0; exact h0, h5.more (show 0 + _ ≤ (wordsOf at_ 8).length by omega)⟩, fun e0 => ⟨s1, .inl ⟨h0.five e0, by rw [← h0.five e0]; exact h0⟩, h5.more (by omega)⟩⟩
    · have hs1 : WrD (leB 8 v) at_ σ (wordsOf at_ 8) 0 s := hs
      obtain ⟨e1, _⟩ := hs1.zero
      have hN2 : L'.N ≤ L.N + (wordsOf at_ 8).length := hN'
      rw [e1] at hd hf
      refine (callsIn_wide.1 (qflushG_in (at_ := at_) (n := 8) hd hlk.ok (hlk.off.trans ho) (by rw [hlk.ops]; omega) hf1 (by omega) (by rw [hlk.n]; exact hlen) (by rw [hlk.ops]; omega))).mono ?_
      rintro e W' ⟨c, s2, L2, rfl, h0, h1, h2, h3, h4, _⟩
      rw [← e1] at h0
      have h5 := Atd.go hg hf hN2 h1 h2 h3 h4
      exact ⟨c, rfl, fun e0 => ⟨s2, ⟨s, hs1, by subst e0; exact h0⟩, h5⟩, fun e0 => ⟨s2, .inr ⟨s, hs1, .inl ⟨h0.five e0, by rw [← h0.five e0]; exact h0⟩⟩, h5⟩⟩
    · obtain ⟨s1, hs1, hs2⟩ : ∃ s1, WrD (leB 8 v) at_ σ (wordsOf at_ 8) 0 s1 ∧ FlD s1 (linesOf at_ 8) 0 s := hs
      obtain ⟨e1, _⟩ := hs1.zero
      obtain ⟨e2, _⟩ := hs2.zero
      have hN2 : L'.N ≤ L.N + ((wordsOf at_ 8).length + (linesOf at_ 8).length) := hN'
      rw [e2, e1] at hd hf
      refine (pfence_gen hd j1 (j5.trans (hlk.off.trans ho)) hf2 (by rw [j3]; omega)).mono ?_
      rintro e W' ⟨c, s3, L2, rfl, h0, h1, h2, h3, h4, _⟩
      rw [← e1, ← e2] at h0
      have h5 := Atd.go (m2 := 0) hg hf hN2 h1 h2 h3 (by omega)
      have hp : PubD v at_ σ c s3 := .inr ⟨s1, hs1, .inr ⟨s, hs2, h0⟩⟩
      exact ⟨c, rfl, fun e0 => ⟨s3, by subst e0; exact hp, h5⟩, fun e0 => ⟨s3, hp, h5⟩⟩
  · rintro e w' ⟨c, rfl, s, hA⟩
    exact ⟨c, s, rfl, hA⟩
set_option maxRecDepth 100000 in
set_option maxHeartbeats 400000 in
theorem qpubG_any (v at_ : Nat) (h : DevL w b L σ) (hok : σ.Ok) (ho : σ.off = false) (hN : L.N ≤ σ.ops) (hfw : Few σ) (hcn : σ.cnt + 2000000 ≤ 274877906944) (hops : σ.ops + 2000000 ≤ 274877906944) (hv : v < 18446744073709551616) (hat : at_ % 8 = 0) (hlen : at_ + 8 ≤ 64 * σ.n) :
    Calls Try.prog 11 #[.pointer (some ⟨b, 0, none⟩), .int .i64 (at_ : Int), .int .u64 (v : Int)] w fun e w' => ∃ c s, e = .returned (.int .i64 c) ∧ PubD v at_ σ c s ∧ Atd w b L σ w' s ((wordsOf at_ 8).length + (linesOf at_ 8).length) := by
  obtain ⟨W0, hW0⟩ : ∃ W0, (w.alloc (.cells #[.pointer (some ⟨b, 0, none⟩), .int .i64 (at_ : Int), .int .i64 8] 81)).alloc (.cells #[.func (.func 37) #[.agg #[.pointer (some ⟨b, 0, none⟩), .int .i64 (at_ : Int), .int .i64 8, .int .u64 (v : Int)]] #[], .func (.func 34) #[.agg #[.pointer (some ⟨b, 0, none⟩), .int .i64 (at_ : Int), .int .i64 8]] #[], .func (.func 35) #[.pointer (some ⟨b, 0, none⟩)] #[]] 116) = W0 := ⟨_, rfl⟩
  have hB0 : Below w.heap.size w W0 := by rw [← hW0]; exact ((Below.refl _ w).alloc (Nat.le_refl _) _).alloc (by simp) _
  have hrow : W0.heap[w.heap.size + 1]? = some (.cells #[.func (.func (wbF 0)) (wbA b at_ v 0) #[], .func (.func (wbF 1)) (wbA b at_ v 1) #[], .func (.func (wbF 2)) (wbA b at_ v 2) #[]] 116 (0, 0)) := by
    rw [← hW0]
    have := heap_alloc_new (w.alloc (.cells #[.pointer (some ⟨b, 0, none⟩), .int .i64 (at_ : Int), .int .i64 8] 81)) (.cells #[.func (.func 37) #[.agg #[.pointer (some ⟨b, 0, none⟩), .int .i64 (at_ : Int), .int .i64 8, .int .u64 (v : Int)]] #[], .func (.func 34) #[.agg #[.pointer (some ⟨b, 0, none⟩), .int .i64 (at_ : Int), .int .i64 8]] #[], .func (.func 35) #[.pointer (some ⟨b, 0, none⟩)] #[]] 116)
    rw [World.size_alloc] at this
    exact this
  have kt := qpubG_turn v at_ (w.heap.size + 1) W0 hB0 h hok ho hN hfw hcn hops hv hat hlen (by omega) hrow
  rw [← hW0] at kt
  have KT := hide kt
  have HB0 := hide hB0
  have HW0 := hide hW0
  clear h hok ho hN hfw hcn hops hlen kt hB0 hrow hW0 hat hv
  go_enter Try.func11, Try.ntmps11
  go_wp2_with (go_at_call 33; refine (KT.out).mono ?_; rintro e W1 ⟨c, s, rfl, hp, hA⟩; have HAT := hide hA; have HP := hide hp; clear hA hp)
  go_ret
  refine ⟨c, s, rfl, HP.out, ?_⟩
  have h5 := HAT.out
  rw [HW0.out] at h5
  exact h5.base HB0.out
end
end Go.Proofs.Ytcpmofdhljdkdaa
namespace Go.Proofs.Ytcpmofdhljdkdaa
open Go.RowKit Go.Shelf
set_option linter.unusedVariables false

theorem splice_in (l p : List Nat) (i o : Nat) (hi : 64 * i + 64 ≤ l.length) (ho : o + p.length ≤ 64) : splice l (64 * i) (splice ((l.drop (64 * i)).take 64) o p) = splice l (64 * i + o) p := by
  have l0 : ((l.drop (64 * i)).take 64).length = 64 := by rw [List.length_take, List.length_drop]; omega
  have l1 := splice_len ((l.drop (64 * i)).take 64) p o (by omega)
  refine List.ext_getElem? fun q => ?_
  rw [splice_get _ _ _ _ (by omega), splice_get _ _ _ _ (by omega), splice_get _ _ _ _ (by omega), l1, l0]
  by_cases h0 : q < 64 * i
  · rw [if_pos h0, if_pos (by omega)]
  · rw [if_neg h0]
    by_cases h1 : q < 64 * i + 64
    · rw [if_pos h1]
      by_cases h2 : q < 64 * i + o
      · rw [if_pos (by omega), if_pos h2, List.getElem?_take, if_pos (by omega), List.getElem?_drop]
        congr 1
        omega
      · rw [if_neg (by omega), if_neg h2]
        by_cases h3 : q < 64 * i + o + p.length
        · rw [if_pos (by omega), if_pos h3]
          congr 1
          omega
        · rw [if_neg (by omega), if_neg h3, List.getElem?_take, if_pos (by omega), List.getElem?_drop]
          congr 1
          omega
    · rw [if_neg h1, if_neg (by omega), if_neg (by omega)]
theorem wordDo_bytes {bs : List Nat} {at_ no : Nat} {σ : St} (hl : σ.bytes.length = 64 * σ.n) (hi : no / 8 < σ.n) (fr : Nat) (hfr : fr = max at_ (no * 8)) (hf3 : fr < no * 8 + 8) : (wordDo bs at_ σ no).bytes = splice σ.bytes fr ((bs.drop (fr - at_)).take (8 - fr % 8)) := by
  show splice σ.bytes (64 * (no / 8)) (splice (σ.line (no / 8)) (max at_ (no * 8) % 64) ((bs.drop (max at_ (no * 8) - at_)).take (8 - max at_ (no * 8) % 8))) = _
  rw [← hfr]
  unfold St.line
  rw [splice_in _ _ _ _ (by omega) (by rw [List.length_take]; omega)]
  congr 1
  omega
theorem words_bytes {bs : List Nat} {at_ : Nat} (hbs : ∀ x ∈ bs, x < 256) {σ : St} (hok : σ.Ok) (hlen : at_ + bs.length ≤ 64 * σ.n) (hops : σ.ops + 600000 ≤ 274877906944) (hn : 1 ≤ bs.length) : ∀ m, m ≤ (at_ + bs.length - 1) / 8 - at_ / 8 + 1 →
    (writeDo bs at_ σ ((List.range m).map (at_ / 8 + ·))).bytes = splice σ.bytes at_ (bs.take (min bs.length ((at_ / 8 + m) * 8 - at_)))
  | 0, _ => by
    have e : (at_ / 8 + 0) * 8 - at_ = 0 := by omega
    rw [e, Nat.min_zero, List.take_zero, splice_nil]
    rfl
  | m + 1, hm => by
    have ih := words_bytes hbs hok hlen hops hn m (by omega)
    have hmx := hok.max
    have hol := hok.len
    have hlk := write_like (at_ := at_) hbs ((List.range m).map (at_ / 8 + ·)) σ hok (fun no h => by
      obtain ⟨i, hi, rfl⟩ := List.mem_map.1 h
      have := List.mem_range.1 hi
      omega) (by simp; omega)
    rw [List.range_succ, List.map_append, List.map_cons, List.map_nil, writeDo_snoc]
    obtain ⟨fr, hfr⟩ : ∃ fr, fr = max at_ ((at_ / 8 + m) * 8) := ⟨_, rfl⟩
    rw [wordDo_bytes (by rw [hlk.ok.len]) (by rw [hlk.n]; omega) fr hfr (by omega), ih]
    have e1 : min bs.length ((at_ / 8 + m) * 8 - at_) = fr - at_ := by omega
    obtain ⟨p, hp⟩ : ∃ p, p = min (8 - fr % 8) (bs.length - (fr - at_)) := ⟨_, rfl⟩
    have e2 : (bs.drop (fr - at_)).take (8 - fr % 8) = (bs.drop (fr - at_)).take p := by
      rw [hp]
      refine List.ext_getElem? fun q => ?_
      rw [List.getElem?_take, List.getElem?_take, List.getElem?_drop]
      by_cases h1 : q < bs.length - (fr - at_)
      · by_cases h2 : q < 8 - fr % 8
        · rw [if_pos h2, if_pos (by omega)]
        · rw [if_neg h2, if_neg (by omega)]
      · rw [if_neg (show ¬ q < min (8 - fr % 8) (bs.length - (fr - at_)) by omega)]
        split
        · rw [List.getElem?_eq_none (by omega)]
        · rfl
    rw [e1, e2, splice_words σ.bytes bs at_ fr (by omega) (by omega) (by omega) p (by omega) (by omega)]
    congr 2
    omega
theorem store_bytes {bs : List Nat} {at_ : Nat} (hbs : ∀ x ∈ bs, x < 256) {σ : St} (hok : σ.Ok) (hlen : at_ + bs.length ≤ 64 * σ.n) (hops : σ.ops + 600000 ≤ 274877906944) : (writeDo bs at_ σ (wordsOf at_ bs.length)).bytes = splice σ.bytes at_ bs := by
  have hmx := hok.max
  rw [wordsOf_eq at_ bs.length (by omega)]
  by_cases h0 : bs.length = 0
  · rw [if_pos h0, List.eq_nil_of_length_eq_zero h0, splice_nil]
    rfl
  · rw [if_neg h0, words_bytes hbs hok hlen hops (by omega) _ (Nat.le_refl _), List.take_of_length_le (by omega)]
end Go.Proofs.Ytcpmofdhljdkdaa
namespace Go.Proofs.Ytcpmofdhljdkdaa
open Go.RowKit Go.Shelf
set_option linter.unusedVariables false

theorem bytes_of_lines {a b : List Nat} {n : Nat} (ha : a.length = 64 * n) (hb : b.length = 64 * n) (h : ∀ j, j < n → (a.drop (64 * j)).take 64 = (b.drop (64 * j)).take 64) : a = b := by
  apply List.ext_getElem?
  intro i
  by_cases hi : i < 64 * n
  · have h1 := h (i / 64) (by omega)
    have h2 : ((a.drop (64 * (i / 64))).take 64)[i % 64]? = ((b.drop (64 * (i / 64))).take 64)[i % 64]? := by rw [h1]
    rw [List.getElem?_take, List.getElem?_take, if_pos (by omega), if_pos (by omega), List.getElem?_drop, List.getElem?_drop] at h2
    rwa [show 64 * (i / 64) + i % 64 = i by omega] at h2
  · rw [List.getElem?_eq_none (by omega), List.getElem?_eq_none (by omega)]
theorem words1 {at_ : Nat} (hat : at_ % 8 = 0) (h : at_ + 8 ≤ 4194304) : wordsOf at_ 8 = [at_ / 8] := by
  rw [wordsOf_eq at_ 8 h, if_neg (by omega)]
  have : (at_ + 8 - 1) / 8 - at_ / 8 + 1 = 1 := by omega
  rw [this]
  simp
theorem lines1 {at_ : Nat} (hat : at_ % 8 = 0) (h : at_ + 8 ≤ 4194304) : linesOf at_ 8 = [at_ / 64] := by
  unfold linesOf unitsV
  rw [if_neg (by omega)]
  unfold upto
  have e1 : (((at_ : Int) + (8 : Nat) - 1) / 64 - (at_ : Int) / 64 + 1).toNat = 1 := by omega
  rw [e1]
  simp
  omega
theorem leB_len (v : Nat) : (leB 8 v).length = 8 := by simp [leB]
section
variable {σ : St} {v at_ : Nat}
theorem wordA_bytes (hok : σ.Ok) (hat : at_ % 8 = 0) (hlen : at_ + 8 ≤ 64 * σ.n) : (wordA (leB 8 v) at_ σ (at_ / 8)).bytes = splice σ.bytes at_ (leB 8 v) := by
  have h := wordDo_bytes (bs := leB 8 v) (at_ := at_) (no := at_ / 8) hok.len (by omega) at_ (by omega) (by omega)
  show (wordDo (leB 8 v) at_ σ (at_ / 8)).bytes = _
  rw [h, hat, Nat.sub_self, List.drop_zero, List.take_of_length_le (by rw [leB_len]; omega)]
theorem wordA_past (i : Nat) : (wordA (leB 8 v) at_ σ (at_ / 8)).past i = if i = at_ / 64 then σ.past (at_ / 64) ++ [σ.line (at_ / 64)] else σ.past i := by
  have e : at_ / 8 / 8 = at_ / 64 := by omega
  show (if i = at_ / 8 / 8 then σ.past (at_ / 8 / 8) ++ [σ.line (at_ / 8 / 8)] else σ.past i) = _
  rw [e]
/-- Other lines are as they were. -/
theorem other_line {l p : List Nat} {n j : Nat} (hl : l.length = 64 * n) (hp : at_ % 64 + p.length ≤ 64) (hat : at_ / 64 < n) (hj : j ≠ at_ / 64) : ((splice l at_ p).drop (64 * j)).take 64 = (l.drop (64 * j)).take 64 := by
  apply List.ext_getElem?
  intro i
  rw [List.getElem?_take, List.getElem?_take]
  by_cases hi : i < 64
  · rw [if_pos hi, if_pos hi, List.getElem?_drop, List.getElem?_drop, splice_get l p at_ (64 * j + i) (by omega)]
    by_cases h1 : 64 * j + i < at_
    · rw [if_pos h1]
    · rw [if_neg h1, if_neg (by omega)]
  · rw [if_neg hi, if_neg hi]
theorem lost_one {t s : St} {kp : List Nat} (hl : σ.bytes.length = 64 * σ.n) (hat : at_ % 8 = 0) (hlen : at_ + 8 ≤ 64 * σ.n) (htn : t.n = σ.n) (htb : t.bytes = splice σ.bytes at_ (leB 8 v)) (htp : ∀ i, t.past i = if i = at_ / 64 then [σ.line (at_ / 64)] else []) (h : Lost t kp s) : s.bytes = splice σ.bytes at_ (leB 8 v) ∨ s.bytes = σ.bytes := by
  have hlw : (splice σ.bytes at_ (leB 8 v)).length = 64 * σ.n := by rw [length_splice _ _ _ (by rw [leB_len]; omega), hl]
  have hsl : s.bytes.length = 64 * σ.n := by rw [h.len, htn]
  have hlines : ∀ j, j < σ.n → s.line j = lost t kp j := fun j hj => h.lines j (by rw [htn]; exact hj)
  have hne : ∀ j, j ≠ at_ / 64 → lost t kp j = t.line j := fun j hj => by
    unfold lost
    rw [htp j, if_neg hj]
    simp
  have htl : ∀ j, t.line j = ((splice σ.bytes at_ (leB 8 v)).drop (64 * j)).take 64 := fun j => by unfold St.line; rw [htb]
  by_cases hk : lost t kp (at_ / 64) = t.line (at_ / 64)
  · left
    refine bytes_of_lines hsl hlw (fun j hj => ?_)
    have h1 : s.line j = t.line j := by
      rw [hlines j hj]
      by_cases e : j = at_ / 64
      · rw [e]; exact hk
      · exact hne j e
    rw [← htl j]
    exact h1
  · right
    have hk2 : lost t kp (at_ / 64) = σ.line (at_ / 64) := by
      unfold lost at hk ⊢
      rw [htp, if_pos rfl] at hk ⊢
      cases hq : lostK t kp (at_ / 64) with
      | zero => rfl
      | succ q => rw [hq] at hk; simp at hk
    refine bytes_of_lines hsl hl (fun j hj => ?_)
    have h1 : s.line j = (σ.bytes.drop (64 * j)).take 64 := by
      rw [hlines j hj]
      by_cases e : j = at_ / 64
      · rw [e]; exact hk2
      · rw [hne j e, htl j]
        exact other_line hl (by rw [leB_len]; omega) (by omega) e
    exact h1
theorem lost_none {t s : St} {kp : List Nat} (hl : t.bytes.length = 64 * t.n) (htp : ∀ i, t.past i = []) (h : Lost t kp s) : s.bytes = t.bytes := by
  refine bytes_of_lines (n := t.n) h.len hl (fun j hj => ?_)
  have h1 : s.line j = t.line j := by
    rw [h.lines j hj]
    unfold lost
    rw [htp j]
    simp
  exact h1
/-- What Publish leaves of a device whose lines had one content each, where a loss waits behind n operations. -/
theorem pub_whole {s : St} {c : Int} {n : Nat} {kp : List Nat} (hok : σ.Ok) (hp : ∀ i, σ.past i = []) (hc0 : σ.cnt = 0) (ho0 : σ.ops = 0) (hoff : σ.off = false) (ha : σ.arms = [(n, kp)]) (h1 : 1 ≤ n) (h4 : n ≤ 4) (hat : at_ % 8 = 0) (hlen : at_ + 8 ≤ 64 * σ.n) (hv : v < 18446744073709551616) (h : PubD v at_ σ c s) :
    s.Ok ∧ s.n = σ.n ∧ ((n ≤ 3 ∧ c = 5 ∧ s.off = true ∧ (s.bytes = splice σ.bytes at_ (leB 8 v) ∨ n < 3 ∧ s.bytes = σ.bytes)) ∨ (n = 4 ∧ c = 0 ∧ s.off = false ∧ s.bytes = splice σ.bytes at_ (leB 8 v) ∧ ∀ i, s.past i = [])) := by
  have hm := hok.max
  have hl2 : at_ + 8 ≤ 4194304 := by omega
  unfold PubD at h
  rw [words1 hat hl2, lines1 hat hl2] at h
  have hlw : (splice σ.bytes at_ (leB 8 v)).length = 64 * σ.n := by rw [length_splice _ _ _ (by rw [leB_len, hok.len]; omega), hok.len]
  have hb1 := wordA_bytes (σ := σ) (v := v) hok hat hlen
  have hp1 : ∀ i, (wordA (leB 8 v) at_ σ (at_ / 8)).past i = if i = at_ / 64 then [σ.line (at_ / 64)] else [] := fun i => by
    rw [wordA_past]
    by_cases e : i = at_ / 64
    · rw [if_pos e, if_pos e, hp]; rfl
    · rw [if_neg e, if_neg e, hp]
  obtain ⟨q1, q2⟩ := word_part (at_ := at_) (no := at_ / 8) (leB_lt 8 v) hok (by omega)
  have hk1 : St.Ok { wordA (leB 8 v) at_ σ (at_ / 8) with ops := σ.ops + 1 } := put_ok hok (by omega) q1 q2 (by omega)
  have hs1e : writeG (leB 8 v) at_ σ [at_ / 8] = tick (wordA (leB 8 v) at_ σ (at_ / 8)) := rfl
  rcases h with ⟨rfl, hw⟩ | ⟨s1, hw, h⟩
  · rcases hw with ⟨e, _⟩ | ⟨_, pre, no, hpre, hop⟩
    · cases e
    · obtain ⟨rfl, rfl⟩ : pre = [] ∧ no = at_ / 8 := by
        have hl := hpre.length_le
        simp at hl
        subst hl
        obtain ⟨t, ht⟩ := hpre
        simp at ht
        exact ⟨rfl, ht.1⟩
      have hop : Opd (wordA (leB 8 v) at_ σ (at_ / 8)) 5 s := hop
      rcases hop with ⟨e, _⟩ | ⟨af, kp', e, ⟨_, e2, _⟩ | ⟨e1, _, hL⟩⟩
      · have e : σ.arms = [] := e
        rw [ha] at e; cases e
      · cases e2
      · have e : σ.arms = [(af, kp')] := e
        rw [ha] at e
        cases e
        have e1 : n ≤ σ.cnt + 1 := e1
        rw [hc0] at e1
        have hokL : St.Ok { wordA (leB 8 v) at_ σ (at_ / 8) with ops := σ.ops + 1, arms := [], cnt := 0 } := ⟨hk1.pos, hk1.max, hk1.len, hk1.byte, hk1.out, hk1.clen, hk1.cbyte, hk1.few, hk1.flp, hk1.opsm⟩
        refine ⟨Lost.ok hokL hL, hL.n, .inl ⟨by omega, rfl, hL.off, ?_⟩⟩
        rcases lost_one (t := { wordA (leB 8 v) at_ σ (at_ / 8) with ops := σ.ops + 1, arms := [], cnt := 0 }) hok.len hat hlen rfl hb1 hp1 hL with r | r
        · exact .inl r
        · exact .inr ⟨by omega, r⟩
  · obtain ⟨es1, hf1⟩ := hw.zero
    rw [hs1e] at es1
    have hn1 := hf1 n kp ha (by simp)
    rw [hc0] at hn1
    simp only [List.length_singleton] at hn1
    subst es1
    have hk1' := tick_ok hk1
    have ha1 : (tick (wordA (leB 8 v) at_ σ (at_ / 8))).arms = [(n, kp)] := ha
    have hc1 : (tick (wordA (leB 8 v) at_ σ (at_ / 8))).cnt = 1 := by
      show (if σ.arms = [] then σ.cnt else σ.cnt + 1) = 1
      rw [if_neg (by rw [ha]; simp), hc0]
    have ho1 : (tick (wordA (leB 8 v) at_ σ (at_ / 8))).ops = 1 := by show σ.ops + 1 = 1; rw [ho0]
    have hn1' : (tick (wordA (leB 8 v) at_ σ (at_ / 8))).n = σ.n := rfl
    have hb1' : (tick (wordA (leB 8 v) at_ σ (at_ / 8))).bytes = splice σ.bytes at_ (leB 8 v) := hb1
    have hp1' : ∀ i, (tick (wordA (leB 8 v) at_ σ (at_ / 8))).past i = if i = at_ / 64 then [σ.line (at_ / 64)] else [] := hp1
    have hof1 : (tick (wordA (leB 8 v) at_ σ (at_ / 8))).off = false := hoff
    generalize tick (wordA (leB 8 v) at_ σ (at_ / 8)) = s1 at *
    have hk2 : St.Ok { flA s1 (at_ / 64) with ops := s1.ops + 1 } := flush_ok hk1' (at_ / 64) (by omega)
    rcases h with ⟨rfl, hfl⟩ | ⟨s2, hfl, hop⟩
    · rcases hfl with ⟨e, _⟩ | ⟨_, pre, no, hpre, hop⟩
      · cases e
      · obtain ⟨rfl, rfl⟩ : pre = [] ∧ no = at_ / 64 := by
          have hl := hpre.length_le
          simp at hl
          subst hl
          obtain ⟨t, ht⟩ := hpre
          simp at ht
          exact ⟨rfl, ht.1⟩
        have hop : Opd (flA s1 (at_ / 64)) 5 s := hop
        rcases hop with ⟨e, _⟩ | ⟨af, kp', e, ⟨_, e2, _⟩ | ⟨e1, _, hL⟩⟩
        · have e : s1.arms = [] := e
          rw [ha1] at e; cases e
        · cases e2
        · have e : s1.arms = [(af, kp')] := e
          rw [ha1] at e
          cases e
          have e1 : n ≤ s1.cnt + 1 := e1
          rw [hc1] at e1
          have hokL : St.Ok { flA s1 (at_ / 64) with ops := s1.ops + 1, arms := [], cnt := 0 } := ⟨hk2.pos, hk2.max, hk2.len, hk2.byte, hk2.out, hk2.clen, hk2.cbyte, hk2.few, hk2.flp, hk2.opsm⟩
          refine ⟨Lost.ok hokL hL, hL.n.trans hn1', .inl ⟨by omega, rfl, hL.off, ?_⟩⟩
          rcases lost_one (t := { flA s1 (at_ / 64) with ops := s1.ops + 1, arms := [], cnt := 0 }) hok.len hat hlen hn1' hb1' hp1' hL with r | r
          · exact .inl r
          · exact .inr ⟨by omega, r⟩
    · obtain ⟨es2, hf2⟩ := hfl.zero
      have hn2 := hf2 n kp ha1 (by simp)
      rw [hc1] at hn2
      simp only [List.length_singleton] at hn2
      have es2 : s2 = tick (flA s1 (at_ / 64)) := es2
      have hp2 : (fnA s2).past = fun _ => [] := by
        funext i
        rw [es2]
        show fenP (tick (flA s1 (at_ / 64))) false i = []
        have hfi : (tick (flA s1 (at_ / 64))).fl i = if i = at_ / 64 ∧ s1.past (at_ / 64) ≠ [] then some (s1.past (at_ / 64)).length else s1.fl i := rfl
        have hpi : (tick (flA s1 (at_ / 64))).past i = s1.past i := rfl
        unfold fenP
        rw [hfi, hpi]
        by_cases e : i = at_ / 64
        · rw [if_pos ⟨e, by rw [hp1']; simp⟩, e]
          simp
        · rw [if_neg (fun h => e h.1), hp1' i, if_neg e]
          cases s1.fl i <;> simp
      have hb2 : (fnA s2).bytes = splice σ.bytes at_ (leB 8 v) := by rw [es2]; exact hb1'
      have ha2 : s2.arms = [(n, kp)] := by rw [es2]; exact ha1
      have hc2 : s2.cnt = 2 := by
        rw [es2]
        show (if s1.arms = [] then s1.cnt else s1.cnt + 1) = 2
        rw [if_neg (by rw [ha1]; simp), hc1]
      have hk2' : s2.Ok := by rw [es2]; exact tick_ok hk2
      have hs2n : s2.n = σ.n := by rw [es2]; exact hn1'
      have hs2o : s2.off = false := by rw [es2]; exact hof1
      have ho2 : s2.ops = 2 := by rw [es2]; show s1.ops + 1 = 2; rw [ho1]
      have hk3 : St.Ok { fnA s2 with ops := s2.ops + 1 } := fence_ok (σ := s2) hk2' (by omega)
      rcases hop with ⟨e, _⟩ | ⟨af, kp', e, ⟨e1, e2, e3⟩ | ⟨e1, e2, hL⟩⟩
      · have e : s2.arms = [] := e
        rw [ha2] at e; cases e
      · have e : s2.arms = [(af, kp')] := e
        rw [ha2] at e
        cases e
        have e1 : s2.cnt + 1 < n := e1
        rw [hc2] at e1
        subst e3
        refine ⟨⟨hk3.pos, hk3.max, hk3.len, hk3.byte, hk3.out, hk3.clen, hk3.cbyte, hk3.few, hk3.flp, hk3.opsm⟩, hs2n, .inr ⟨by omega, e2, hs2o, hb2, fun i => ?_⟩⟩
        show (fnA s2).past i = []
        rw [hp2]
      · have e : s2.arms = [(af, kp')] := e
        rw [ha2] at e
        cases e
        have e1 : n ≤ s2.cnt + 1 := e1
        rw [hc2] at e1
        have hokL : St.Ok { fnA s2 with ops := s2.ops + 1, arms := [], cnt := 0 } := ⟨hk3.pos, hk3.max, hk3.len, hk3.byte, hk3.out, hk3.clen, hk3.cbyte, hk3.few, hk3.flp, hk3.opsm⟩
        refine ⟨Lost.ok hokL hL, hL.n.trans hs2n, .inl ⟨by omega, e2, hL.off, .inl ?_⟩⟩
        refine (lost_none (t := { fnA s2 with ops := s2.ops + 1, arms := [], cnt := 0 }) hokL.len (fun i => ?_) hL).trans hb2
        show (fnA s2).past i = []
        rw [hp2]
end
end Go.Proofs.Ytcpmofdhljdkdaa
namespace Go.Proofs.Ytcpmofdhljdkdaa
open Go.RowKit Go.Shelf
set_option linter.unusedVariables false

/-- A pointer to what is no device, or one that is off, in every world that keeps w. -/
def BadD (w : World) (p : Value) (c : Int) : Prop := c ≠ 0 ∧ ∀ W, Below w.heap.size w W → Calls Try.prog 40 #[p] W fun e w' => e = .returned (.int .i64 c) ∧ w' = W
theorem BadD.below {w W : World} {p : Value} {c : Int} (h : BadD w p c) (hB : Below w.heap.size w W) : BadD W p c := ⟨h.1, fun W' hB' => h.2 W' (hB.trans (hB'.mono hB.size))⟩
theorem BadD.of_none {w : World} {p : Option Addr} (h : ∀ W, Below w.heap.size w W → Calls Try.prog 39 #[.pointer p] W fun e w' => e = .returned (.bool true) ∧ w' = W) : BadD w (.pointer p) 1 := ⟨by omega, fun W hB => by
  have KN := hide (h W hB)
  clear h hB
  go_enter Try.func40, Try.ntmps40
  go_wp2_with (go_at_call 39; refine (KN.out).mono ?_; rintro e w' ⟨rfl, hw⟩; obtain rfl := hw.symm)
  go_ret
  exact ⟨rfl, rfl⟩⟩
theorem BadD.nil (w : World) : BadD w (.pointer none) 1 := BadD.of_none fun W _ => by
  go_enter Try.func39, Try.ntmps39
  go_wp2
  go_ret
  exact ⟨rfl, rfl⟩
theorem neq_nilQ (a : Addr) (w : World) : (binOp .neq 22 (.pointer none) (.pointer (some a))).run Try.prog w = .ok (.bool true) w := by
  have h : ∀ d : Nat, (Op.equalIn (d + 1) 22 (.pointer none) (.pointer (some a))).run Try.prog w = .ok false w := fun d => by
    simp [Op.equalIn, run_underlying Try.underlying22]
  simp only [binOp]
  simp [Op.equal, Op.maxDepth, h 9999]
theorem BadD.zero {w : World} {b : Nat} {c1 c2 c3 c4 c5 c6 c7 : Value} (h : w.heap[b]? = some (.cells #[.pointer none, c1, c2, c3, c4, c5, c6, c7] 42 (0, 0))) : BadD w (.pointer (some ⟨b, 0, none⟩)) 1 := BadD.of_none fun W hB => by
  have c0 : W.cell? ⟨b, 0, none⟩ = some (.pointer none) := cell8 ((hB.block b (lt_of_heap h)).trans h) 0
  have hq := neq_nilQ ⟨b, 0, none⟩ W
  clear h hB
  go_enter Try.func39, Try.ntmps39
  go_wp2
  go_ret
  exact ⟨rfl, rfl⟩
theorem BadD.off {w : World} {b : Nat} {L : Lay} {σ : St} (h : DevL w b L σ) (ho : σ.off = true) : BadD w (.pointer (some ⟨b, 0, none⟩)) 5 := ⟨by omega, fun W hB => by
  have ks := pstate_any (h.below hB)
  rw [ho] at ks
  simp only [if_true] at ks
  exact ks⟩
section
variable {w : World} {p : Option Addr} {c : Int}
theorem bad_load (h : BadD w (.pointer p) c) (x y : Int) : Calls Try.prog 22 #[.pointer p, .int .i64 x, .int .i64 y] w fun e w' => e = .returned (.tuple #[.slice none 0 0, .int .i64 c]) ∧ Below w.heap.size w w' := by
  have hA : Below w.heap.size w ((w.alloc (.cells #[.pointer p] 22)).alloc (.cells #[.int .i64 x] 3)) := ((Below.refl _ w).alloc (Nat.le_refl _) _).alloc (by simp) _
  have KS := hide (h.2 _ hA)
  have HA := hide hA
  have hc : (c != 0) = true := by simpa using h.1
  clear h hA
  refine (callsIn_wide (n := 3)).1 ?_
  refine callsIn_of_wp_marks Try.func22 rfl trivial ?_ rfl
  simp only [Try.ntmps22, List.size_toArray, List.length_cons, List.length_nil, Nat.reduceAdd, Nat.reduceSub, Array.replicate_succ, Array.replicate_zero, List.push_toArray, List.append_toArray, List.nil_append, List.cons_append]
  gi_wp2_with (refine ⟨trivial, ?_⟩; gi_at_call 40; refine (inW KS.out).mono ?_; rintro e w' ⟨rfl, hw⟩; obtain rfl := hw)
  exact ⟨_, results_tmp2 rfl _ _ _, rfl, HA.out⟩
theorem bad_turn (h : BadD w (.pointer p) c) (x y : Int) (sl : Value) (W : World) (hB : Below w.heap.size w W) : Calls Try.prog 33 #[.agg #[.pointer p, .int .i64 x, .int .i64 y], sl] W fun e w' => e = .returned (.int .i64 c) ∧ Below W.heap.size W w' :=
  qturn_early (.pointer p) c x y sl (fun W' hB' => (bad_load (h.below (hB.trans (hB'.mono hB.size))) 0 0).mono (fun e w' ⟨h1, h2⟩ => ⟨_, h1, h2⟩)) (.inl h.1)
theorem bad_bytes (h : BadD w (.pointer p) c) (x : Int) (a : Option Addr) (n cap : Nat) : Calls Try.prog 10 #[.pointer p, .int .i64 x, .slice a n cap] w fun e w' => e = .returned (.int .i64 c) ∧ Below w.heap.size w w' := by
  have KT := hide (fun sl W hB => bad_turn h x (n : Int) sl W hB)
  clear h
  go_enter Try.func10, Try.ntmps10
  go_wp2_with (go_at_call 33; refine (KT.out _ _ ?hb).mono ?_; (case hb => exact ((Below.refl _ w).alloc (Nat.le_refl _) _).alloc (by simp) _); rintro e W1 ⟨rfl, hb1⟩; have HB1 := hide hb1; clear hb1)
  go_ret
  exact ⟨rfl, (((Below.refl _ w).alloc (Nat.le_refl _) _).alloc (by simp) _).trans (HB1.out.mono (by simp; omega))⟩
theorem bad_range (h : BadD w (.pointer p) c) (x y : Int) : Calls Try.prog 9 #[.pointer p, .int .i64 x, .int .i64 y] w fun e w' => e = .returned (.int .i64 c) ∧ Below w.heap.size w w' := by
  have KT := hide (fun sl W hB => bad_turn h x y sl W hB)
  clear h
  go_enter Try.func9, Try.ntmps9
  go_wp2_with (go_at_call 33; refine (KT.out _ _ ?hb).mono ?_; (case hb => exact ((Below.refl _ w).alloc (Nat.le_refl _) _).alloc (by simp) _); rintro e W1 ⟨rfl, hb1⟩; have HB1 := hide hb1; clear hb1)
  go_ret
  exact ⟨rfl, (((Below.refl _ w).alloc (Nat.le_refl _) _).alloc (by simp) _).trans (HB1.out.mono (by simp; omega))⟩
theorem bad_publish (h : BadD w (.pointer p) c) (x : Int) (v : Int) : Calls Try.prog 11 #[.pointer p, .int .i64 x, .int .u64 v] w fun e w' => e = .returned (.int .i64 c) ∧ Below w.heap.size w w' := by
  have KT := hide (fun sl W hB => bad_turn h x 8 sl W hB)
  clear h
  go_enter Try.func11, Try.ntmps11
  go_wp2_with (go_at_call 33; refine (KT.out _ _ ?hb).mono ?_; (case hb => exact ((Below.refl _ w).alloc (Nat.le_refl _) _).alloc (by simp) _); rintro e W1 ⟨rfl, hb1⟩; have HB1 := hide hb1; clear hb1)
  go_ret
  exact ⟨rfl, (((Below.refl _ w).alloc (Nat.le_refl _) _).alloc (by simp) _).trans (HB1.out.mono (by simp; omega))⟩
end

section
variable {w : World} {b : Nat} {L : Lay} {σ : St}
theorem no_turn (h : DevL w b L σ) (hok : σ.Ok) (ho : σ.off = false) (x y : Int) (hy : y < 1) (sl : Value) (W : World) (hB : Below w.heap.size w W) : Calls Try.prog 33 #[.agg #[.pointer (some ⟨b, 0, none⟩), .int .i64 x, .int .i64 y], sl] W fun e w' => e = .returned (.int .i64 0) ∧ Below W.heap.size W w' :=
  qturn_early (.pointer (some ⟨b, 0, none⟩)) 0 x y sl (fun W' hB' => (callsIn_wide.1 (pload_in (at_ := 0) (n := 0) (h.below (hB.trans (hB'.mono hB.size))) hok ho (by omega))).mono (fun e w' ⟨R, h1, _, _, h2⟩ => ⟨_, h1, h2⟩)) (.inr hy)
theorem no_range (h : DevL w b L σ) (hok : σ.Ok) (ho : σ.off = false) (x y : Int) (hy : y < 1) : Calls Try.prog 9 #[.pointer (some ⟨b, 0, none⟩), .int .i64 x, .int .i64 y] w fun e w' => e = .returned (.int .i64 0) ∧ Below w.heap.size w w' := by
  have KT := hide (fun sl W hB => no_turn h hok ho x y hy sl W hB)
  clear h hok ho hy
  go_enter Try.func9, Try.ntmps9
  go_wp2_with (go_at_call 33; refine (KT.out _ _ ?hb).mono ?_; (case hb => exact ((Below.refl _ w).alloc (Nat.le_refl _) _).alloc (by simp) _); rintro e W1 ⟨rfl, hb1⟩; have HB1 := hide hb1; clear hb1)
  go_ret
  exact ⟨rfl, (((Below.refl _ w).alloc (Nat.le_refl _) _).alloc (by simp) _).trans (HB1.out.mono (by simp; omega))⟩
theorem no_bytes (h : DevL w b L σ) (hok : σ.Ok) (ho : σ.off = false) (x : Int) (a : Option Addr) (cap : Nat) : Calls Try.prog 10 #[.pointer (some ⟨b, 0, none⟩), .int .i64 x, .slice a 0 cap] w fun e w' => e = .returned (.int .i64 0) ∧ Below w.heap.size w w' := by
  have KT := hide (fun sl W hB => no_turn h hok ho x 0 (by omega) sl W hB)
  clear h hok ho
  go_enter Try.func10, Try.ntmps10
  go_wp2_with (go_at_call 33; refine (KT.out _ _ ?hb).mono ?_; (case hb => exact ((Below.refl _ w).alloc (Nat.le_refl _) _).alloc (by simp) _); rintro e W1 ⟨rfl, hb1⟩; have HB1 := hide hb1; clear hb1)
  go_ret
  exact ⟨rfl, (((Below.refl _ w).alloc (Nat.le_refl _) _).alloc (by simp) _).trans (HB1.out.mono (by simp; omega))⟩
end
end Go.Proofs.Ytcpmofdhljdkdaa
namespace Go.Proofs.Ytcpmofdhljdkdaa
open Go.RowKit
set_option linter.unusedVariables false

theorem widthU32 (w : World) : Calls Try.prog 71 #[] w fun e w' => e = .returned (.int .i64 4) ∧ w' = w := by
  go_enter Try.func71, Try.ntmps71
  go_wp2
  refine wp_loop_rounds 5 ?_
  iterate 5 (rw [rounds_succ]; go_wp2)
  go_ret
  exact ⟨rfl, rfl⟩

set_option maxHeartbeats 400000 in
theorem putU32 (a : Option Addr) (cap v : Nat) (bs : List Nat) (w : World) (hg : Sl w a bs) (hl : bs.length ≤ 140737488355328) (hv : v < 4294967296) :
    Calls Try.prog 58 #[.slice a bs.length cap, .int .u32 v] w fun e w' => e = .returned (.slice (some ⟨w.heap.size, 0, none⟩) (bs.length + 4) (bs.length + 4)) ∧
      Below w.heap.size w w' ∧ OwnB w' w.heap.size (bs ++ leB 4 v) := by
  have hmk := run_make_row' (P := Try.prog) 52 5 (.int .u8 0) 1 Try.underlying52 Try.info5 rfl .i64 .i64 (bs.length + 4) (by omega) (by omega)
  have ec : ((bs.length + 4 : Nat) : Int) = (bs.length : Int) + 4 := by omega
  rw [ec] at hmk
  clear ec
  have hO := OwnB.made w (bs.length + 4)
  have hB : Below w.heap.size w (w.alloc (.cells (madeCells #[.int .u8 0] (bs.length + 4)) 5)) := (Below.refl _ _).alloc (Nat.le_refl _) _
  obtain ⟨w2, hcp, hO2, hB2⟩ := copy_run cap (bs.length + 4) w.heap.size (hg.below hB) hO (by omega)
  have HO2 : Hid (OwnB w2 w.heap.size (lay bs (leB 4 v) 0)) := by
    rw [lay_zero, leB_length]; rw [Nat.add_sub_cancel_left] at hO2; exact hO2
  have HB2 : Hid (Below w.heap.size w w2) := hB.trans hB2
  clear hO hB hO2 hB2 hg
  go_enter Try.func58, Try.ntmps58
  go_wp2_with (go_at_call 71; refine (widthU32 _).mono ?_; rintro e w' ⟨rfl, rfl⟩)
  go_loopw [6, 7] (fun r i wr => ∃ k R : Nat, k ≤ 4 ∧ i = .int .i64 ((bs.length + k : Nat) : Int) ∧ r = .int .u64 R ∧ R = v / 256 ^ k ∧ OwnB wr w'.heap.size (lay bs (leB 4 v) k) ∧ Below w'.heap.size w' wr)
    (fun _ i _ => bs.length + 4 - (intOf i).toNat)
  case atStart => exact ⟨0, v, by omega, rfl, rfl, by simp, HO2.out, HB2.out⟩
  case round =>
    obtain ⟨k, R, hk, rfl, rfl, hR, hOw, hBw⟩ := hrel
    have HR := hide hR
    have HOw := hide hOw
    have HBw := hide hBw
    by_cases hlt : k < 4
    · have hc := hOw.cell _ 0 (lay_get bs (leB 4 v) k (by rw [leB_length]; exact hlt))
      have hf := hOw.frozen (bs.length + k)
      have hlt2 : ((bs.length + k : Nat) : Int) < (bs.length : Int) + 4 := by omega
      have HQ : Hid (bs.length + k + 1 = bs.length + (k + 1)) := Nat.add_assoc _ _ _
      clear hR hOw hBw hmk hcp HO2 HB2
      generalize hq : bs.length + k = q at *
      have Hq := hide hq
      clear hq
      go_wp2
      go_roundw
      case rel =>
        have hx : (R : Int) % 256 = ((R % 256 : Nat) : Int) := by omega
        refine ⟨k + 1, R / 256, by omega, int_congr' (by have := HQ.out; omega), int_congr' (by omega), ?_, ?_, ?_⟩
        · rw [HR.out, Nat.div_div_eq_div_mul, Nat.pow_succ]
        · rw [hx]
          have h1 := HOw.out.set q (R % 256)
          have h2 := lay_set bs (leB 4 v) k (R % 256) (by rw [HR.out]; exact leB_get 4 v k hlt)
          rw [Hq.out] at h2
          rw [h2] at h1
          exact h1
        · exact HBw.out.setCell (Nat.le_refl _) _
      case measure => have := Hq.out; simp [intOf]; omega
    · have hk2 : k = 4 := by omega
      subst hk2
      have hlt2 : (bs.length : Int) + 4 ≤ ((bs.length + 4 : Nat) : Int) := by omega
      clear hR hOw hBw hmk hcp HO2 HB2
      go_wp2
      go_ret
      refine ⟨rfl, HBw.out, ?_⟩
      have h1 := HOw.out
      have h2 := lay_all bs (leB 4 v)
      rw [leB_length] at h2
      rw [h2] at h1
      exact h1

end Go.Proofs.Ytcpmofdhljdkdaa
namespace Go.Proofs.Ytcpmofdhljdkdaa
open Go.RowKit Go.Shelf
set_option linter.unusedVariables false

theorem qfbytes8 (x : Int) (v : Nat) (w : World) (hv : v < 256) : Calls Try.prog 30 #[.agg #[.int .i64 x], .int .u8 (v : Int)] w fun e w' => ∃ g, e = .returned (.slice (some ⟨g, 0, none⟩) 1 1) ∧ w.heap.size ≤ g ∧ OwnB w' g (leB 1 v) ∧ Below w.heap.size w w' := by
  have kp : ∀ W, Calls Try.prog 56 #[.slice none 0 0, .int .u8 (v : Int)] W fun e w' => e = .returned (.slice (some ⟨W.heap.size, 0, none⟩) 1 1) ∧ Below W.heap.size W w' ∧ OwnB w' W.heap.size (leB 1 v) := fun W => put8 none 0 v [] W (.inl rfl) (by simp) hv
  have KP := hide kp
  have hA : Below w.heap.size w (w.alloc (.cells #[.int .i64 x] 29)) := (Below.refl _ w).alloc (Nat.le_refl _) _
  have HA := hide hA
  clear kp hA
  go_enter Try.func30, Try.ntmps30
  go_wp2_with (go_at_call 56; refine (KP.out _).mono ?_; rintro e W1 ⟨rfl, hb1, ho1⟩; have HB1 := hide hb1; have HO1 := hide ho1; clear hb1 ho1)
  go_ret
  exact ⟨w.heap.size + 1, rfl, by omega, (by have h := HO1.out; rwa [World.size_alloc] at h), HA.out.trans (HB1.out.mono HA.out.size)⟩
set_option maxHeartbeats 400000 in
theorem qbfload8 {w : World} {p : Option Addr} {c : Int} (h : BadD w (.pointer p) c) (x : Int) : Calls Try.prog 7 #[.agg #[.int .i64 x], .pointer p] w fun e w' => e = .returned (.tuple #[.int .u8 0, .int .i64 c]) ∧ Below w.heap.size w w' := by
  have hA : Below w.heap.size w (w.alloc (.cells #[.int .i64 x] 29)) := (Below.refl _ w).alloc (Nat.le_refl _) _
  have mk : ∀ X, Below (w.alloc (.cells #[.int .i64 x] 29)).heap.size (w.alloc (.cells #[.int .i64 x] 29)) X → Below (w.alloc (.cells #[.int .i64 x] 29)).heap.size (w.alloc (.cells #[.int .i64 x] 29)) X ∧ X.cell? ⟨w.heap.size, 0, none⟩ = some (.int .i64 x) := fun X hX => ⟨hX, cell8 ((hX.block _ (by simp)).trans (heap_alloc_new w _)) 0⟩
  have HA := hide hA
  have MK := hide mk
  clear hA mk
  have HBAD := hide h
  have hc : (c != 0) = true := by simpa using h.1
  clear h
  go_enter Try.func7, Try.ntmps7
  go_wp2_with (fail)
  refine wp_region_held_drew (S := fun X => Below (w.alloc (.cells #[.int .i64 x] 29)).heap.size (w.alloc (.cells #[.int .i64 x] 29)) X ∧ X.cell? ⟨w.heap.size, 0, none⟩ = some (.int .i64 x)) (by kernel_rfl) (MK.out _ (Below.refl _ _).drew) (fun hS => ?_)
  refine wpAnyH_take (i := 0) (v := (.pointer p)) rfl (by kernel_rfl) (by kernel_rfl) (by kernel_rfl) (fun _ _ _ h => h) (Or.inl ⟨by kernel_rfl, fun w' hw => by (go_simp)⟩) hS ?_
  refine wpAnyH_take (i := 1) (v := (.pointer (some ⟨w.heap.size, 0, none⟩))) rfl (by kernel_rfl) (by kernel_rfl) (by kernel_rfl) (fun _ _ _ h => h) (Or.inl ⟨by kernel_rfl, fun w' hw => by (go_simp)⟩) hS ?_
  refine wpAnyH_take (i := 2) (v := (.int .i64 x)) rfl (by kernel_rfl) (by kernel_rfl) (by kernel_rfl) (fun _ _ _ h => h) (Or.inl ⟨by kernel_rfl, fun w' hw => by (obtain ⟨_, z0⟩ := hw; go_simp)⟩) hS ?_
  refine wpAnyH_take (i := 3) (v := (.agg #[.int .i64 x])) rfl (by kernel_rfl) (by kernel_rfl) (by kernel_rfl) (fun _ _ _ h => h) (Or.inl ⟨by kernel_rfl, fun w' hw => by (obtain ⟨_, z0⟩ := hw; go_simp)⟩) hS ?_
  refine wpAnyH_ready (rs := [4]) (by kernel_rfl) (by simp) ?_
  refine AllReadyH.cons rfl (fun K hK => ?_) AllReadyH.nil
  rw [if_pos (by kernel_rfl)]
  go_simp
  go_wp2_with (go_at_call 30; refine (qfbytes8 x 0 _ (by omega)).mono ?_; rintro e W3 ⟨g, rfl, _, _, hb3⟩)
  have hw3 := bseq (Below.refl _ (w.alloc (.cells #[.int .i64 x] 29))).drew hb3
  refine hK.out _ _ (MK.out _ hw3) (fun hS2 => ?_)
  clear hK K hb3
  refine wpAnyH_take (i := 5) (v := (.int .i64 1)) rfl (by kernel_rfl) (by kernel_rfl) (by kernel_rfl) (fun _ _ _ h => h) (Or.inl ⟨by kernel_rfl, fun w' hw => by (go_simp)⟩) hS2 ?_
  refine wpAnyH_ready (rs := [6]) (by kernel_rfl) (by simp) ?_
  refine AllReadyH.cons rfl (fun K hK => ?_) AllReadyH.nil
  rw [if_pos (by kernel_rfl)]
  go_simp
  go_wp2_with (go_at_call 22; refine (bad_load (HBAD.out.below (HA.out.trans (hw3.mono HA.out.size))) x 1).mono ?_; rintro e W4 ⟨rfl, hb4⟩)
  have hw4 := bseq hw3 hb4
  refine hK.out _ _ (MK.out _ hw4) (fun hS3 => ?_)
  clear hK K hb4
  refine wpAnyH_take (i := 7) (v := (.tuple #[(.slice none 0 0), .int .i64 c])) rfl (by kernel_rfl) (by kernel_rfl) (by kernel_rfl) (fun _ _ _ h => h) (Or.inl ⟨by kernel_rfl, fun w' hw => by (go_simp)⟩) hS3 ?_
  refine wpAnyH_take (i := 8) (v := (.slice none 0 0)) rfl (by kernel_rfl) (by kernel_rfl) (by kernel_rfl) (fun _ _ _ h => h) (Or.inl ⟨by kernel_rfl, fun w' hw => by (go_simp)⟩) hS3 ?_
  refine wpAnyH_take (i := 9) (v := (.int .i64 c)) rfl (by kernel_rfl) (by kernel_rfl) (by kernel_rfl) (fun _ _ _ h => h) (Or.inl ⟨by kernel_rfl, fun w' hw => by (go_simp)⟩) hS3 ?_
  refine wpAnyH_take (i := 10) (v := (.slice none 0 0)) rfl (by kernel_rfl) (by kernel_rfl) (by kernel_rfl) (fun _ _ _ h => h) (Or.inl ⟨by kernel_rfl, fun w' hw => by (go_simp)⟩) hS3 ?_
  refine wpAnyH_take (i := 11) (v := (.int .i64 c)) rfl (by kernel_rfl) (by kernel_rfl) (by kernel_rfl) (fun _ _ _ h => h) (Or.inl ⟨by kernel_rfl, fun w' hw => by (go_simp)⟩) hS3 ?_
  refine wpAnyH_done (by kernel_rfl) ?_ _
  simp only [Act.put, List.getElem_toArray, List.getElem_cons_zero, List.getElem_cons_succ, List.setIfInBounds_toArray, List.set_cons_zero, List.set_cons_succ]
  have HW4 := hide (HA.out.trans (hw4.mono HA.out.size))
  clear hw3 hw4 hS hS2 hS3
  go_wp2_with (fail)
  go_ret2
  exact ⟨rfl, HW4.out⟩
set_option maxHeartbeats 400000 in
theorem qbfstore8 {w : World} {p : Option Addr} {c : Int} (h : BadD w (.pointer p) c) (x : Int) : Calls Try.prog 16 #[.agg #[.int .i64 x], .pointer p, .int .u8 1] w fun e w' => e = .returned (.int .i64 c) ∧ Below w.heap.size w w' := by
  have hA : Below w.heap.size w (w.alloc (.cells #[.int .i64 x] 29)) := (Below.refl _ w).alloc (Nat.le_refl _) _
  have mk : ∀ X, Below (w.alloc (.cells #[.int .i64 x] 29)).heap.size (w.alloc (.cells #[.int .i64 x] 29)) X → Below (w.alloc (.cells #[.int .i64 x] 29)).heap.size (w.alloc (.cells #[.int .i64 x] 29)) X ∧ X.cell? ⟨w.heap.size, 0, none⟩ = some (.int .i64 x) := fun X hX => ⟨hX, cell8 ((hX.block _ (by simp)).trans (heap_alloc_new w _)) 0⟩
  have HA := hide hA
  have MK := hide mk
  clear hA mk
  have HBAD := hide h
  have hc : (c != 0) = true := by simpa using h.1
  clear h
  go_enter Try.func16, Try.ntmps16
  go_wp2_with (fail)
  refine wp_region_held_drew (S := fun X => Below (w.alloc (.cells #[.int .i64 x] 29)).heap.size (w.alloc (.cells #[.int .i64 x] 29)) X ∧ X.cell? ⟨w.heap.size, 0, none⟩ = some (.int .i64 x)) (by kernel_rfl) (MK.out _ (Below.refl _ _).drew) (fun hS => ?_)
  refine wpAnyH_take (i := 0) (v := (.pointer p)) rfl (by kernel_rfl) (by kernel_rfl) (by kernel_rfl) (fun _ _ _ h => h) (Or.inl ⟨by kernel_rfl, fun w' hw => by (go_simp)⟩) hS ?_
  refine wpAnyH_take (i := 1) (v := (.pointer (some ⟨w.heap.size, 0, none⟩))) rfl (by kernel_rfl) (by kernel_rfl) (by kernel_rfl) (fun _ _ _ h => h) (Or.inl ⟨by kernel_rfl, fun w' hw => by (go_simp)⟩) hS ?_
  refine wpAnyH_take (i := 2) (v := (.int .i64 x)) rfl (by kernel_rfl) (by kernel_rfl) (by kernel_rfl) (fun _ _ _ h => h) (Or.inl ⟨by kernel_rfl, fun w' hw => by (obtain ⟨_, z0⟩ := hw; go_simp)⟩) hS ?_
  refine wpAnyH_take (i := 3) (v := (.agg #[.int .i64 x])) rfl (by kernel_rfl) (by kernel_rfl) (by kernel_rfl) (fun _ _ _ h => h) (Or.inl ⟨by kernel_rfl, fun w' hw => by (obtain ⟨_, z0⟩ := hw; go_simp)⟩) hS ?_
  refine wpAnyH_take (i := 4) (v := (.int .u8 1)) rfl (by kernel_rfl) (by kernel_rfl) (by kernel_rfl) (fun _ _ _ h => h) (Or.inl ⟨by kernel_rfl, fun w' hw => by (go_simp)⟩) hS ?_
  refine wpAnyH_ready (rs := [5]) (by kernel_rfl) (by simp) ?_
  refine AllReadyH.cons rfl (fun K hK => ?_) AllReadyH.nil
  rw [if_pos (by kernel_rfl)]
  go_simp
  go_wp2_with (go_at_call 30; refine (qfbytes8 x 1 _ (by omega)).mono ?_; rintro e W3 ⟨g, rfl, _, _, hb3⟩)
  have hw3 := bseq (Below.refl _ (w.alloc (.cells #[.int .i64 x] 29))).drew hb3
  refine hK.out _ _ (MK.out _ hw3) (fun hS2 => ?_)
  clear hK K hb3
  refine wpAnyH_ready (rs := [6]) (by kernel_rfl) (by simp) ?_
  refine AllReadyH.cons rfl (fun K hK => ?_) AllReadyH.nil
  rw [if_pos (by kernel_rfl)]
  go_simp
  go_wp2_with (go_at_call 10; refine (bad_bytes (HBAD.out.below (HA.out.trans (hw3.mono HA.out.size))) x (some ⟨g, 0, none⟩) 1 1).mono ?_; rintro e W4 ⟨rfl, hb4⟩)
  have hw4 := bseq hw3 hb4
  refine hK.out _ _ (MK.out _ hw4) (fun hS3 => ?_)
  clear hK K hb4
  refine wpAnyH_take (i := 7) (v := (.int .i64 c)) rfl (by kernel_rfl) (by kernel_rfl) (by kernel_rfl) (fun _ _ _ h => h) (Or.inl ⟨by kernel_rfl, fun w' hw => by (go_simp)⟩) hS3 ?_
  refine wpAnyH_done (by kernel_rfl) ?_ _
  simp only [Act.put, List.getElem_toArray, List.getElem_cons_zero, List.getElem_cons_succ, List.setIfInBounds_toArray, List.set_cons_zero, List.set_cons_succ]
  have HW4 := hide (HA.out.trans (hw4.mono HA.out.size))
  clear hw3 hw4 hS hS2 hS3
  go_wp2_with (fail)
  go_ret
  exact ⟨rfl, HW4.out⟩
theorem qfbytes16 (x : Int) (v : Nat) (w : World) (hv : v < 65536) : Calls Try.prog 67 #[.agg #[.int .i64 x], .int .u16 (v : Int)] w fun e w' => ∃ g, e = .returned (.slice (some ⟨g, 0, none⟩) 2 2) ∧ w.heap.size ≤ g ∧ OwnB w' g (leB 2 v) ∧ Below w.heap.size w w' := by
  have kp : ∀ W, Calls Try.prog 76 #[.slice none 0 0, .int .u16 (v : Int)] W fun e w' => e = .returned (.slice (some ⟨W.heap.size, 0, none⟩) 2 2) ∧ Below W.heap.size W w' ∧ OwnB w' W.heap.size (leB 2 v) := fun W => put16 none 0 v [] W (.inl rfl) (by simp) hv
  have KP := hide kp
  have hA : Below w.heap.size w (w.alloc (.cells #[.int .i64 x] 93)) := (Below.refl _ w).alloc (Nat.le_refl _) _
  have HA := hide hA
  clear kp hA
  go_enter Try.func67, Try.ntmps67
  go_wp2_with (go_at_call 76; refine (KP.out _).mono ?_; rintro e W1 ⟨rfl, hb1, ho1⟩; have HB1 := hide hb1; have HO1 := hide ho1; clear hb1 ho1)
  go_ret
  exact ⟨w.heap.size + 1, rfl, by omega, (by have h := HO1.out; rwa [World.size_alloc] at h), HA.out.trans (HB1.out.mono HA.out.size)⟩
set_option maxHeartbeats 400000 in
theorem qbfload16 {w : World} {p : Option Addr} {c : Int} (h : BadD w (.pointer p) c) (x : Int) : Calls Try.prog 45 #[.agg #[.int .i64 x], .pointer p] w fun e w' => e = .returned (.tuple #[.int .u16 0, .int .i64 c]) ∧ Below w.heap.size w w' := by
  have hA : Below w.heap.size w (w.alloc (.cells #[.int .i64 x] 93)) := (Below.refl _ w).alloc (Nat.le_refl _) _
  have mk : ∀ X, Below (w.alloc (.cells #[.int .i64 x] 93)).heap.size (w.alloc (.cells #[.int .i64 x] 93)) X → Below (w.alloc (.cells #[.int .i64 x] 93)).heap.size (w.alloc (.cells #[.int .i64 x] 93)) X ∧ X.cell? ⟨w.heap.size, 0, none⟩ = some (.int .i64 x) := fun X hX => ⟨hX, cell8 ((hX.block _ (by simp)).trans (heap_alloc_new w _)) 0⟩
  have HA := hide hA
  have MK := hide mk
  clear hA mk
  have HBAD := hide h
  have hc : (c != 0) = true := by simpa using h.1
  clear h
  go_enter Try.func45, Try.ntmps45
  go_wp2_with (fail)
  refine wp_region_held_drew (S := fun X => Below (w.alloc (.cells #[.int .i64 x] 93)).heap.size (w.alloc (.cells #[.int .i64 x] 93)) X ∧ X.cell? ⟨w.heap.size, 0, none⟩ = some (.int .i64 x)) (by kernel_rfl) (MK.out _ (Below.refl _ _).drew) (fun hS => ?_)
  refine wpAnyH_take (i := 0) (v := (.pointer p)) rfl (by kernel_rfl) (by kernel_rfl) (by kernel_rfl) (fun _ _ _ h => h) (Or.inl ⟨by kernel_rfl, fun w' hw => by (go_simp)⟩) hS ?_
  refine wpAnyH_take (i := 1) (v := (.pointer (some ⟨w.heap.size, 0, none⟩))) rfl (by kernel_rfl) (by kernel_rfl) (by kernel_rfl) (fun _ _ _ h => h) (Or.inl ⟨by kernel_rfl, fun w' hw => by (go_simp)⟩) hS ?_
  refine wpAnyH_take (i := 2) (v := (.int .i64 x)) rfl (by kernel_rfl) (by kernel_rfl) (by kernel_rfl) (fun _ _ _ h => h) (Or.inl ⟨by kernel_rfl, fun w' hw => by (obtain ⟨_, z0⟩ := hw; go_simp)⟩) hS ?_
  refine wpAnyH_take (i := 3) (v := (.agg #[.int .i64 x])) rfl (by kernel_rfl) (by kernel_rfl) (by kernel_rfl) (fun _ _ _ h => h) (Or.inl ⟨by kernel_rfl, fun w' hw => by (obtain ⟨_, z0⟩ := hw; go_simp)⟩) hS ?_
  refine wpAnyH_ready (rs := [4]) (by kernel_rfl) (by simp) ?_
  refine AllReadyH.cons rfl (fun K hK => ?_) AllReadyH.nil
  rw [if_pos (by kernel_rfl)]
  go_simp
  go_wp2_with (go_at_call 67; refine (qfbytes16 x 0 _ (by omega)).mono ?_; rintro e W3 ⟨g, rfl, _, _, hb3⟩)
  have hw3 := bseq (Below.refl _ (w.alloc (.cells #[.int .i64 x] 93))).drew hb3
  refine hK.out _ _ (MK.out _ hw3) (fun hS2 => ?_)
  clear hK K hb3
  refine wpAnyH_take (i := 5) (v := (.int .i64 2)) rfl (by kernel_rfl) (by kernel_rfl) (by kernel_rfl) (fun _ _ _ h => h) (Or.inl ⟨by kernel_rfl, fun w' hw => by (go_simp)⟩) hS2 ?_
  refine wpAnyH_ready (rs := [6]) (by kernel_rfl) (by simp) ?_
  refine AllReadyH.cons rfl (fun K hK => ?_) AllReadyH.nil
  rw [if_pos (by kernel_rfl)]
  go_simp
  go_wp2_with (go_at_call 22; refine (bad_load (HBAD.out.below (HA.out.trans (hw3.mono HA.out.size))) x 2).mono ?_; rintro e W4 ⟨rfl, hb4⟩)
  have hw4 := bseq hw3 hb4
  refine hK.out _ _ (MK.out _ hw4) (fun hS3 => ?_)
  clear hK K hb4
  refine wpAnyH_take (i := 7) (v := (.tuple #[(.slice none 0 0), .int .i64 c])) rfl (by kernel_rfl) (by kernel_rfl) (by kernel_rfl) (fun _ _ _ h => h) (Or.inl ⟨by kernel_rfl, fun w' hw => by (go_simp)⟩) hS3 ?_
  refine wpAnyH_take (i := 8) (v := (.slice none 0 0)) rfl (by kernel_rfl) (by kernel_rfl) (by kernel_rfl) (fun _ _ _ h => h) (Or.inl ⟨by kernel_rfl, fun w' hw => by (go_simp)⟩) hS3 ?_
  refine wpAnyH_take (i := 9) (v := (.int .i64 c)) rfl (by kernel_rfl) (by kernel_rfl) (by kernel_rfl) (fun _ _ _ h => h) (Or.inl ⟨by kernel_rfl, fun w' hw => by (go_simp)⟩) hS3 ?_
  refine wpAnyH_take (i := 10) (v := (.slice none 0 0)) rfl (by kernel_rfl) (by kernel_rfl) (by kernel_rfl) (fun _ _ _ h => h) (Or.inl ⟨by kernel_rfl, fun w' hw => by (go_simp)⟩) hS3 ?_
  refine wpAnyH_take (i := 11) (v := (.int .i64 c)) rfl (by kernel_rfl) (by kernel_rfl) (by kernel_rfl) (fun _ _ _ h => h) (Or.inl ⟨by kernel_rfl, fun w' hw => by (go_simp)⟩) hS3 ?_
  refine wpAnyH_done (by kernel_rfl) ?_ _
  simp only [Act.put, List.getElem_toArray, List.getElem_cons_zero, List.getElem_cons_succ, List.setIfInBounds_toArray, List.set_cons_zero, List.set_cons_succ]
  have HW4 := hide (HA.out.trans (hw4.mono HA.out.size))
  clear hw3 hw4 hS hS2 hS3
  go_wp2_with (fail)
  go_ret2
  exact ⟨rfl, HW4.out⟩
set_option maxHeartbeats 400000 in
theorem qfload16 {w : World} {p : Option Addr} (x : Int) (bs : List Nat) (hl : bs.length = 2) (hbs : ∀ y ∈ bs, y < 256) (kl : ∀ W, Below w.heap.size w W → Calls Try.prog 22 #[.pointer p, .int .i64 x, .int .i64 2] W fun e w' => ∃ R, e = .returned (.tuple #[.slice (some ⟨R, 0, none⟩) 2 2, .int .i64 0]) ∧ OwnB w' R bs ∧ Below W.heap.size W w') : Calls Try.prog 45 #[.agg #[.int .i64 x], .pointer p] w fun e w' => e = .returned (.tuple #[.int .u16 (leV bs : Nat), .int .i64 0]) ∧ Below w.heap.size w w' := by
  have hA : Below w.heap.size w (w.alloc (.cells #[.int .i64 x] 93)) := (Below.refl _ w).alloc (Nat.le_refl _) _
  have mk : ∀ X, Below (w.alloc (.cells #[.int .i64 x] 93)).heap.size (w.alloc (.cells #[.int .i64 x] 93)) X → Below (w.alloc (.cells #[.int .i64 x] 93)).heap.size (w.alloc (.cells #[.int .i64 x] 93)) X ∧ X.cell? ⟨w.heap.size, 0, none⟩ = some (.int .i64 x) := fun X hX => ⟨hX, cell8 ((hX.block _ (by simp)).trans (heap_alloc_new w _)) 0⟩
  have HA := hide hA
  have MK := hide mk
  clear hA mk
  have KL := hide kl
  have HLN := hide hl
  have HBS := hide hbs
  clear kl hl hbs
  go_enter Try.func45, Try.ntmps45
  go_wp2_with (fail)
  refine wp_region_held_drew (S := fun X => Below (w.alloc (.cells #[.int .i64 x] 93)).heap.size (w.alloc (.cells #[.int .i64 x] 93)) X ∧ X.cell? ⟨w.heap.size, 0, none⟩ = some (.int .i64 x)) (by kernel_rfl) (MK.out _ (Below.refl _ _).drew) (fun hS => ?_)
  refine wpAnyH_take (i := 0) (v := (.pointer p)) rfl (by kernel_rfl) (by kernel_rfl) (by kernel_rfl) (fun _ _ _ h => h) (Or.inl ⟨by kernel_rfl, fun w' hw => by (go_simp)⟩) hS ?_
  refine wpAnyH_take (i := 1) (v := (.pointer (some ⟨w.heap.size, 0, none⟩))) rfl (by kernel_rfl) (by kernel_rfl) (by kernel_rfl) (fun _ _ _ h => h) (Or.inl ⟨by kernel_rfl, fun w' hw => by (go_simp)⟩) hS ?_
  refine wpAnyH_take (i := 2) (v := (.int .i64 x)) rfl (by kernel_rfl) (by kernel_rfl) (by kernel_rfl) (fun _ _ _ h => h) (Or.inl ⟨by kernel_rfl, fun w' hw => by (obtain ⟨_, z0⟩ := hw; go_simp)⟩) hS ?_
  refine wpAnyH_take (i := 3) (v := (.agg #[.int .i64 x])) rfl (by kernel_rfl) (by kernel_rfl) (by kernel_rfl) (fun _ _ _ h => h) (Or.inl ⟨by kernel_rfl, fun w' hw => by (obtain ⟨_, z0⟩ := hw; go_simp)⟩) hS ?_
  refine wpAnyH_ready (rs := [4]) (by kernel_rfl) (by simp) ?_
  refine AllReadyH.cons rfl (fun K hK => ?_) AllReadyH.nil
  rw [if_pos (by kernel_rfl)]
  go_simp
  go_wp2_with (go_at_call 67; refine (qfbytes16 x 0 _ (by omega)).mono ?_; rintro e W3 ⟨g, rfl, _, _, hb3⟩)
  have hw3 := bseq (Below.refl _ (w.alloc (.cells #[.int .i64 x] 93))).drew hb3
  refine hK.out _ _ (MK.out _ hw3) (fun hS2 => ?_)
  clear hK K hb3
  refine wpAnyH_take (i := 5) (v := (.int .i64 2)) rfl (by kernel_rfl) (by kernel_rfl) (by kernel_rfl) (fun _ _ _ h => h) (Or.inl ⟨by kernel_rfl, fun w' hw => by (go_simp)⟩) hS2 ?_
  refine wpAnyH_ready (rs := [6]) (by kernel_rfl) (by simp) ?_
  refine AllReadyH.cons rfl (fun K hK => ?_) AllReadyH.nil
  rw [if_pos (by kernel_rfl)]
  go_simp
  go_wp2_with (go_at_call 22; refine (KL.out W3 (HA.out.trans (hw3.mono HA.out.size))).mono ?_; rintro e W4 ⟨R, rfl, hR, hb4⟩)
  have hw4 := bseq hw3 hb4
  refine hK.out _ _ (MK.out _ hw4) (fun hS3 => ?_)
  clear hK K hb4
  refine wpAnyH_take (i := 7) (v := (.tuple #[(.slice (some ⟨R, 0, none⟩) 2 2), .int .i64 0])) rfl (by kernel_rfl) (by kernel_rfl) (by kernel_rfl) (fun _ _ _ h => h) (Or.inl ⟨by kernel_rfl, fun w' hw => by (go_simp)⟩) hS3 ?_
  refine wpAnyH_take (i := 8) (v := (.slice (some ⟨R, 0, none⟩) 2 2)) rfl (by kernel_rfl) (by kernel_rfl) (by kernel_rfl) (fun _ _ _ h => h) (Or.inl ⟨by kernel_rfl, fun w' hw => by (go_simp)⟩) hS3 ?_
  refine wpAnyH_take (i := 9) (v := (.int .i64 0)) rfl (by kernel_rfl) (by kernel_rfl) (by kernel_rfl) (fun _ _ _ h => h) (Or.inl ⟨by kernel_rfl, fun w' hw => by (go_simp)⟩) hS3 ?_
  refine wpAnyH_take (i := 10) (v := (.slice (some ⟨R, 0, none⟩) 2 2)) rfl (by kernel_rfl) (by kernel_rfl) (by kernel_rfl) (fun _ _ _ h => h) (Or.inl ⟨by kernel_rfl, fun w' hw => by (go_simp)⟩) hS3 ?_
  refine wpAnyH_take (i := 11) (v := (.int .i64 0)) rfl (by kernel_rfl) (by kernel_rfl) (by kernel_rfl) (fun _ _ _ h => h) (Or.inl ⟨by kernel_rfl, fun w' hw => by (go_simp)⟩) hS3 ?_
  refine wpAnyH_done (by kernel_rfl) ?_ _
  simp only [Act.put, List.getElem_toArray, List.getElem_cons_zero, List.getElem_cons_succ, List.setIfInBounds_toArray, List.set_cons_zero, List.set_cons_succ]
  have HW4 := hide (HA.out.trans (hw4.mono HA.out.size))
  clear hw3 hw4 hS hS2 hS3
  have kt := take16_good (some ⟨R, 0, none⟩) 2 0 bs W4 (hR.sl HBS.out) (by rw [HLN.out]; unfold maxLen; omega) (by rw [HLN.out]; omega)
  rw [HLN.out, List.drop_zero, List.take_of_length_le (by rw [HLN.out]; omega)] at kt
  have KT := hide kt
  clear kt hR
  go_wp2_with (go_at_call 68; refine (KT.out).mono ?_; rintro e w1 ⟨rfl, hw⟩; obtain rfl := hw.symm)
  go_ret2
  exact ⟨rfl, HW4.out⟩
theorem qfbytes32 (x : Int) (v : Nat) (w : World) (hv : v < 4294967296) : Calls Try.prog 32 #[.agg #[.int .i64 x], .int .u32 (v : Int)] w fun e w' => ∃ g, e = .returned (.slice (some ⟨g, 0, none⟩) 4 4) ∧ w.heap.size ≤ g ∧ OwnB w' g (leB 4 v) ∧ Below w.heap.size w w' := by
  have kp : ∀ W, Calls Try.prog 58 #[.slice none 0 0, .int .u32 (v : Int)] W fun e w' => e = .returned (.slice (some ⟨W.heap.size, 0, none⟩) 4 4) ∧ Below W.heap.size W w' ∧ OwnB w' W.heap.size (leB 4 v) := fun W => putU32 none 0 v [] W (.inl rfl) (by simp) hv
  have KP := hide kp
  have hA : Below w.heap.size w (w.alloc (.cells #[.int .i64 x] 31)) := (Below.refl _ w).alloc (Nat.le_refl _) _
  have HA := hide hA
  clear kp hA
  go_enter Try.func32, Try.ntmps32
  go_wp2_with (go_at_call 58; refine (KP.out _).mono ?_; rintro e W1 ⟨rfl, hb1, ho1⟩; have HB1 := hide hb1; have HO1 := hide ho1; clear hb1 ho1)
  go_ret
  exact ⟨w.heap.size + 1, rfl, by omega, (by have h := HO1.out; rwa [World.size_alloc] at h), HA.out.trans (HB1.out.mono HA.out.size)⟩
set_option maxHeartbeats 400000 in
theorem qbfstore32 {w : World} {p : Option Addr} {c : Int} (h : BadD w (.pointer p) c) (x : Int) : Calls Try.prog 8 #[.agg #[.int .i64 x], .pointer p, .int .u32 1] w fun e w' => e = .returned (.int .i64 c) ∧ Below w.heap.size w w' := by
  have hA : Below w.heap.size w (w.alloc (.cells #[.int .i64 x] 31)) := (Below.refl _ w).alloc (Nat.le_refl _) _
  have mk : ∀ X, Below (w.alloc (.cells #[.int .i64 x] 31)).heap.size (w.alloc (.cells #[.int .i64 x] 31)) X → Below (w.alloc (.cells #[.int .i64 x] 31)).heap.size (w.alloc (.cells #[.int .i64 x] 31)) X ∧ X.cell? ⟨w.heap.size, 0, none⟩ = some (.int .i64 x) := fun X hX => ⟨hX, cell8 ((hX.block _ (by simp)).trans (heap_alloc_new w _)) 0⟩
  have HA := hide hA
  have MK := hide mk
  clear hA mk
  have HBAD := hide h
  have hc : (c != 0) = true := by simpa using h.1
  clear h
  go_enter Try.func8, Try.ntmps8
  go_wp2_with (fail)
  refine wp_region_held_drew (S := fun X => Below (w.alloc (.cells #[.int .i64 x] 31)).heap.size (w.alloc (.cells #[.int .i64 x] 31)) X ∧ X.cell? ⟨w.heap.size, 0, none⟩ = some (.int .i64 x)) (by kernel_rfl) (MK.out _ (Below.refl _ _).drew) (fun hS => ?_)
  refine wpAnyH_take (i := 0) (v := (.pointer p)) rfl (by kernel_rfl) (by kernel_rfl) (by kernel_rfl) (fun _ _ _ h => h) (Or.inl ⟨by kernel_rfl, fun w' hw => by (go_simp)⟩) hS ?_
  refine wpAnyH_take (i := 1) (v := (.pointer (some ⟨w.heap.size, 0, none⟩))) rfl (by kernel_rfl) (by kernel_rfl) (by kernel_rfl) (fun _ _ _ h => h) (Or.inl ⟨by kernel_rfl, fun w' hw => by (go_simp)⟩) hS ?_
  refine wpAnyH_take (i := 2) (v := (.int .i64 x)) rfl (by kernel_rfl) (by kernel_rfl) (by kernel_rfl) (fun _ _ _ h => h) (Or.inl ⟨by kernel_rfl, fun w' hw => by (obtain ⟨_, z0⟩ := hw; go_simp)⟩) hS ?_
  refine wpAnyH_take (i := 3) (v := (.agg #[.int .i64 x])) rfl (by kernel_rfl) (by kernel_rfl) (by kernel_rfl) (fun _ _ _ h => h) (Or.inl ⟨by kernel_rfl, fun w' hw => by (obtain ⟨_, z0⟩ := hw; go_simp)⟩) hS ?_
  refine wpAnyH_take (i := 4) (v := (.int .u32 1)) rfl (by kernel_rfl) (by kernel_rfl) (by kernel_rfl) (fun _ _ _ h => h) (Or.inl ⟨by kernel_rfl, fun w' hw => by (go_simp)⟩) hS ?_
  refine wpAnyH_ready (rs := [5]) (by kernel_rfl) (by simp) ?_
  refine AllReadyH.cons rfl (fun K hK => ?_) AllReadyH.nil
  rw [if_pos (by kernel_rfl)]
  go_simp
  go_wp2_with (go_at_call 32; refine (qfbytes32 x 1 _ (by omega)).mono ?_; rintro e W3 ⟨g, rfl, _, _, hb3⟩)
  have hw3 := bseq (Below.refl _ (w.alloc (.cells #[.int .i64 x] 31))).drew hb3
  refine hK.out _ _ (MK.out _ hw3) (fun hS2 => ?_)
  clear hK K hb3
  refine wpAnyH_ready (rs := [6]) (by kernel_rfl) (by simp) ?_
  refine AllReadyH.cons rfl (fun K hK => ?_) AllReadyH.nil
  rw [if_pos (by kernel_rfl)]
  go_simp
  go_wp2_with (go_at_call 10; refine (bad_bytes (HBAD.out.below (HA.out.trans (hw3.mono HA.out.size))) x (some ⟨g, 0, none⟩) 4 4).mono ?_; rintro e W4 ⟨rfl, hb4⟩)
  have hw4 := bseq hw3 hb4
  refine hK.out _ _ (MK.out _ hw4) (fun hS3 => ?_)
  clear hK K hb4
  refine wpAnyH_take (i := 7) (v := (.int .i64 c)) rfl (by kernel_rfl) (by kernel_rfl) (by kernel_rfl) (fun _ _ _ h => h) (Or.inl ⟨by kernel_rfl, fun w' hw => by (go_simp)⟩) hS3 ?_
  refine wpAnyH_done (by kernel_rfl) ?_ _
  simp only [Act.put, List.getElem_toArray, List.getElem_cons_zero, List.getElem_cons_succ, List.setIfInBounds_toArray, List.set_cons_zero, List.set_cons_succ]
  have HW4 := hide (HA.out.trans (hw4.mono HA.out.size))
  clear hw3 hw4 hS hS2 hS3
  go_wp2_with (fail)
  go_ret
  exact ⟨rfl, HW4.out⟩
theorem qfbytes64 (x : Int) (v : Nat) (w : World) (hv : v < 18446744073709551616) : Calls Try.prog 43 #[.agg #[.int .i64 x], .int .u64 (v : Int)] w fun e w' => ∃ g, e = .returned (.slice (some ⟨g, 0, none⟩) 8 8) ∧ w.heap.size ≤ g ∧ OwnB w' g (leB 8 v) ∧ Below w.heap.size w w' := by
  have kp : ∀ W, Calls Try.prog 65 #[.slice none 0 0, .int .u64 (v : Int)] W fun e w' => e = .returned (.slice (some ⟨W.heap.size, 0, none⟩) 8 8) ∧ Below W.heap.size W w' ∧ OwnB w' W.heap.size (leB 8 v) := fun W => put64 none 0 v [] W (.inl rfl) (by simp) hv
  have KP := hide kp
  have hA : Below w.heap.size w (w.alloc (.cells #[.int .i64 x] 47)) := (Below.refl _ w).alloc (Nat.le_refl _) _
  have HA := hide hA
  clear kp hA
  go_enter Try.func43, Try.ntmps43
  go_wp2_with (go_at_call 65; refine (KP.out _).mono ?_; rintro e W1 ⟨rfl, hb1, ho1⟩; have HB1 := hide hb1; have HO1 := hide ho1; clear hb1 ho1)
  go_ret
  exact ⟨w.heap.size + 1, rfl, by omega, (by have h := HO1.out; rwa [World.size_alloc] at h), HA.out.trans (HB1.out.mono HA.out.size)⟩
set_option maxHeartbeats 400000 in
theorem qbfload64 {w : World} {p : Option Addr} {c : Int} (h : BadD w (.pointer p) c) (x : Int) : Calls Try.prog 15 #[.agg #[.int .i64 x], .pointer p] w fun e w' => e = .returned (.tuple #[.int .u64 0, .int .i64 c]) ∧ Below w.heap.size w w' := by
  have hA : Below w.heap.size w (w.alloc (.cells #[.int .i64 x] 47)) := (Below.refl _ w).alloc (Nat.le_refl _) _
  have mk : ∀ X, Below (w.alloc (.cells #[.int .i64 x] 47)).heap.size (w.alloc (.cells #[.int .i64 x] 47)) X → Below (w.alloc (.cells #[.int .i64 x] 47)).heap.size (w.alloc (.cells #[.int .i64 x] 47)) X ∧ X.cell? ⟨w.heap.size, 0, none⟩ = some (.int .i64 x) := fun X hX => ⟨hX, cell8 ((hX.block _ (by simp)).trans (heap_alloc_new w _)) 0⟩
  have HA := hide hA
  have MK := hide mk
  clear hA mk
  have HBAD := hide h
  have hc : (c != 0) = true := by simpa using h.1
  clear h
  go_enter Try.func15, Try.ntmps15
  go_wp2_with (fail)
  refine wp_region_held_drew (S := fun X => Below (w.alloc (.cells #[.int .i64 x] 47)).heap.size (w.alloc (.cells #[.int .i64 x] 47)) X ∧ X.cell? ⟨w.heap.size, 0, none⟩ = some (.int .i64 x)) (by kernel_rfl) (MK.out _ (Below.refl _ _).drew) (fun hS => ?_)
  refine wpAnyH_take (i := 0) (v := (.pointer p)) rfl (by kernel_rfl) (by kernel_rfl) (by kernel_rfl) (fun _ _ _ h => h) (Or.inl ⟨by kernel_rfl, fun w' hw => by (go_simp)⟩) hS ?_
  refine wpAnyH_take (i := 1) (v := (.pointer (some ⟨w.heap.size, 0, none⟩))) rfl (by kernel_rfl) (by kernel_rfl) (by kernel_rfl) (fun _ _ _ h => h) (Or.inl ⟨by kernel_rfl, fun w' hw => by (go_simp)⟩) hS ?_
  refine wpAnyH_take (i := 2) (v := (.int .i64 x)) rfl (by kernel_rfl) (by kernel_rfl) (by kernel_rfl) (fun _ _ _ h => h) (Or.inl ⟨by kernel_rfl, fun w' hw => by (obtain ⟨_, z0⟩ := hw; go_simp)⟩) hS ?_
  refine wpAnyH_take (i := 3) (v := (.agg #[.int .i64 x])) rfl (by kernel_rfl) (by kernel_rfl) (by kernel_rfl) (fun _ _ _ h => h) (Or.inl ⟨by kernel_rfl, fun w' hw => by (obtain ⟨_, z0⟩ := hw; go_simp)⟩) hS ?_
  refine wpAnyH_ready (rs := [4]) (by kernel_rfl) (by simp) ?_
  refine AllReadyH.cons rfl (fun K hK => ?_) AllReadyH.nil
  rw [if_pos (by kernel_rfl)]
  go_simp
  go_wp2_with (go_at_call 43; refine (qfbytes64 x 0 _ (by omega)).mono ?_; rintro e W3 ⟨g, rfl, _, _, hb3⟩)
  have hw3 := bseq (Below.refl _ (w.alloc (.cells #[.int .i64 x] 47))).drew hb3
  refine hK.out _ _ (MK.out _ hw3) (fun hS2 => ?_)
  clear hK K hb3
  refine wpAnyH_take (i := 5) (v := (.int .i64 8)) rfl (by kernel_rfl) (by kernel_rfl) (by kernel_rfl) (fun _ _ _ h => h) (Or.inl ⟨by kernel_rfl, fun w' hw => by (go_simp)⟩) hS2 ?_
  refine wpAnyH_ready (rs := [6]) (by kernel_rfl) (by simp) ?_
  refine AllReadyH.cons rfl (fun K hK => ?_) AllReadyH.nil
  rw [if_pos (by kernel_rfl)]
  go_simp
  go_wp2_with (go_at_call 22; refine (bad_load (HBAD.out.below (HA.out.trans (hw3.mono HA.out.size))) x 8).mono ?_; rintro e W4 ⟨rfl, hb4⟩)
  have hw4 := bseq hw3 hb4
  refine hK.out _ _ (MK.out _ hw4) (fun hS3 => ?_)
  clear hK K hb4
  refine wpAnyH_take (i := 7) (v := (.tuple #[(.slice none 0 0), .int .i64 c])) rfl (by kernel_rfl) (by kernel_rfl) (by kernel_rfl) (fun _ _ _ h => h) (Or.inl ⟨by kernel_rfl, fun w' hw => by (go_simp)⟩) hS3 ?_
  refine wpAnyH_take (i := 8) (v := (.slice none 0 0)) rfl (by kernel_rfl) (by kernel_rfl) (by kernel_rfl) (fun _ _ _ h => h) (Or.inl ⟨by kernel_rfl, fun w' hw => by (go_simp)⟩) hS3 ?_
  refine wpAnyH_take (i := 9) (v := (.int .i64 c)) rfl (by kernel_rfl) (by kernel_rfl) (by kernel_rfl) (fun _ _ _ h => h) (Or.inl ⟨by kernel_rfl, fun w' hw => by (go_simp)⟩) hS3 ?_
  refine wpAnyH_take (i := 10) (v := (.slice none 0 0)) rfl (by kernel_rfl) (by kernel_rfl) (by kernel_rfl) (fun _ _ _ h => h) (Or.inl ⟨by kernel_rfl, fun w' hw => by (go_simp)⟩) hS3 ?_
  refine wpAnyH_take (i := 11) (v := (.int .i64 c)) rfl (by kernel_rfl) (by kernel_rfl) (by kernel_rfl) (fun _ _ _ h => h) (Or.inl ⟨by kernel_rfl, fun w' hw => by (go_simp)⟩) hS3 ?_
  refine wpAnyH_done (by kernel_rfl) ?_ _
  simp only [Act.put, List.getElem_toArray, List.getElem_cons_zero, List.getElem_cons_succ, List.setIfInBounds_toArray, List.set_cons_zero, List.set_cons_succ]
  have HW4 := hide (HA.out.trans (hw4.mono HA.out.size))
  clear hw3 hw4 hS hS2 hS3
  go_wp2_with (fail)
  go_ret2
  exact ⟨rfl, HW4.out⟩
set_option maxHeartbeats 400000 in
theorem qfload64 {w : World} {p : Option Addr} (x : Int) (bs : List Nat) (hl : bs.length = 8) (hbs : ∀ y ∈ bs, y < 256) (kl : ∀ W, Below w.heap.size w W → Calls Try.prog 22 #[.pointer p, .int .i64 x, .int .i64 8] W fun e w' => ∃ R, e = .returned (.tuple #[.slice (some ⟨R, 0, none⟩) 8 8, .int .i64 0]) ∧ OwnB w' R bs ∧ Below W.heap.size W w') : Calls Try.prog 15 #[.agg #[.int .i64 x], .pointer p] w fun e w' => e = .returned (.tuple #[.int .u64 (leV bs : Nat), .int .i64 0]) ∧ Below w.heap.size w w' := by
  have hA : Below w.heap.size w (w.alloc (.cells #[.int .i64 x] 47)) := (Below.refl _ w).alloc (Nat.le_refl _) _
  have mk : ∀ X, Below (w.alloc (.cells #[.int .i64 x] 47)).heap.size (w.alloc (.cells #[.int .i64 x] 47)) X → Below (w.alloc (.cells #[.int .i64 x] 47)).heap.size (w.alloc (.cells #[.int .i64 x] 47)) X ∧ X.cell? ⟨w.heap.size, 0, none⟩ = some (.int .i64 x) := fun X hX => ⟨hX, cell8 ((hX.block _ (by simp)).trans (heap_alloc_new w _)) 0⟩
  have HA := hide hA
  have MK := hide mk
  clear hA mk
  have KL := hide kl
  have HLN := hide hl
  have HBS := hide hbs
  clear kl hl hbs
  go_enter Try.func15, Try.ntmps15
  go_wp2_with (fail)
  refine wp_region_held_drew (S := fun X => Below (w.alloc (.cells #[.int .i64 x] 47)).heap.size (w.alloc (.cells #[.int .i64 x] 47)) X ∧ X.cell? ⟨w.heap.size, 0, none⟩ = some (.int .i64 x)) (by kernel_rfl) (MK.out _ (Below.refl _ _).drew) (fun hS => ?_)
  refine wpAnyH_take (i := 0) (v := (.pointer p)) rfl (by kernel_rfl) (by kernel_rfl) (by kernel_rfl) (fun _ _ _ h => h) (Or.inl ⟨by kernel_rfl, fun w' hw => by (go_simp)⟩) hS ?_
  refine wpAnyH_take (i := 1) (v := (.pointer (some ⟨w.heap.size, 0, none⟩))) rfl (by kernel_rfl) (by kernel_rfl) (by kernel_rfl) (fun _ _ _ h => h) (Or.inl ⟨by kernel_rfl, fun w' hw => by (go_simp)⟩) hS ?_
  refine wpAnyH_take (i := 2) (v := (.int .i64 x)) rfl (by kernel_rfl) (by kernel_rfl) (by kernel_rfl) (fun _ _ _ h => h) (Or.inl ⟨by kernel_rfl, fun w' hw => by (obtain ⟨_, z0⟩ := hw; go_simp)⟩) hS ?_
  refine wpAnyH_take (i := 3) (v := (.agg #[.int .i64 x])) rfl (by kernel_rfl) (by kernel_rfl) (by kernel_rfl) (fun _ _ _ h => h) (Or.inl ⟨by kernel_rfl, fun w' hw => by (obtain ⟨_, z0⟩ := hw; go_simp)⟩) hS ?_
  refine wpAnyH_ready (rs := [4]) (by kernel_rfl) (by simp) ?_
  refine AllReadyH.cons rfl (fun K hK => ?_) AllReadyH.nil
  rw [if_pos (by kernel_rfl)]
  go_simp
  go_wp2_with (go_at_call 43; refine (qfbytes64 x 0 _ (by omega)).mono ?_; rintro e W3 ⟨g, rfl, _, _, hb3⟩)
  have hw3 := bseq (Below.refl _ (w.alloc (.cells #[.int .i64 x] 47))).drew hb3
  refine hK.out _ _ (MK.out _ hw3) (fun hS2 => ?_)
  clear hK K hb3
  refine wpAnyH_take (i := 5) (v := (.int .i64 8)) rfl (by kernel_rfl) (by kernel_rfl) (by kernel_rfl) (fun _ _ _ h => h) (Or.inl ⟨by kernel_rfl, fun w' hw => by (go_simp)⟩) hS2 ?_
  refine wpAnyH_ready (rs := [6]) (by kernel_rfl) (by simp) ?_
  refine AllReadyH.cons rfl (fun K hK => ?_) AllReadyH.nil
  rw [if_pos (by kernel_rfl)]
  go_simp
  go_wp2_with (go_at_call 22; refine (KL.out W3 (HA.out.trans (hw3.mono HA.out.size))).mono ?_; rintro e W4 ⟨R, rfl, hR, hb4⟩)
  have hw4 := bseq hw3 hb4
  refine hK.out _ _ (MK.out _ hw4) (fun hS3 => ?_)
  clear hK K hb4
  refine wpAnyH_take (i := 7) (v := (.tuple #[(.slice (some ⟨R, 0, none⟩) 8 8), .int .i64 0])) rfl (by kernel_rfl) (by kernel_rfl) (by kernel_rfl) (fun _ _ _ h => h) (Or.inl ⟨by kernel_rfl, fun w' hw => by (go_simp)⟩) hS3 ?_
  refine wpAnyH_take (i := 8) (v := (.slice (some ⟨R, 0, none⟩) 8 8)) rfl (by kernel_rfl) (by kernel_rfl) (by kernel_rfl) (fun _ _ _ h => h) (Or.inl ⟨by kernel_rfl, fun w' hw => by (go_simp)⟩) hS3 ?_
  refine wpAnyH_take (i := 9) (v := (.int .i64 0)) rfl (by kernel_rfl) (by kernel_rfl) (by kernel_rfl) (fun _ _ _ h => h) (Or.inl ⟨by kernel_rfl, fun w' hw => by (go_simp)⟩) hS3 ?_
  refine wpAnyH_take (i := 10) (v := (.slice (some ⟨R, 0, none⟩) 8 8)) rfl (by kernel_rfl) (by kernel_rfl) (by kernel_rfl) (fun _ _ _ h => h) (Or.inl ⟨by kernel_rfl, fun w' hw => by (go_simp)⟩) hS3 ?_
  refine wpAnyH_take (i := 11) (v := (.int .i64 0)) rfl (by kernel_rfl) (by kernel_rfl) (by kernel_rfl) (fun _ _ _ h => h) (Or.inl ⟨by kernel_rfl, fun w' hw => by (go_simp)⟩) hS3 ?_
  refine wpAnyH_done (by kernel_rfl) ?_ _
  simp only [Act.put, List.getElem_toArray, List.getElem_cons_zero, List.getElem_cons_succ, List.setIfInBounds_toArray, List.set_cons_zero, List.set_cons_succ]
  have HW4 := hide (HA.out.trans (hw4.mono HA.out.size))
  clear hw3 hw4 hS hS2 hS3
  have kt := take64_good (some ⟨R, 0, none⟩) 8 0 bs W4 (hR.sl HBS.out) (by rw [HLN.out]; unfold maxLen; omega) (by rw [HLN.out]; omega)
  rw [HLN.out, List.drop_zero, List.take_of_length_le (by rw [HLN.out]; omega)] at kt
  have KT := hide kt
  clear kt hR
  go_wp2_with (go_at_call 44; refine (KT.out).mono ?_; rintro e w1 ⟨rfl, hw⟩; obtain rfl := hw.symm)
  go_ret2
  exact ⟨rfl, HW4.out⟩
end Go.Proofs.Ytcpmofdhljdkdaa
namespace Go.Proofs.Ytcpmofdhljdkdaa
open Go.RowKit Go.Shelf
set_option linter.unusedVariables false

theorem qbword {w : World} {p : Option Addr} {c : Int} (h : BadD w (.pointer p) c) (x : Int) : Calls Try.prog 6 #[.pointer p, .int .i64 x] w fun e w' => e = .returned (.tuple #[.int .u64 0, .int .i64 c]) ∧ Below w.heap.size w w' := by
  have hc : (c == 0) = false := by simpa using h.1
  have KL := hide (qbfload64 h x)
  clear h
  go_enter Try.func6, Try.ntmps6
  go_wp2_with (go_at_call 15; refine (KL.out).mono ?_; rintro e W1 ⟨rfl, hb1⟩; have HB1 := hide hb1; clear hb1)
  go_ret2
  exact ⟨rfl, HB1.out⟩
theorem qword {w : World} {p : Option Addr} (x : Int) (hx : x % 8 = 0) (hx0 : 0 ≤ x) (bs : List Nat) (hl : bs.length = 8) (hbs : ∀ y ∈ bs, y < 256) (kl : ∀ W, Below w.heap.size w W → Calls Try.prog 22 #[.pointer p, .int .i64 x, .int .i64 8] W fun e w' => ∃ R, e = .returned (.tuple #[.slice (some ⟨R, 0, none⟩) 8 8, .int .i64 0]) ∧ OwnB w' R bs ∧ Below W.heap.size W w') : Calls Try.prog 6 #[.pointer p, .int .i64 x] w fun e w' => e = .returned (.tuple #[.int .u64 (leV bs : Nat), .int .i64 0]) ∧ Below w.heap.size w w' := by
  have KL := hide (qfload64 x bs hl hbs kl)
  have tm : x.tmod 8 = 0 := by rw [Int.tmod_eq_emod_of_nonneg hx0]; exact hx
  clear kl
  go_enter Try.func6, Try.ntmps6
  go_wp2_with (go_at_call 15; refine (KL.out).mono ?_; rintro e W1 ⟨rfl, hb1⟩; have HB1 := hide hb1; clear hb1)
  go_ret2
  exact ⟨rfl, HB1.out⟩
/-- A device that was laid since w, and nothing else has changed. -/
structure AtQ (w W : World) (b : Nat) (L : Lay) (σ : St) : Prop where
  dev : DevL W b L σ
  ok : σ.Ok
  num : L.N ≤ σ.ops
  foot : ∀ k, Foot b L σ k → w.heap.size ≤ k
  bel : Below w.heap.size w W
theorem AtQ.step {w W W' : World} {b : Nat} {L L' : Lay} {σ σ' : St} (h : AtQ w W b L σ) (hd : DevL W' b L' σ') (hok : σ'.Ok) (hf : ∀ k, Foot b L' σ' k → Foot b L σ k ∨ W.heap.size ≤ k) {X : Nat → Prop} (hX : ∀ k, X k → Foot b L σ k) (hg : Gr X W W') (hN : L'.N ≤ σ'.ops) : AtQ w W' b L' σ' := by
  refine ⟨hd, hok, hN, fun k hk => ?_, hg.1.trans h.bel.os, hg.2.1.trans h.bel.tape, hg.2.2.1.trans h.bel.output, Nat.le_trans h.bel.size hg.size, fun k hk => (hg.block (Nat.lt_of_lt_of_le hk h.bel.size) (fun hx => by have := h.foot k (hX k hx); omega)).trans (h.bel.block k hk)⟩
  rcases hf k hk with h1 | h1
  · exact h.foot k h1
  · exact Nat.le_trans h.bel.size h1
theorem AtQ.below {w W W' : World} {b : Nat} {L : Lay} {σ : St} (h : AtQ w W b L σ) (hB : Below W.heap.size W W') : AtQ w W' b L σ := ⟨h.dev.below hB, h.ok, h.num, h.foot, h.bel.trans (hB.mono h.bel.size)⟩
theorem AtQ.atd {w W W' : World} {b : Nat} {L : Lay} {σ σ' : St} {m : Nat} (h : AtQ w W b L σ) (ha : Atd W b L σ W' σ' m) (hok : σ'.Ok) (hN : σ.ops + m ≤ σ'.ops) : ∃ L', AtQ w W' b L' σ' := by
  obtain ⟨hg, L', hd, hf, hn⟩ := ha
  exact ⟨L', h.step hd hok hf (fun k hk => hk) hg (by have := h.num; omega)⟩
/-- What stays as it is when bytes are made to last. -/
theorem bytes_like {bs : List Nat} {at_ : Nat} {σ : St} (hbs : ∀ x ∈ bs, x < 256) (hok : σ.Ok) (hlen : at_ + bs.length ≤ 64 * σ.n) (hops : σ.ops + 2000000 ≤ 274877906944) :
    (bytesDo bs at_ σ).Ok ∧ (bytesDo bs at_ σ).n = σ.n ∧ (bytesDo bs at_ σ).ops = σ.ops + (wordsOf at_ bs.length).length + (linesOf at_ bs.length).length + 1 ∧ (bytesDo bs at_ σ).arms = σ.arms ∧ (bytesDo bs at_ σ).off = σ.off := by
  have hm := hok.max
  have hwl := wordsOf_len (at_ := at_) (n := bs.length) (by omega)
  have hll := linesOf_len (at_ := at_) (n := bs.length) (by omega)
  have hlk := write_like (at_ := at_) hbs (wordsOf at_ bs.length) σ hok (wordsOf_lt hlen hm) (by omega)
  obtain ⟨j1, j2, j3, j4, j5, _⟩ := lines_like (linesOf at_ bs.length) (writeDo bs at_ σ (wordsOf at_ bs.length)) hlk.ok (by rw [hlk.ops]; omega)
  rw [hlk.ops] at j3
  exact ⟨fence_ok j1 (by rw [j3]; omega), j2.trans hlk.n, by show (linesDo _ _).ops + 1 = _; rw [j3], j4.trans hlk.arms, j5.trans hlk.off⟩
def ones : List Nat := [1, 1, 1, 1, 1, 1, 1, 1]
def q1 : St := bytesDo ones 60 (newD 2)
def q2 : St := bytesDo (leB 8 258) 8 q1
theorem wQ60 : wordsOf 60 8 = [7, 8] := by rw [wordsOf_eq 60 8 (by omega)]; rfl
theorem wQ8 : wordsOf 8 8 = [1] := by rw [wordsOf_eq 8 8 (by omega)]; rfl
theorem lQ60 : linesOf 60 8 = [0, 1] := by decide +kernel
theorem lQ8 : linesOf 8 8 = [0] := by decide +kernel
theorem ones_lt : ∀ x ∈ ones, x < 256 := by decide
theorem q1_like : q1.Ok ∧ q1.n = 2 ∧ q1.ops = 5 ∧ q1.arms = [] ∧ q1.off = false := by
  obtain ⟨h1, h2, h3, h4, h5⟩ := bytes_like (bs := ones) (at_ := 60) (σ := newD 2) ones_lt (newD_ok (by omega) (by omega)) (by decide) (by show 0 + 2000000 ≤ _; omega)
  have e : ones.length = 8 := rfl
  rw [e, wQ60, lQ60] at h3
  exact ⟨h1, h2, h3, h4, h5⟩
theorem q2_like : q2.Ok ∧ q2.n = 2 ∧ q2.ops = 8 ∧ q2.arms = [] ∧ q2.off = false := by
  obtain ⟨g1, g2, g3, g4, g5⟩ := q1_like
  obtain ⟨h1, h2, h3, h4, h5⟩ := bytes_like (bs := leB 8 258) (at_ := 8) (σ := q1) (leB_lt 8 258) g1 (by rw [leB_length, g2]; omega) (by rw [g3]; omega)
  rw [leB_length, wQ8, lQ8, g3] at h3
  exact ⟨h1, h2.trans g2, h3, h4.trans g4, h5.trans g5⟩
theorem q2_eq : q2 = fenceDo (flushDo (wordDo (leB 8 258) 8 (fenceDo (flushDo (flushDo (wordDo ones 60 (wordDo ones 60 (newD 2) 7) 8) 0) 1)) 1) 0) := by
  have e : ones.length = 8 := rfl
  unfold q2 q1 bytesDo
  rw [leB_length, e, wQ60, lQ60, wQ8, lQ8]
  rfl
def lineQ : List Nat := [0, 0, 0, 0, 0, 0, 0, 0, 2, 1, 0, 0, 0, 0, 0, 0, 0, 0, 0, 0, 0, 0, 0, 0, 0, 0, 0, 0, 0, 0, 0, 0, 0, 0, 0, 0, 0, 0, 0, 0, 0, 0, 0, 0, 0, 0, 0, 0, 0, 0, 0, 0, 0, 0, 0, 0, 0, 0, 0, 0, 1, 1, 1, 1]
theorem q2_lost : lost q2 [] 0 = lineQ := by
  rw [q2_eq]
  kernel_rfl
end Go.Proofs.Ytcpmofdhljdkdaa
namespace Go.Proofs.Ytcpmofdhljdkdaa
open Go.RowKit Go.Shelf
set_option linter.unusedVariables false

section
variable {w W : World} {b : Nat} {L : Lay}
theorem q_new : Calls Try.prog 12 #[.int .i64 128] w fun e W => ∃ b L, e = .returned (.tuple #[.pointer (some ⟨b, 0, none⟩), .int .i64 0]) ∧ AtQ w W b L (newD 2) := by
  refine (pnew_any w 2 (by omega) (by omega)).mono ?_
  rintro e W ⟨b, L, rfl, h1, h2, h3, h4⟩
  exact ⟨b, L, rfl, h1, newD_ok (by omega) (by omega), by rw [h4]; exact Nat.zero_le _, h2, h3⟩
theorem q_by (h : AtQ w W b L (newD 2)) : Calls Try.prog 10 #[.pointer (some ⟨b, 0, none⟩), .int .i64 60, .slice (some ⟨W.heap.size, 0, none⟩) 8 8] (W.alloc (.cells #[.int .u8 1, .int .u8 1, .int .u8 1, .int .u8 1, .int .u8 1, .int .u8 1, .int .u8 1, .int .u8 1] 5)) fun e W' => e = .returned (.int .i64 0) ∧ ∃ L', AtQ w W' b L' q1 := by
  have hA : Below W.heap.size W (W.alloc (.cells #[.int .u8 1, .int .u8 1, .int .u8 1, .int .u8 1, .int .u8 1, .int .u8 1, .int .u8 1, .int .u8 1] 5)) := (Below.refl _ W).alloc (Nat.le_refl _) _
  have ho : OwnB (W.alloc (.cells #[.int .u8 1, .int .u8 1, .int .u8 1, .int .u8 1, .int .u8 1, .int .u8 1, .int .u8 1, .int .u8 1] 5)) W.heap.size ones := heap_alloc_new W _
  have h' := h.below hA
  refine (qbytes_any (a := some ⟨W.heap.size, 0, none⟩) (bs := ones) 60 8 h'.dev h'.ok rfl h'.num rfl (by show 0 + 2000000 ≤ _; omega) (ho.sl ones_lt) (by decide) (by decide) (by decide) (fun ad he => ?_)).mono ?_
  · cases he
    exact ⟨ho.lt, fun hf => by have := h.dev.foot_is hf; simp at this⟩
  · rintro e W' ⟨rfl, ha⟩
    obtain ⟨h1, h2, h3, _⟩ := q1_like
    have e8 : ones.length = 8 := rfl
    exact ⟨rfl, h'.atd ha h1 (by rw [e8, wQ60, lQ60, h3]; show 0 + (2 + 2) ≤ 5; omega)⟩
theorem q_pub (h : AtQ w W b L q1) : Calls Try.prog 11 #[.pointer (some ⟨b, 0, none⟩), .int .i64 8, .int .u64 258] W fun e W' => e = .returned (.int .i64 0) ∧ ∃ L', AtQ w W' b L' q2 := by
  obtain ⟨g1, g2, g3, g4, g5⟩ := q1_like
  obtain ⟨h1, h2, h3, _⟩ := q2_like
  refine (qpub_any 258 8 h.dev h.ok g5 h.num g4 (by rw [g3]; omega) (by omega) (by omega) (by rw [g2]; omega)).mono ?_
  rintro e W' ⟨rfl, ha⟩
  exact ⟨rfl, h.atd ha h1 (by rw [wQ8, lQ8, h3, g3]; show 5 + (1 + 1) ≤ 8; omega)⟩
theorem q_cr (h : AtQ w W b L q2) : Calls Try.prog 14 #[.pointer (some ⟨b, 0, none⟩), .slice none 0 0] W fun e W' => e = .returned (.int .i64 0) ∧ ∃ L' σ', Lost q2 [] σ' ∧ AtQ w W' b L' σ' := by
  refine (pcrash_any (a := none) (kp := []) 0 h.dev h.ok q2_like.2.2.2.2 ⟨by simp, .inl ⟨rfl, rfl⟩⟩ (by simp)).mono ?_
  rintro e W' ⟨rfl, L', σ', h1, h2, h3, h4, h5⟩
  refine ⟨rfl, L', σ', h1, h.step h2 (Lost.ok h.ok h1) h3 (fun k hk => hk.elim (fun e => .inl e) (fun e => .inr (.inl e))) h4 ?_⟩
  have := h.num
  rw [h1.ops]
  omega
theorem q_wk {σ' : St} (h : AtQ w W b L σ') (ho : σ'.off = true) : Calls Try.prog 21 #[.pointer (some ⟨b, 0, none⟩)] W fun e W' => e = .returned (.int .i64 0) ∧ AtQ w W' b L { σ' with off := false } := by
  refine (pwake_off h.dev ho).mono ?_
  rintro e W' ⟨rfl, h1, h2⟩
  refine ⟨rfl, h.step h2 ⟨h.ok.pos, h.ok.max, h.ok.len, h.ok.byte, h.ok.out, h.ok.clen, h.ok.cbyte, h.ok.few, h.ok.flp, h.ok.opsm⟩ (fun k hk => .inl hk) (X := fun k => k = b) (fun k hk => .inl hk) ?_ h.num⟩
  rw [h1]
  exact Gr.set W b 7 _ rfl
theorem q_ld {σ' : St} (h : AtQ w W b L { σ' with off := false }) (hl : Lost q2 [] σ') (at_ n : Nat) (hn : at_ + n ≤ 64) (W2 : World) (hB : Below W.heap.size W W2) : Calls Try.prog 22 #[.pointer (some ⟨b, 0, none⟩), .int .i64 (at_ : Int), .int .i64 (n : Int)] W2 fun e W' => ∃ R, e = .returned (.tuple #[.slice (some ⟨R, 0, none⟩) n n, .int .i64 0]) ∧ OwnB W' R ((lineQ.drop at_).take n) ∧ Below W2.heap.size W2 W' := by
  have hn2 : σ'.n = 2 := by rw [hl.n]; exact q2_like.2.1
  refine (callsIn_wide.1 (pload_in (at_ := at_) (n := n) (h.dev.below hB) h.ok rfl (by show at_ + n ≤ 64 * σ'.n; rw [hn2]; omega))).mono ?_
  rintro e W' ⟨R, rfl, h1, h2, h3⟩
  refine ⟨R, rfl, ?_, h3⟩
  have hli := hl.lines 0 (by rw [q2_like.2.1]; omega)
  rw [q2_lost] at hli
  have hb : (σ'.bytes.drop at_).take n = (lineQ.drop at_).take n := by
    rw [← hli]
    unfold St.line
    refine List.ext_getElem? fun q => ?_
    rw [List.getElem?_take, List.getElem?_take, List.getElem?_drop, List.getElem?_drop, List.getElem?_take]
    split
    · rw [if_pos (by omega)]
      simp
    · rfl
  have h6 : W'.heap[R]? = some (.cells (((σ'.bytes.drop at_).take n).map B8).toArray 5 (0, 0)) := h2
  rw [hb] at h6
  exact h6
set_option maxRecDepth 100000 in
set_option maxHeartbeats 1000000 in
theorem qworks_any (w : World) : Calls Try.prog 17 #[] w fun e w' => e = .returned (.bool true) ∧ Below w.heap.size w w' := by
  have K0 := hide (q_new (w := w))
  have M1 := hide trivial
  go_enter Try.func17, Try.ntmps17
  go_wp2_with (first
    | (go_at_call 12; refine (K0.out).mono ?_; rintro e W0 ⟨b, L0, rfl, hA⟩; have K1 := hide (q_by hA); clear hA)
    | (go_at_call 10; refine (K1.out).mono ?_; rintro e W1 ⟨rfl, L1, hA⟩; have ko := pops_any hA.dev; rw [q1_like.2.2.1] at ko; have KO := hide ko; have K2 := hide (q_pub hA); clear hA ko)
    | (go_at_call 13; clear M1; refine (KO.out).mono ?_; rintro e w' ⟨rfl, hw⟩; obtain rfl := hw.symm)
    | (go_at_call 11; refine (K2.out).mono ?_; rintro e W2 ⟨rfl, L2, hA⟩; have K3 := hide (q_cr hA); clear hA)
    | (go_at_call 14; refine (K3.out).mono ?_; rintro e W3 ⟨rfl, L3, σ3, hl, hA⟩; have K4 := hide (q_wk hA hl.off); have HL := hide hl; clear hA hl)
    | (go_at_call 21; refine (K4.out).mono ?_; rintro e W4 ⟨rfl, hA⟩; have kw := qword (w := W4) (p := some ⟨b, 0, none⟩) 8 (by omega) (by omega) [2, 1, 0, 0, 0, 0, 0, 0] rfl (by decide) (fun X hX => q_ld hA HL.out 8 8 (by omega) X hX); have KW := hide kw; have HA4 := hide hA; clear hA kw)
    | (go_at_call 6; refine (KW.out).mono ?_; rintro e W5 ⟨rfl, hb5⟩; have hA5 := HA4.out.below hb5; have kf := qfload16 (w := W5) (p := some ⟨b, 0, none⟩) 9 [1, 0] rfl (by decide) (fun X hX => q_ld hA5 HL.out 9 2 (by omega) X hX); have KF := hide kf; have HA5 := hide hA5; clear hb5 hA5 kf)
    | (go_at_call 45; refine (KF.out).mono ?_; rintro e W6 ⟨rfl, hb6⟩; have hA6 := HA5.out.below hb6; have ko := pops_any hA6.dev; rw [show ({ σ3 with off := false } : St).ops = 8 from HL.out.ops.trans q2_like.2.2.1] at ko; have KO2 := hide ko; have HB6 := hide hA6.bel; clear hb6 hA6 ko)
    | (go_at_call 13; refine (KO2.out).mono ?_; rintro e w' ⟨rfl, hw⟩; obtain rfl := hw.symm))
  go_ret
  exact ⟨by simp, HB6.out⟩
end
end Go.Proofs.Ytcpmofdhljdkdaa
namespace Go.Proofs.Ytcpmofdhljdkdaa
open Go.RowKit
set_option linter.unusedVariables false

theorem within_eq (i n : Int) (hn : 0 < n) : (if i.tmod n < 0 then i.tmod n + n else i.tmod n) = i % n ∧ -n < i.tmod n ∧ i.tmod n < n := by
  have h1 := Int.mul_tdiv_add_tmod i n
  have h2 : i.tmod n < n := Int.tmod_lt_of_pos i hn
  have h3 : -n < i.tmod n := by
    have h := Int.lt_tmod_of_pos i hn
    omega
  have h4 : i % n = (i.tmod n) % n := by
    have h5 : i % n = (i.tmod n + n * i.tdiv n) % n := by rw [Int.add_comm, h1]
    rw [h5, Int.add_mul_emod_self_left]
  refine ⟨?_, h3, h2⟩
  rw [h4]
  split
  · rename_i h
    rw [← Int.add_emod_right, Int.emod_eq_of_lt (by omega) (by omega)]
  · rename_i h
    rw [Int.emod_eq_of_lt (by omega) h2]
end Go.Proofs.Ytcpmofdhljdkdaa
namespace Go.Proofs.Ytcpmofdhljdkdaa
open Go.RowKit
set_option linter.unusedVariables false

def bitStep (r : Nat) : Nat := if r % 2 = 1 then (r / 2) ^^^ 2197175160 else r / 2
def bitSteps : Nat → Nat → Nat
  | 0, r => r
  | n + 1, r => bitStep (bitSteps n r)
def byteStep (r x : Nat) : Nat := bitSteps 8 (r ^^^ x)
def runs (r : Nat) (bs : List Nat) : Nat := bs.foldl byteStep r
def moreV (s : Nat) (bs : List Nat) : Nat := 4294967295 ^^^ runs (4294967295 ^^^ s) bs

theorem bitStep_lt (r : Nat) (h : r < 4294967296) : bitStep r < 4294967296 := by
  unfold bitStep
  split
  · exact Nat.xor_lt_two_pow (n := 32) (by omega) (by omega)
  · omega
theorem bitSteps_lt (n r : Nat) (h : r < 4294967296) : bitSteps n r < 4294967296 := by
  induction n with
  | zero => exact h
  | succ n ih => exact bitStep_lt _ ih
theorem xor_lt32 (a b : Nat) (ha : a < 4294967296) (hb : b < 4294967296) : a ^^^ b < 4294967296 := Nat.xor_lt_two_pow (n := 32) ha hb
theorem byteStep_lt (r x : Nat) (h : r < 4294967296) (hx : x < 256) : byteStep r x < 4294967296 := bitSteps_lt 8 _ (xor_lt32 _ _ h (by omega))
theorem runs_snoc (r : Nat) (bs : List Nat) (x : Nat) : runs r (bs ++ [x]) = byteStep (runs r bs) x := by simp [runs]
theorem runs_append (r : Nat) (a b : List Nat) : runs r (a ++ b) = runs (runs r a) b := by simp [runs]
theorem runs_lt (r : Nat) (bs : List Nat) (h : r < 4294967296) (hb : ∀ x ∈ bs, x < 256) : runs r bs < 4294967296 := by
  induction bs generalizing r with
  | nil => exact h
  | cons x t ih => exact ih (byteStep r x) (byteStep_lt _ _ h (hb x (by simp))) (fun y hy => hb y (by simp [hy]))
theorem moreV_lt (s : Nat) (bs : List Nat) (h : s < 4294967296) (hb : ∀ x ∈ bs, x < 256) : moreV s bs < 4294967296 :=
  xor_lt32 _ _ (by omega) (runs_lt _ _ (xor_lt32 _ _ (by omega) h) hb)
theorem moreV_append (s : Nat) (a b : List Nat) : moreV s (a ++ b) = moreV (moreV s a) b := by
  unfold moreV
  rw [runs_append, ← Nat.xor_assoc, Nat.xor_self, Nat.zero_xor]
theorem moreV_nil (s : Nat) : moreV s [] = s := by
  unfold moreV runs
  rw [List.foldl_nil, ← Nat.xor_assoc, Nat.xor_self, Nat.zero_xor]

theorem step_eq (Q : Nat) (h : Q < 4294967296) :
    bits BinOp.xor IntKind.u32 ((Q : Int) / 2) (bits BinOp.and IntKind.u32 2197175160 (-bits BinOp.and IntKind.u32 (Q : Int) 1 % 4294967296)) = ((bitStep Q : Nat) : Int) := by
  have e1 : bits BinOp.and IntKind.u32 (Q : Int) 1 = ((Q % 2 : Nat) : Int) := by
    have := u32_and_nat Q 1 h (by omega)
    rw [Nat.and_one_is_mod] at this
    exact this
  rw [e1]
  have e2 : ((Q : Int) / 2) = ((Q / 2 : Nat) : Int) := by omega
  rw [e2]
  unfold bitStep
  rcases Nat.mod_two_eq_zero_or_one Q with h0 | h1
  · rw [h0, if_neg (by omega)]
    have e3 : bits BinOp.and IntKind.u32 2197175160 (-((0 : Nat) : Int) % 4294967296) = ((0 : Nat) : Int) := by
      have := u32_and_nat 2197175160 0 (by omega) (by omega)
      simpa using this
    rw [e3]
    have := u32_xor_nat (Q / 2) 0 (by omega) (by omega)
    simpa using this
  · rw [h1, if_pos rfl]
    have e3 : bits BinOp.and IntKind.u32 2197175160 (-((1 : Nat) : Int) % 4294967296) = ((2197175160 : Nat) : Int) := by
      have := u32_and_nat 2197175160 4294967295 (by omega) (by omega)
      have e4 : (2197175160 &&& 4294967295 : Nat) = 2197175160 := by decide
      rw [e4] at this
      exact this
    rw [e3]
    exact u32_xor_nat (Q / 2) 2197175160 (by omega) (by omega)

theorem inv_eq (s : Nat) (h : s < 4294967296) : bits BinOp.xor IntKind.u32 IntKind.u32.max (s : Int) = ((4294967295 ^^^ s : Nat) : Int) :=
  u32_xor_nat 4294967295 s (by omega) h
theorem mix_eq (r x : Nat) (h : r < 4294967296) (hx : x < 256) : bits BinOp.xor IntKind.u32 (r : Int) (x : Int) = ((r ^^^ x : Nat) : Int) :=
  u32_xor_nat r x h (by omega)
theorem int_congr {k : IntKind} {a b : Int} (h : a = b) : Value.int k a = Value.int k b := by rw [h]
theorem ret_int {k : IntKind} {a b : Int} (h : a = b) : Ending.returned (.int k a) = .returned (.int k b) := by rw [h]

def sumV (rs : List (List Nat)) : Nat := moreV 0 rs.flatten
theorem sumV_snoc (rs : List (List Nat)) (r : List Nat) : sumV (rs ++ [r]) = moreV (sumV rs) r := by
  unfold sumV
  rw [List.flatten_append, moreV_append]
  simp
theorem sumV_lt (rs : List (List Nat)) (h : ∀ r ∈ rs, ∀ x ∈ r, x < 256) : sumV rs < 4294967296 :=
  moreV_lt 0 _ (by omega) (fun x hx => by obtain ⟨r, hr, hxr⟩ := List.mem_flatten.1 hx; exact h r hr x hxr)

end Go.Proofs.Ytcpmofdhljdkdaa
namespace Go.Proofs.Ytcpmofdhljdkdaa
open Go.RowKit
set_option linter.unusedVariables false

theorem ownB_of_owns {W : World} {base g : Nat} {bs : List Nat} (h : W.ownsRow base 5 1 (.slice (some ⟨g, 0, none⟩) bs.length bs.length) bs.length (bs.map B8)) : OwnB W g bs := by
  rcases h.2 with ⟨h0, _⟩ | ⟨g', cap, cur, hv, _, hg, hn, _, hs, hc⟩
  · cases h0
  · cases hv
    have e : cur = (bs.map B8).toArray := by
      apply Array.ext'
      rw [← hc, List.take_of_length_le (by simp [hs])]
    rw [e] at hg
    exact hg

set_option maxHeartbeats 400000 in
theorem copyBytes_any (a : Option Addr) (cap : Nat) (bs : List Nat) (w : World) (hg : Sl w a bs) (hl : bs.length ≤ 140737488355328) :
    Calls Try.prog 20 #[.slice a bs.length cap] w fun e w' => e = .returned (.slice (some ⟨w.heap.size, 0, none⟩) bs.length bs.length) ∧ OwnB w' w.heap.size bs ∧ Below w.heap.size w w' := by
  obtain ⟨i0, hi, hz0, hz1, hz2⟩ := info_parts Try.info5
  have hmk : ∀ w, Sem.run Try.prog (Instr.makeSlice 52 (.int .i64 0) (.int .i64 (bs.length : Int))) w = .ok (.slice (some ⟨w.heap.size, 0, none⟩) 0 bs.length) (w.alloc (.cells (madeCells #[.int .u8 0] bs.length) 5)) := fun w => by
    have h := run_make (P := Try.prog) w 52 5 i0 (.int .u8 0) Try.underlying52 hi hz0 .i64 .i64 0 bs.length (by omega) (by omega) (by rw [hz2]; omega) (by omega)
    simp only [Int.toNat_zero, Int.toNat_natCast, hz1, Nat.mul_one] at h
    exact h
  have hO : (w.alloc (.cells (madeCells #[.int .u8 0] bs.length) 5)).ownsRow w.heap.size 5 1 (.slice (some ⟨w.heap.size, 0, none⟩) 0 bs.length) 0 [] :=
    World.ownsRow_made w _ bs.length (Nat.le_refl _) (by unfold maxLen; omega) (by simp [size_madeCells])
  have hB : Below w.heap.size w (w.alloc (.cells (madeCells #[.int .u8 0] bs.length) 5)) := (Below.refl _ _).alloc (Nat.le_refl _) _
  go_enter Try.func20, Try.ntmps20
  go_wp2
  clear hmk
  go_loopw [3, 4] (fun v i wr => ∃ k : Nat, k ≤ bs.length ∧ i = .int .i64 k ∧ v = .slice (some ⟨w.heap.size, 0, none⟩) k bs.length ∧ wr.ownsRow w.heap.size 5 1 (.slice (some ⟨w.heap.size, 0, none⟩) k bs.length) k ((bs.take k).map B8) ∧ Below w.heap.size w wr)
    (fun _ i _ => bs.length - (intOf i).toNat)
  case atStart => exact ⟨0, by omega, rfl, rfl, hO, hB⟩
  case round =>
    clear hO hB
    obtain ⟨k, hk, rfl, rfl, hown, hBr⟩ := hrel
    by_cases hlt : k < bs.length
    · obtain ⟨x, hx⟩ : ∃ x, bs[k]? = some x := ⟨_, List.getElem?_eq_getElem hlt⟩
      obtain ⟨b, off, rfl, hbl, hseg⟩ : ∃ b off, a = some ⟨b, off, none⟩ ∧ b < w.heap.size ∧ Seg w b off bs := by
        rcases hg with rfl | h
        · simp at hlt
        · exact h
      have hc : wr.cell? ⟨b, off + k, none⟩ = some (.int .u8 (x : Int)) := (hBr.cell (p := ⟨b, off + k, none⟩) hbl).trans (hseg k x hx).1
      have hki : (k : Int) < (bs.length : Int) := by omega
      have HX := hide hx
      have HB := hide hBr
      have hsz := hBr.size
      clear hx hseg hg hBr
      go_wp2_with (at_builtin; refine wpList_append_fits _ rfl _ _ 52 rfl w.heap.size 5 i0 1 Try.underlying52 hi hz1 w.heap.size k bs.length _ rfl (hown.alloc _) ⟨wr.heap.size, 0, none⟩ 1 1 [.int .u8 (x : Int)] rfl rfl (cell_one_new _ _ _) (by simp [Value.oneCell']) (by omega) ?_; intro w1 hown1 hgrow1)
      go_roundw
      case rel =>
        refine ⟨k + 1, by omega, by go_num, rfl, ?_, ?_⟩
        · rw [List.take_add_one, HX.out]
          simpa [B8] using hown1
        · exact (HB.out.alloc hsz _).grown hgrow1 (by simp; omega) (fun j e => by cases e; exact Nat.le_refl _)
      case measure => simp [intOf]; omega
    · have hkk : k = bs.length := by omega
      subst hkk
      have hki : (bs.length : Int) ≤ (bs.length : Int) := by omega
      have HB := hide hBr
      have HO := hide hown
      clear hBr hown hg
      go_wp2
      go_ret
      have h1 := HO.out
      rw [List.take_length] at h1
      exact ⟨rfl, ownB_of_owns h1, HB.out⟩
theorem eqBytes_len (a b : Option Addr) (n m c d : Nat) (w : World) (h : ((n : Int) != (m : Int)) = true) :
    Calls Try.prog 23 #[.slice a n c, .slice b m d] w fun e w' => e = .returned (.bool false) ∧ w' = w := by
  go_enter Try.func23, Try.ntmps23
  go_wp2
  go_ret
  exact ⟨rfl, rfl⟩

set_option maxHeartbeats 400000 in
theorem eqBytes_same (a b : Option Addr) (c d : Nat) (xs ys : List Nat) (w : World) (ha : Sl w a xs) (hb : Sl w b ys) (hl : xs.length = ys.length) (hm : xs.length ≤ 9223372036854775807) :
    Calls Try.prog 23 #[.slice a xs.length c, .slice b xs.length d] w fun e w' => e = .returned (.bool (decide (xs = ys))) ∧ ∃ n, w' = w.drewN n := by
  have HL := hide hl
  clear hl
  have hne : ((xs.length : Int) != (xs.length : Int)) = false := by simp
  go_enter Try.func23, Try.ntmps23
  go_wp2
  go_loopw [5] (fun i wr => ∃ k n : Nat, k ≤ xs.length ∧ i = .int .i64 k ∧ xs.take k = ys.take k ∧ wr = w.drewN n) (fun i _ => xs.length - (intOf i).toNat)
  case atStart => exact ⟨0, 0, by omega, rfl, rfl, rfl⟩
  case round =>
    obtain ⟨k, n, hk, rfl, htk, rfl⟩ := hrel
    have HT := hide htk
    clear htk
    by_cases hlt : k < xs.length
    · obtain ⟨x, hx⟩ : ∃ x, xs[k]? = some x := ⟨_, List.getElem?_eq_getElem hlt⟩
      obtain ⟨y, hy⟩ : ∃ y, ys[k]? = some y := ⟨_, List.getElem?_eq_getElem (by have := HL.out; omega)⟩
      obtain ⟨b1, o1, rfl, _, hs1⟩ : ∃ b off, a = some ⟨b, off, none⟩ ∧ b < w.heap.size ∧ Seg w b off xs := by
        rcases ha with rfl | h
        · simp at hlt
        · exact h
      obtain ⟨b2, o2, rfl, _, hs2⟩ : ∃ b0 off, b = some ⟨b0, off, none⟩ ∧ b0 < w.heap.size ∧ Seg w b0 off ys := by
        rcases hb with rfl | h
        · simp at hy
        · exact h
      have c1 := (hs1 k x hx).1
      have c2 := (hs2 k y hy).1
      have HX := hide hx
      have HY := hide hy
      clear hx hy hs1 hs2 ha hb
      have hki : (k : Int) < (xs.length : Int) := by omega
      by_cases hxy : x = y
      · have hb1 : ((x : Int) != (y : Int)) = false := by simp [hxy]
        have HXY := hide hxy
        clear hxy
        go_wp2
        go_quiet (fail)
        go_wp2
        go_roundw
        case rel =>
          refine ⟨k + 1, n + nq, by omega, by go_num, ?_, rfl⟩
          rw [List.take_add_one, List.take_add_one, HX.out, HY.out, HT.out, HXY.out]
        case measure => simp [intOf]; omega
      · have hb1 : ((x : Int) != (y : Int)) = true := by simp; omega
        have HXY := hide hxy
        clear hxy
        go_wp2
        go_quiet (fail)
        go_wp2
        go_ret
        refine ⟨ret_bool (Eq.symm (decide_eq_false fun h => HXY.out ?_)), n + nq, by simp⟩
        have h1 := HX.out
        rw [h, HY.out] at h1
        exact (Option.some.inj h1).symm
    · have hkk : k = xs.length := by omega
      subst hkk
      go_wp2
      go_ret
      refine ⟨ret_bool (Eq.symm (decide_eq_true ?_)), _, rfl⟩
      have h1 := HT.out
      rw [List.take_length, HL.out, List.take_length] at h1
      exact h1

theorem eqBytes_any (a b : Option Addr) (c d : Nat) (xs ys : List Nat) (w : World) (ha : Sl w a xs) (hb : Sl w b ys) (hm : xs.length ≤ 9223372036854775807) :
    Calls Try.prog 23 #[.slice a xs.length c, .slice b ys.length d] w fun e w' => e = .returned (.bool (decide (xs = ys))) ∧ ∃ n, w' = w.drewN n := by
  by_cases hl : xs.length = ys.length
  · have h := eqBytes_same a b c d xs ys w ha hb hl hm
    rw [← hl]
    exact h
  · refine (eqBytes_len a b xs.length ys.length c d w (by simp; omega)).mono ?_
    rintro e w' ⟨rfl, rfl⟩
    exact ⟨ret_bool (Eq.symm (decide_eq_false fun h => hl (by rw [h]))), 0, rfl⟩

/-- The mark at a place. -/
def markAt (i : Nat) : Nat := (165 ^^^ i) % 256
/-- The marks behind a list of so many bytes. -/
def marks (n : Nat) : List Nat := (List.range 80).map fun (j : Nat) => markAt (n + j)
theorem marks_length (n : Nat) : (marks n).length = 80 := by simp [marks]
theorem marks_get (n j : Nat) (h : j < 80) : (marks n)[j]? = some (markAt (n + j)) := by simp [marks, h]
theorem mark_eq (i : Nat) (h : i ≤ 9223372036854775807) : IntKind.u8.wrap (bits BinOp.xor IntKind.i64 165 (i : Int)) = ((markAt i : Nat) : Int) := by
  have hx : 165 ^^^ i < 2 ^ 63 := Nat.xor_lt_two_pow (by omega) (by omega)
  have e : bits BinOp.xor IntKind.i64 165 (i : Int) = ((165 ^^^ i : Nat) : Int) := by
    show IntKind.i64.wrap ((BitVec.ofInt 64 (((165 : Nat)) : Int) ^^^ BitVec.ofInt 64 (i : Int)).toNat : Int) = _
    rw [BitVec.toNat_xor, ofInt_u64 165 (by omega), ofInt_u64 i (by omega), IntKind.wrap_i64]
    omega
  rw [e, IntKind.wrap_u8']
  unfold markAt
  omega

/-- The head of a row of the call's own. -/
theorem OwnB.head {w : World} {g : Nat} {bs sp : List Nat} (h : OwnB w g (bs ++ sp)) (hx : ∀ x ∈ bs, x < 256) : Sl w (some ⟨g, 0, none⟩) bs := by
  refine .inr ⟨g, 0, rfl, h.lt, fun i x hi => ⟨?_, hx x (List.mem_of_getElem? hi)⟩⟩
  rw [Nat.zero_add]
  exact h.cell i x (by rw [List.getElem?_append_left (List.getElem?_eq_some_iff.1 hi).1]; exact hi)

theorem markAt_lt (i : Nat) : markAt i < 256 := Nat.mod_lt _ (by omega)

theorem sl_of_owns {W : World} {base : Nat} {v : Value} {bs : List Nat} (h : W.ownsRow base 5 1 v bs.length (bs.map B8)) (hx : ∀ x ∈ bs, x < 256) : ∃ a cap, v = .slice a bs.length cap ∧ Sl W a bs := by
  rcases h.2 with ⟨rfl, h0⟩ | ⟨g, cap, cur, rfl, _, hg, hn, _, hs, hc⟩
  · exact ⟨none, 0, by rw [h0], .inl (List.eq_nil_of_length_eq_zero h0)⟩
  · refine ⟨_, cap, rfl, .inr ⟨g, 0, rfl, (Array.getElem?_eq_some_iff.1 hg).1, fun i x hx' => ⟨?_, hx x (List.mem_of_getElem? hx')⟩⟩⟩
    have h1 : (bs.map B8)[i]? = some (B8 x) := by rw [List.getElem?_map, hx']; rfl
    have h2 : i < bs.length := (List.getElem?_eq_some_iff.1 hx').1
    rw [← hc, List.getElem?_take, if_pos (by omega)] at h1
    simp only [Nat.zero_add, World.cell?, hg]
    simpa [B8] using h1

theorem owns_of_ownB {W : World} {base g : Nat} {bs : List Nat} (h : OwnB W g bs) (hb : base ≤ g) (hm : bs.length ≤ maxLen) : W.ownsRow base 5 1 (.slice (some ⟨g, 0, none⟩) bs.length bs.length) bs.length (bs.map B8) :=
  ⟨by simp, .inr ⟨g, bs.length, _, rfl, hb, h, Nat.le_refl _, hm, by simp, by rw [List.take_of_length_le (by simp)]⟩⟩

theorem src {w w' : World} {ad : Addr} {bs : List Nat} (h : Sl w (some ad) bs) (hb : Below w.heap.size w w') : ∀ j u, (bs.map B8)[j]? = some u → w'.cell? (ad.add j) = some u := by
  intro j u hu
  rcases h with rfl | ⟨b, off, he, hl, hs⟩
  · simp at hu
  · cases he
    rw [List.getElem?_map] at hu
    obtain ⟨x, hx, rfl⟩ := Option.map_eq_some_iff.1 hu
    have e : (⟨b, off, none⟩ : Addr).add j = ⟨b, off + j, none⟩ := by simp [Addr.add]
    rw [e]
    exact (hb.cell (p := ⟨b, off + j, none⟩) hl).trans (hs j x hx).1

/-- 'append(x, y...)' on bytes, x the call's own, y whatever came in or was made. -/
theorem wpList_app_bytes {w : World} {ops : Array Oper} {rest : List Oper} {o : Oper} {a : Act} {Q : Exit → Act → World → Prop} (hgd : o.guard = none) (s x : Operand)
    (ho : o.op = .call { callee := .builtin .append, args := #[s, x], argTypes := #[52, 52] })
    (base : Nat) (v : Value) (xs : List Nat) (hs : a.eval s = v) (hown : w.ownsRow base 5 1 v xs.length (xs.map B8))
    (a1 : Option Addr) (c : Nat) (ys : List Nat) (hx : a.eval x = .slice a1 ys.length c) (hnil : a1 = none → c = 0) (hys : Sl w a1 ys) (hb : xs.length + ys.length ≤ 140737488355328) (hbase : base ≤ w.heap.size)
    (h : ∀ v' w', w'.ownsRow base 5 1 v' (xs ++ ys).length ((xs ++ ys).map B8) → Below base w w' → wpList Try.prog ops Q rest (a.put o.dst v') w') : wpList Try.prog ops Q (o :: rest) a w := by
  obtain ⟨i0, hi, hz0, hz1, hz2⟩ := info_parts Try.info5
  cases a1 with
  | none =>
    obtain rfl : ys = [] := by
      rcases hys with h0 | ⟨b, off, h0, _⟩
      · exact h0
      · cases h0
    rw [hnil rfl] at hx
    refine wpList_append_own_none hgd s x 52 ho base 5 i0 1 Try.underlying52 hi v xs.length (xs.map B8) hs hown hx (h v w ?_ (Below.refl _ _))
    simpa using hown
  | some ad =>
    refine wpList_append_own w hgd s x 52 ho base 5 i0 (.int .u8 0) 1 1 Try.underlying52 hi hz0 hz1 hz2 rfl (by omega) v xs.length (xs.map B8) hs hown ad ys.length c (ys.map B8) hx (by simp) (src hys (Below.refl _ _)) (B8_one ys)
      (by unfold maxLen; omega) (by omega) hbase fun v' w' h1 h2 _ => h v' w' ?_ ?_
    · simpa using h1
    · exact (Below.refl _ _).grown h2 hbase fun k e => (hown.lt k e).1

end Go.Proofs.Ytcpmofdhljdkdaa
namespace Go.Proofs.Ytcpmofdhljdkdaa
open Go.RowKit Go.Shelf
set_option linter.unusedVariables false

theorem index_byteS (g o i len cap : Nat) (hi : i < len) (w : World) : (Instr.indexAt 52 (.slice (some ⟨g, o, none⟩) len cap) (.int .i64 (i : Int))).run Try.prog w = .ok (.pointer (some ⟨g, o + i, none⟩)) w := by
  have h := index_at (t := 52) (e := 5) (sz := 1) Try.underlying52 (by kernel_rfl) g o i len cap hi w
  rwa [Nat.mul_one] at h
theorem rwithin_any (w : World) (i n : Int) (hn : 0 < n) (hn' : n ≤ 4611686018427387904) (hi : -9223372036854775808 ≤ i) (hi' : i ≤ 9223372036854775807) : Calls Try.prog 19 #[.int .i64 i, .int .i64 n] w fun e w' => e = .returned (.int .i64 (i % n)) ∧ w' = w := by
  obtain ⟨h1, h2, h3⟩ := within_eq i n hn
  have hn0 : ¬ n = 0 := by omega
  obtain ⟨t, ht⟩ : ∃ t, i.tmod n = t := ⟨_, rfl⟩
  rw [ht] at h1 h2 h3
  by_cases h : t < 0
  · rw [if_pos h] at h1
    rw [← h1]
    clear h1
    go_enter Try.func19, Try.ntmps19
    go_wp2
    go_ret
    exact ⟨rfl, rfl⟩
  · rw [if_neg h] at h1
    rw [← h1]
    clear h1
    go_enter Try.func19, Try.ntmps19
    go_wp2
    go_ret
    exact ⟨rfl, rfl⟩
theorem sized_some (a : Option Addr) (cap : Nat) (bs : List Nat) (w : World) (hg : Sl w a bs) (hl : bs.length ≤ 9223372036854775807) :
    Calls Try.prog 24 #[.slice a bs.length cap, .int .i64 128] w fun e w' => ∃ ys : List Nat, e = .returned (.slice (some ⟨w.heap.size, 0, none⟩) 128 128) ∧ ys.length = 128 ∧ (∀ x ∈ ys, x < 256) ∧ OwnB w' w.heap.size ys ∧ Below w.heap.size w w' := by
  obtain ⟨i0, hi, hz0, hz1, hz2⟩ := info_parts Try.info5
  have hmk : ∀ w, Sem.run Try.prog (Instr.makeSlice 52 (.int .i64 128) (.int .i64 128)) w = .ok (.slice (some ⟨w.heap.size, 0, none⟩) 128 128) (w.alloc (.cells (madeCells #[.int .u8 0] 128) 5)) := fun w => by
    have h := run_make (P := Try.prog) w 52 5 i0 (.int .u8 0) Try.underlying52 hi hz0 .i64 .i64 128 128 (by omega) (by omega) (by rw [hz2]; omega) (by omega)
    simp only [hz1, Nat.mul_one] at h
    exact h
  have hO := OwnB.made w 128
  have hB : Below w.heap.size w (w.alloc (.cells (madeCells #[.int .u8 0] 128) 5)) := (Below.refl _ _).alloc (Nat.le_refl _) _
  generalize hmc : madeCells #[Value.int .u8 0] 128 = mc at *
  clear hmc
  have HG := hide hg
  clear hg
  generalize hbl : bs.length = m at *
  have HBL := hide hbl
  clear hbl
  go_enter Try.func24, Try.ntmps24
  go_wp2
  clear hmk
  go_loopw [6] (fun i wr => ∃ (k : Nat) (ys : List Nat), i = .int .i64 (k : Int) ∧ k ≤ 128 ∧ ys.length = 128 ∧ (∀ x ∈ ys, x < 256) ∧ OwnB wr w.heap.size ys ∧ Below w.heap.size w wr) (fun i _ => 128 - (intOf i).toNat)
  case atStart => exact ⟨0, _, rfl, by omega, by simp, fun x hx => by rw [List.eq_of_mem_replicate hx]; omega, hO, hB⟩
  case round =>
    clear hO hB
    obtain ⟨k, ys, rfl, hk, hyl, hyb, hown, hBr⟩ := hrel
    by_cases hlt : k < 128
    · have kI : (k : Int) < 128 := by omega
      by_cases hlb : k < m
      · have bI : (k : Int) < (m : Int) := by omega
        obtain ⟨x, hx⟩ : ∃ x, bs[k]? = some x := ⟨_, List.getElem?_eq_getElem (by rw [HBL.out]; exact hlb)⟩
        obtain ⟨ab, ao, rfl, hcell, hx256⟩ : ∃ ab ao, a = some ⟨ab, ao, none⟩ ∧ wr.cell? ⟨ab, ao + k, none⟩ = some (.int .u8 (x : Int)) ∧ x < 256 := by
          rcases HG.out.below hBr with e | ⟨ab, ao, e, _, h5⟩
          · rw [e] at hx; simp at hx
          · exact ⟨ab, ao, e, (h5 k x hx).1, (h5 k x hx).2⟩
        obtain ⟨u, hu⟩ : ∃ u, ys[k]? = some u := ⟨_, List.getElem?_eq_getElem (by omega)⟩
        have cg := hown.cell k u hu
        have fg := hown.frozen k
        have l1 := fun X => index_byteS ab ao k m cap hlb X
        have l2 := fun X => index_byteS w.heap.size 0 k 128 128 hlt X
        simp only [Nat.zero_add] at l2
        have hnew := hown.set k x
        have hbn : Below w.heap.size w (wr.setCell ⟨w.heap.size, k, none⟩ (.int .u8 (x : Int))) := hBr.setCell (p := ⟨w.heap.size, k, none⟩) (Nat.le_refl _) _
        have HNEW := hide hnew
        have HBN := hide hbn
        have HYB := hide hyb
        have HYL := hide hyl
        clear hnew hbn hown hBr hyb hyl hx hu
        go_wp2
        go_roundw
        case rel =>
          refine ⟨k + 1, _, int_congrP (by omega), by omega, by rw [List.length_set]; exact HYL.out, fun z hz => ?_, HNEW.out, HBN.out⟩
          rcases List.mem_or_eq_of_mem_set hz with h | h
          · exact HYB.out z h
          · rw [h]; exact hx256
        case measure => simp [intOf]; omega
      · have bI : ¬ (k : Int) < (m : Int) := by omega
        have HF := hide (And.intro hyl (And.intro hyb (And.intro hown hBr)))
        clear hyl hyb hown hBr
        go_wp2
        go_ret
        exact ⟨rfl, ys, HF.out⟩
    · have kI : ¬ (k : Int) < 128 := by omega
      have HF := hide (And.intro hyl (And.intro hyb (And.intro hown hBr)))
      clear hyl hyb hown hBr
      go_wp2
      go_ret
      exact ⟨rfl, ys, HF.out⟩
end Go.Proofs.Ytcpmofdhljdkdaa
namespace Go.Proofs.Ytcpmofdhljdkdaa
open Go.RowKit
set_option linter.unusedVariables false

theorem Try.info22 : (Try.prog.info? 52).map (fun i => (i.zero, i.size, i.bytes)) = some (some (.slice none 0 0), 1, 24) := by kernel_rfl

theorem ownsRow_below {W W' : World} {base : Nat} {e : TypeId} {size : Nat} {v : Value} {k : Nat} {xs : List Value} (h : W.ownsRow base e size v k xs) (hb : Below W.heap.size W W') : W'.ownsRow base e size v k xs := by
  refine ⟨h.1, ?_⟩
  rcases h.2 with h2 | ⟨g, cap, cur, hv, hg, hh, r⟩
  · exact .inl h2
  · exact .inr ⟨g, cap, cur, hv, hg, (hb.block g (Array.getElem?_eq_some_iff.1 hh).1).trans hh, r⟩

/-- Bytes that lie ahead of the call's own memory, or in a block of bytes. -/
def Piece (W : World) (base : Nat) (a : Option Addr) (bs : List Nat) : Prop :=
  bs = [] ∨ ∃ b off, a = some ⟨b, off, none⟩ ∧ b < W.heap.size ∧ (b < base ∨ ∃ cur fr, W.heap[b]? = some (.cells cur 5 fr)) ∧ Seg W b off bs

theorem Piece.sl {W : World} {base : Nat} {a : Option Addr} {bs : List Nat} (h : Piece W base a bs) : Sl W a bs := by
  rcases h with h | ⟨b, off, ha, hl, _, hs⟩
  · exact .inl h
  · exact .inr ⟨b, off, ha, hl, hs⟩
theorem Piece.of_block {W W' : World} {base : Nat} {a : Option Addr} {bs : List Nat} (h : Piece W base a bs) (hs : W.heap.size ≤ W'.heap.size) (hk : ∀ b, b < W.heap.size → (b < base ∨ ∃ cur fr, W.heap[b]? = some (.cells cur 5 fr)) → W'.heap[b]? = W.heap[b]?) : Piece W' base a bs := by
  rcases h with h | ⟨b, off, ha, hl, ht, hg⟩
  · exact .inl h
  · have e := hk b hl ht
    refine .inr ⟨b, off, ha, Nat.lt_of_lt_of_le hl hs, ?_, fun i x hx => ⟨(World.cell?_of_block (w := W) (a := ⟨b, off + i, none⟩) e).trans (hg i x hx).1, (hg i x hx).2⟩⟩
    rcases ht with ht | ⟨cur, fr, ht⟩
    · exact .inl ht
    · exact .inr ⟨cur, fr, e.trans ht⟩
theorem Piece.below {W W' : World} {base : Nat} {a : Option Addr} {bs : List Nat} (h : Piece W base a bs) (hb : Below W.heap.size W W') : Piece W' base a bs :=
  h.of_block hb.size fun b hl _ => hb.block b hl
theorem Piece.grown {W W' : World} {base : Nat} {a : Option Addr} {bs : List Nat} {v : Value} {k : Nat} {xs : List Value} (h : Piece W base a bs) (hown : W.ownsRow base 52 1 v k xs) (hg : W.grownBy W' v.ownBlock) : Piece W' base a bs := by
  refine h.of_block hg.size fun b hl ht => hg.block b hl fun e => ?_
  rcases hown.2 with ⟨rfl, _⟩ | ⟨g, cap, cur, rfl, hb, hh, _⟩
  · simp [Value.ownBlock] at e
  · obtain rfl : b = g := by simpa [Value.ownBlock] using e
    rcases ht with ht | ⟨c2, fr, ht⟩
    · omega
    · rw [hh] at ht; simp at ht
theorem OwnB.piece {W : World} {g : Nat} {bs : List Nat} (h : OwnB W g bs) (base : Nat) (hx : ∀ x ∈ bs, x < 256) : Piece W base (some ⟨g, 0, none⟩) bs :=
  .inr ⟨g, 0, rfl, h.lt, .inr ⟨_, _, h⟩, fun i x hi => ⟨by rw [Nat.zero_add]; exact h.cell i x hi, hx x (List.mem_of_getElem? hi)⟩⟩

/-- Cells that hold slices of these bytes. -/
def Ties (W : World) (base : Nat) (cs : List Value) (rs : List (List Nat)) : Prop :=
  cs.length = rs.length ∧ ∀ (i : Nat) (r : List Nat), rs[i]? = some r → ∃ ai ci, cs[i]? = some (.slice ai r.length ci) ∧ Piece W base ai r ∧ r.length ≤ maxLen

theorem Ties.nil (W : World) (base : Nat) : Ties W base [] [] := ⟨rfl, fun i r h => by simp at h⟩
theorem Ties.below {W W' : World} {base : Nat} {cs : List Value} {rs : List (List Nat)} (h : Ties W base cs rs) (hb : Below W.heap.size W W') : Ties W' base cs rs :=
  ⟨h.1, fun i r hr => by obtain ⟨ai, ci, h1, h2, h3⟩ := h.2 i r hr; exact ⟨ai, ci, h1, h2.below hb, h3⟩⟩
theorem Ties.grown {W W' : World} {base : Nat} {cs : List Value} {rs : List (List Nat)} {v : Value} {k : Nat} {xs : List Value} (h : Ties W base cs rs) (hown : W.ownsRow base 52 1 v k xs) (hg : W.grownBy W' v.ownBlock) : Ties W' base cs rs :=
  ⟨h.1, fun i r hr => by obtain ⟨ai, ci, h1, h2, h3⟩ := h.2 i r hr; exact ⟨ai, ci, h1, h2.grown hown hg, h3⟩⟩
theorem Ties.snoc {W : World} {base : Nat} {cs : List Value} {rs : List (List Nat)} (h : Ties W base cs rs) {a : Option Addr} {r : List Nat} (c : Nat) (hp : Piece W base a r) (hl : r.length ≤ maxLen) : Ties W base (cs ++ [.slice a r.length c]) (rs ++ [r]) := by
  refine ⟨by simp [h.1], fun i r' hr => ?_⟩
  by_cases hi : i < rs.length
  · rw [List.getElem?_append_left hi] at hr
    rw [List.getElem?_append_left (by rw [h.1]; exact hi)]
    exact h.2 i r' hr
  · rw [List.getElem?_append_right (by omega)] at hr
    rw [List.getElem?_append_right (by rw [h.1]; omega), h.1]
    have h0 : i - rs.length = 0 := by
      have := (List.getElem?_eq_some_iff.1 hr).1
      simp at this
      omega
    rw [h0] at hr ⊢
    simp at hr
    subst hr
    exact ⟨a, c, by simp, hp, hl⟩
theorem slr_of_owns {W : World} {base : Nat} {v : Value} {cs : List Value} {rs : List (List Nat)} (h : W.ownsRow base 52 1 v cs.length cs) (ht : Ties W base cs rs) : ∃ a cap, v = .slice a rs.length cap ∧ SlR W a rs := by
  rcases h.2 with ⟨rfl, h0⟩ | ⟨g, cap, cur, rfl, _, hg, hn, _, hs, hc⟩
  · rw [ht.1] at h0
    exact ⟨none, 0, by rw [h0], .inl (List.eq_nil_of_length_eq_zero h0)⟩
  · refine ⟨_, cap, by rw [ht.1], .inr ⟨g, 0, rfl, (Array.getElem?_eq_some_iff.1 hg).1, fun i r hr => ?_⟩⟩
    obtain ⟨ai, ci, h1, h2, h3⟩ := ht.2 i r hr
    refine ⟨ai, ci, ?_, h2.sl, h3⟩
    have hi : i < cs.length := (List.getElem?_eq_some_iff.1 h1).1
    rw [← hc, List.getElem?_take, if_pos (by omega)] at h1
    simp only [Nat.zero_add, World.cell?, hg]
    simpa using h1

end Go.Proofs.Ytcpmofdhljdkdaa
namespace Go.Proofs.Ytcpmofdhljdkdaa
open Go.RowKit
set_option linter.unusedVariables false

theorem flat_at {rs : List (List Nat)} {i : Nat} {r : List Nat} (h : rs[i]? = some r) : (rs.take i).flatten.length + r.length ≤ rs.flatten.length := by
  have e := List.take_append_drop (i + 1) rs
  have l := congrArg (fun l => l.flatten.length) e
  simp only [List.flatten_append, List.length_append, List.take_add_one, h, Option.toList_some, List.flatten_cons, List.flatten_nil, List.append_nil] at l
  omega
theorem flat_next {rs : List (List Nat)} {i : Nat} {r : List Nat} (h : rs[i]? = some r) : (rs.take (i + 1)).flatten = (rs.take i).flatten ++ r := by
  simp [List.take_add_one, h]

set_option maxHeartbeats 1000000 in
theorem join_any (a : Option Addr) (cap : Nat) (rs : List (List Nat)) (w : World) (hg : SlR w a rs) (hn : rs.length ≤ 1000000000000) (hl : rs.flatten.length ≤ 140737488355328) :
    Calls Try.prog 55 #[.slice a rs.length cap] w fun e w' => ∃ v, e = .returned v ∧ w'.ownsRow w.heap.size 5 1 v rs.flatten.length (rs.flatten.map B8) ∧ Below w.heap.size w w' := by
  obtain ⟨i0, hi, hz0, hz1, hz2⟩ := info_parts Try.info5
  go_enter Try.func55, Try.ntmps55
  go_wp2
  go_loopw [3, 4] (fun v i wr => ∃ (k : Nat), k ≤ rs.length ∧ i = .int .i64 k ∧ wr.ownsRow w.heap.size 5 1 v (rs.take k).flatten.length ((rs.take k).flatten.map B8) ∧ Below w.heap.size w wr)
    (fun _ i _ => rs.length - (intOf i).toNat)
  case atStart => exact ⟨0, by omega, rfl, World.ownsRow_nil _ _ _ _, Below.refl _ _⟩
  case round =>
    obtain ⟨k, hk, rfl, hown, hB⟩ := hrel
    have HO := hide hown
    have HB := hide hB
    clear hown hB
    by_cases hlt : k < rs.length
    · obtain ⟨r, hrk⟩ : ∃ r, rs[k]? = some r := ⟨_, List.getElem?_eq_getElem hlt⟩
      obtain ⟨b, off, rfl, hbl, hseg⟩ : ∃ b off, a = some ⟨b, off, none⟩ ∧ b < w.heap.size ∧ ∀ (i : Nat) (r : List Nat), rs[i]? = some r → ∃ ai cap, w.cell? ⟨b, off + i, none⟩ = some (.slice ai r.length cap) ∧ Sl w ai r ∧ r.length ≤ maxLen := by
        rcases hg with rfl | h
        · simp at hlt
        · exact h
      obtain ⟨ai, ci, hc0, hsl, hm⟩ := hseg k r hrk
      have hfl := flat_at hrk
      have HF : Hid ((rs.take k).flatten.length + r.length ≤ 140737488355328) := Nat.le_trans hfl hl
      have hrl : r.length ≤ 140737488355328 := by omega
      have HX := hide hrk
      have HS := hide hsl
      have HC := hide hc0
      have HG := hide hg
      clear hrk hc0 hsl hm hseg hg hfl
      have hki : (k : Int) < (rs.length : Int) := by omega
      go_wp2
      generalize hPe : (rs.take k).flatten = P at HO HF
      have HP := hide hPe
      clear hPe
      go_loopw [3, 5] (fun v i wq => ∃ (j : Nat), j ≤ r.length ∧ i = .int .i64 j ∧ wq.ownsRow w.heap.size 5 1 v (P ++ r.take j).length ((P ++ r.take j).map B8) ∧ Below w.heap.size w wq)
        (fun _ i _ => r.length - (intOf i).toNat)
      case atStart => exact ⟨0, by omega, rfl, by simpa using HO.out, HB.out⟩
      case round =>
        obtain ⟨j, hj, rfl, hown, hB⟩ := hrel
        have HO2 := hide hown
        have HB2 := hide hB
        have hsz := hB.size
        have hc : wr.cell? ⟨b, off + k, none⟩ = some (.slice ai r.length ci) := (hB.cell (p := ⟨b, off + k, none⟩) hbl).trans HC.out
        clear hown hB
        by_cases hjl : j < r.length
        · obtain ⟨x, hx⟩ : ∃ x, r[j]? = some x := ⟨_, List.getElem?_eq_getElem hjl⟩
          obtain ⟨b2, o2, rfl, hb2, hs2⟩ : ∃ b off, ai = some ⟨b, off, none⟩ ∧ b < w.heap.size ∧ Seg w b off r := by
            rcases HS.out with rfl | h
            · simp at hjl
            · exact h
          have hcx : wr.cell? ⟨b2, o2 + j, none⟩ = some (.int .u8 (x : Int)) := (HB2.out.cell (p := ⟨b2, o2 + j, none⟩) hb2).trans (hs2 j x hx).1
          have hji : (j : Int) < (r.length : Int) := by omega
          have HXX := hide hx
          clear hx hs2
          have HPL : Hid ((P ++ r.take j).length + 1 ≤ 140737488355328) := show _ ≤ _ by have := HF.out; simp; omega
          go_wp2_with (at_builtin; refine wpList_append_own _ rfl _ _ 52 rfl w.heap.size 5 i0 (.int .u8 0) 1 1 Try.underlying52 hi hz0 hz1 hz2 rfl (by omega) _ _ _ rfl (HO2.out.alloc _) ⟨wr.heap.size, 0, none⟩ 1 1 [.int .u8 (x : Int)] rfl rfl (cell_one_new _ _ _) (by simp [Value.oneCell']) (by have := HPL.out; unfold maxLen; omega) (by have := HPL.out; omega) (by simp; omega) ?_; intro v3 w3 hown3 hgrow3 _)
          have HO3 := hide hown3
          have HB3 : Hid (Below w.heap.size w w3) := (HB2.out.alloc (by omega) _).grown hgrow3 (by simp; omega) (fun j e => (HO2.out.lt j e).1)
          clear hown3 hgrow3
          go_wp2
          go_roundw
          case rel =>
            refine ⟨j + 1, by omega, by go_num, ?_, HB3.out⟩
            have h := HO3.out
            rw [List.take_add_one, HXX.out]
            simpa [B8, Nat.add_assoc] using h
          case measure => simp [intOf]; omega
        · have hjj : j = r.length := by omega
          have HJ := hide hjj
          have hji : (r.length : Int) ≤ (j : Int) := by omega
          clear hjj
          go_wp2
          go_roundw
          case rel =>
            refine ⟨k + 1, by omega, by go_num, ?_, HB2.out⟩
            have h := HO2.out
            rw [HJ.out, List.take_length] at h
            rw [flat_next HX.out, HP.out]
            exact h
          case measure => simp [intOf]; omega
    · have hkk : k = rs.length := by omega
      have HK := hide hkk
      have hki : (rs.length : Int) ≤ (k : Int) := by omega
      clear hg hkk
      go_wp2
      go_ret
      have h := HO.out
      rw [HK.out, List.take_length] at h
      exact ⟨_, rfl, h, HB.out⟩


end Go.Proofs.Ytcpmofdhljdkdaa
namespace Go.Proofs.Ytcpmofdhljdkdaa
open Go.RowKit
set_option linter.unusedVariables false

theorem ret_int' {k : IntKind} {a b : Int} (h : a = b) : Ending.returned (.int k a) = .returned (.int k b) := by rw [h]

/-- The number of so many bytes at a place, and the error's number. -/
def takeV (bs : List Nat) (p : Int) (n : Nat) : Nat × Int :=
  if p < 0 ∨ (bs.length : Int) - n < p then (0, 6) else (leV ((bs.drop p.toNat).take n), 0)
theorem takeV_lt (bs : List Nat) (p : Int) (n : Nat) (h : ∀ x ∈ bs, x < 256) : (takeV bs p n).1 < 256 ^ n := by
  unfold takeV
  split
  · exact Nat.pow_pos (by omega)
  · refine Nat.lt_of_lt_of_le (leV_lt _ fun x hx => h x (List.mem_of_mem_drop (List.mem_of_mem_take hx))) (Nat.pow_le_pow_right (by omega) (List.length_take_le _ _))
theorem leB_mod (n v : Nat) : leB n (v % 256 ^ n) = leB n v := by
  induction n generalizing v with
  | zero => rfl
  | succ n ih =>
    simp only [leB]
    have e1 : v % 256 ^ (n + 1) % 256 = v % 256 := Nat.mod_mod_of_dvd v ⟨256 ^ n, by rw [Nat.pow_succ, Nat.mul_comm]⟩
    have e2 : v % 256 ^ (n + 1) / 256 = v / 256 % 256 ^ n := by rw [Nat.pow_succ, Nat.mul_comm, Nat.mod_mul_right_div_self]
    rw [e1, e2, ih]

theorem take8_any (a : Option Addr) (cap : Nat) (bs : List Nat) (p : Int) (w : World) (hg : Sl w a bs) (hl : bs.length ≤ maxLen) :
    Calls Try.prog 31 #[.slice a bs.length cap, .int .i64 p] w fun e w' => e = .returned (.tuple #[.int .u8 (takeV bs p 1).1, .int .i64 (takeV bs p 1).2]) ∧ w' = w := by
  unfold takeV
  by_cases h1 : p < 0
  · rw [if_pos (.inl h1)]; exact take8_low a bs.length cap w p h1
  · by_cases h2 : (bs.length : Int) - 1 < p
    · rw [if_pos (.inr h2)]; exact take8_high a bs.length cap w p hl (by omega) h2
    · rw [if_neg (by intro h; rcases h with h | h; exact h1 h; exact h2 h)]
      obtain ⟨q, rfl⟩ := Int.eq_ofNat_of_zero_le (show 0 ≤ p by omega)
      exact take8_good a cap q bs w hg hl (by omega)

theorem take16_any (a : Option Addr) (cap : Nat) (bs : List Nat) (p : Int) (w : World) (hg : Sl w a bs) (hl : bs.length ≤ maxLen) :
    Calls Try.prog 68 #[.slice a bs.length cap, .int .i64 p] w fun e w' => e = .returned (.tuple #[.int .u16 (takeV bs p 2).1, .int .i64 (takeV bs p 2).2]) ∧ w' = w := by
  unfold takeV
  by_cases h1 : p < 0
  · rw [if_pos (.inl h1)]; exact take16_low a bs.length cap w p h1
  · by_cases h2 : (bs.length : Int) - 2 < p
    · rw [if_pos (.inr h2)]; exact take16_high a bs.length cap w p hl (by omega) h2
    · rw [if_neg (by intro h; rcases h with h | h; exact h1 h; exact h2 h)]
      obtain ⟨q, rfl⟩ := Int.eq_ofNat_of_zero_le (show 0 ≤ p by omega)
      exact take16_good a cap q bs w hg hl (by omega)

theorem take64_any (a : Option Addr) (cap : Nat) (bs : List Nat) (p : Int) (w : World) (hg : Sl w a bs) (hl : bs.length ≤ maxLen) :
    Calls Try.prog 44 #[.slice a bs.length cap, .int .i64 p] w fun e w' => e = .returned (.tuple #[.int .u64 (takeV bs p 8).1, .int .i64 (takeV bs p 8).2]) ∧ w' = w := by
  unfold takeV
  by_cases h1 : p < 0
  · rw [if_pos (.inl h1)]; exact take64_low a bs.length cap w p h1
  · by_cases h2 : (bs.length : Int) - 8 < p
    · rw [if_pos (.inr h2)]; exact take64_high a bs.length cap w p hl (by omega) h2
    · rw [if_neg (by intro h; rcases h with h | h; exact h1 h; exact h2 h)]
      obtain ⟨q, rfl⟩ := Int.eq_ofNat_of_zero_le (show 0 ≤ p by omega)
      exact take64_good a cap q bs w hg hl (by omega)

end Go.Proofs.Ytcpmofdhljdkdaa
namespace Go.Proofs.Ytcpmofdhljdkdaa
open Go.RowKit
set_option linter.unusedVariables false

theorem shr_byte (v k : Nat) : (v : Int) / 2 ^ (8 * k) % 256 = ((v / 256 ^ k % 256 : Nat) : Int) := by
  have e : (2 : Int) ^ (8 * k) = ((256 ^ k : Nat) : Int) := by rw [Int.pow_mul, Int.natCast_pow]; rfl
  rw [e, ← Int.natCast_ediv]
  omega
theorem leB_take (n v k x : Nat) (h : k < n) (hx : x = v / 256 ^ k % 256) : (leB n v).take (k + 1) = (leB n v).take k ++ [x] := by
  rw [List.take_add_one, leB_get n v k h, hx]; rfl

set_option maxHeartbeats 400000 in
theorem little_any (v n : Nat) (w : World) (hv : v < 18446744073709551616) (hn : n ≤ 8) :
    Calls Try.prog 29 #[.int .u64 v, .int .i64 n] w fun e w' => ∃ u, e = .returned u ∧ w'.ownsRow w.heap.size 5 1 u n ((leB n v).map B8) ∧ Below w.heap.size w w' := by
  obtain ⟨i0, hi, hz0, hz1, hz2⟩ := info_parts Try.info5
  go_enter Try.func29, Try.ntmps29
  go_wp2
  go_loopw [5, 6] (fun u i wr => ∃ (k : Nat), k ≤ n ∧ i = .int .i64 k ∧ wr.ownsRow w.heap.size 5 1 u k (((leB n v).take k).map B8) ∧ Below w.heap.size w wr)
    (fun _ i _ => n - (intOf i).toNat)
  case atStart => exact ⟨0, by omega, rfl, World.ownsRow_nil _ _ _ _, Below.refl _ _⟩
  case round =>
    obtain ⟨k, hk, rfl, hown, hB⟩ := hrel
    have HO := hide hown
    have HB := hide hB
    have hsz := hB.size
    clear hown hB
    by_cases hlt : k < n
    · have hto : (8 * (k : Int)).toNat = 8 * k := by omega
      have hs := shr_byte v k
      generalize hxe : v / 256 ^ k % 256 = x at hs
      have HX := hide hxe
      clear hxe
      go_wp2_with (at_builtin; refine wpList_append_own _ rfl _ _ 52 rfl w.heap.size 5 i0 (.int .u8 0) 1 1 Try.underlying52 hi hz0 hz1 hz2 rfl (by omega) _ _ _ rfl (HO.out.alloc _) ⟨wr.heap.size, 0, none⟩ 1 1 [.int .u8 (x : Int)] rfl rfl (cell_one_new _ _ _) (by simp [Value.oneCell']) (by unfold maxLen; omega) (by omega) (by simp; omega) ?_; intro v3 w3 hown3 hgrow3 _)
      have HO3 := hide hown3
      have HB3 : Hid (Below w.heap.size w w3) := (HB.out.alloc (by omega) _).grown hgrow3 (by simp; omega) (fun j e => (HO.out.lt j e).1)
      clear hown3 hgrow3
      go_wp2
      go_roundw
      case rel =>
        refine ⟨k + 1, by omega, by go_num, ?_, HB3.out⟩
        rw [leB_take n v k x hlt HX.out.symm]
        simpa [B8] using HO3.out
      case measure => simp [intOf]; omega
    · have hkk : k = n := by omega
      subst hkk
      go_wp2
      go_ret
      have h := HO.out
      rw [List.take_of_length_le (by rw [leB_length]; omega)] at h
      exact ⟨_, rfl, h, HB.out⟩


theorem xor_half (a b : Nat) : (a ^^^ b) / 2 = a / 2 ^^^ b / 2 := Nat.xor_div_two
theorem xor_low (a b : Nat) : (a ^^^ b) % 2 = (a % 2 + b % 2) % 2 := by
  have e : (a ^^^ b) % 2 ^ 1 = a % 2 ^ 1 ^^^ b % 2 ^ 1 := Nat.xor_mod_two_pow
  rw [Nat.pow_one] at e
  rw [e]
  rcases Nat.mod_two_eq_zero_or_one a with h1 | h1 <;> rcases Nat.mod_two_eq_zero_or_one b with h2 | h2 <;> rw [h1, h2] <;> rfl
def refStep (r y : Nat) : Nat := if y % 2 = r % 2 then r / 2 else r / 2 ^^^ 2197175160
theorem refStep_eq (r y : Nat) : bitStep (r ^^^ y) = refStep r y ^^^ (y / 2) := by
  unfold bitStep refStep
  rw [xor_low, xor_half]
  by_cases h : y % 2 = r % 2
  · rw [if_neg (by omega), if_pos h]
  · rw [if_pos (by omega), if_neg h, Nat.xor_assoc, Nat.xor_comm (y / 2), ← Nat.xor_assoc]
theorem refStep_lt (r y : Nat) (h : r < 4294967296) : refStep r y < 4294967296 := by
  unfold refStep
  split
  · omega
  · exact xor_lt32 _ _ (by omega) (by omega)
theorem refSteps_next {z R x k : Nat} (h : bitSteps k z = R ^^^ x / 2 ^ k) : bitSteps (k + 1) z = refStep R (x / 2 ^ k) ^^^ x / 2 ^ (k + 1) := by
  show bitStep (bitSteps k z) = _
  rw [h, refStep_eq, Nat.pow_succ, Nat.div_div_eq_div_mul]
theorem refSteps_end {z R x : Nat} (hx : x < 256) (h : bitSteps 8 z = R ^^^ x / 2 ^ 8) : bitSteps 8 z = R := by
  rw [h, Nat.div_eq_of_lt (by omega), Nat.xor_zero]

theorem ref_inv (s : Nat) (h : s < 4294967296) : bits BinOp.xor IntKind.u64 (s : Int) 4294967295 = ((4294967295 ^^^ s : Nat) : Int) := by
  rw [Nat.xor_comm]; exact u64_xor_nat s 4294967295 (by omega) (by omega)
theorem ref_mix (r : Nat) (h : r < 4294967296) : bits BinOp.xor IntKind.u64 (r : Int) 2197175160 = ((r ^^^ 2197175160 : Nat) : Int) :=
  u64_xor_nat r 2197175160 (by omega) (by omega)
theorem ref_bit (x k : Nat) : (x : Int) / 2 ^ k = ((x / 2 ^ k : Nat) : Int) := by rw [Int.natCast_ediv, Int.natCast_pow]; rfl


end Go.Proofs.Ytcpmofdhljdkdaa
namespace Go.Proofs.Ytcpmofdhljdkdaa
open Go.RowKit
set_option linter.unusedVariables false

theorem qownsRow_base {W : World} {base base' : Nat} {e : TypeId} {size : Nat} {v : Value} {k : Nat} {xs : List Value} (h : W.ownsRow base e size v k xs) (hb : base' ≤ base) : W.ownsRow base' e size v k xs := by
  refine ⟨h.1, ?_⟩
  rcases h.2 with h2 | ⟨g, cap, cur, hv, hg, r⟩
  · exact .inl h2
  · exact .inr ⟨g, cap, cur, hv, Nat.le_trans hb hg, r⟩
theorem qpair_slr (W : World) (a0 a1 : Option Addr) (c0 c1 : Nat) (x0 x1 : List Nat) (h0 : Sl W a0 x0) (h1 : Sl W a1 x1) (l0 : x0.length ≤ maxLen) (l1 : x1.length ≤ maxLen) :
    SlR (W.alloc (.cells #[.slice a0 x0.length c0, .slice a1 x1.length c1] 52)) (some ⟨W.heap.size, 0, none⟩) [x0, x1] := by
  have hB : Below W.heap.size W (W.alloc (.cells #[.slice a0 x0.length c0, .slice a1 x1.length c1] 52)) := (Below.refl _ _).alloc (Nat.le_refl _) _
  refine .inr ⟨_, _, rfl, by simp, fun i r hx => ?_⟩
  match i, hx with
  | 0, hx => simp at hx; subst hx; exact ⟨a0, c0, by simp, h0.below hB, l0⟩
  | 1, hx => simp at hx; subst hx; exact ⟨a1, c1, by simp, h1.below hB, l1⟩
  | n + 2, hx => simp at hx
theorem qtwo_any (a0 a1 : Option Addr) (c0 c1 : Nat) (x0 x1 : List Nat) (w : World) (h0 : Sl w a0 x0) (h1 : Sl w a1 x1) (hl : x0.length + x1.length ≤ 140737488355328) :
    Calls Try.prog 28 #[.slice a0 x0.length c0, .slice a1 x1.length c1] w fun e w' => ∃ u, e = .returned u ∧ w'.ownsRow w.heap.size 5 1 u (x0.length + x1.length) ((x0 ++ x1).map B8) ∧ Below w.heap.size w w' := by
  have hB : Below w.heap.size w (w.alloc (.cells #[.slice a0 x0.length c0, .slice a1 x1.length c1] 52)) := (Below.refl _ _).alloc (Nat.le_refl _) _
  have hj := join_any (some ⟨w.heap.size, 0, none⟩) 2 [x0, x1] _ (qpair_slr w a0 a1 c0 c1 x0 x1 h0 h1 (by unfold maxLen; omega) (by unfold maxLen; omega)) (by simp) (by simpa using hl)
  rw [show [x0, x1].flatten = x0 ++ x1 by simp, show [x0, x1].length = 2 from rfl] at hj
  have HJ := hide hj
  have HB := hide hB
  clear hj hB h0 h1
  go_enter Try.func28, Try.ntmps28
  go_wp2_with (go_at_call 55; refine (unhide HJ).mono ?_; rintro e w' ⟨u, rfl, hO, hB2⟩)
  go_ret
  exact ⟨u, rfl, by simpa using qownsRow_base (base' := w.heap.size) hO (by simp), bseq HB.out hB2⟩
theorem qlittle_sl (v : Nat) (w : World) (hv : v < 18446744073709551616) :
    Calls Try.prog 29 #[.int .u64 v, .int .i64 8] w fun e w' => ∃ a c, e = .returned (.slice a 8 c) ∧ Sl w' a (leB 8 v) ∧ Below w.heap.size w w' := by
  refine (little_any v 8 w hv (by omega)).mono ?_
  rintro e w' ⟨u, rfl, ho, hb⟩
  obtain ⟨a, c, h1, h2⟩ := sl_of_owns (bs := leB 8 v) (by rw [leB_length]; exact ho) (leB_lt 8 v)
  rw [leB_length] at h1
  exact ⟨a, c, by rw [h1], h2, hb⟩
theorem qtwo_sl (a0 a1 : Option Addr) (c0 c1 n m : Nat) (x0 x1 : List Nat) (w : World) (h0 : Sl w a0 x0) (h1 : Sl w a1 x1) (hn : x0.length = n) (hm : x1.length = m) (hl : n + m ≤ 1000) :
    Calls Try.prog 28 #[.slice a0 n c0, .slice a1 m c1] w fun e w' => ∃ a c, e = .returned (.slice a (n + m) c) ∧ Sl w' a (x0 ++ x1) ∧ Below w.heap.size w w' := by
  subst hn
  subst hm
  refine (qtwo_any a0 a1 c0 c1 x0 x1 w h0 h1 (by omega)).mono ?_
  rintro e w' ⟨u, rfl, ho, hb⟩
  obtain ⟨a, c, e1, e2⟩ := sl_of_owns (bs := x0 ++ x1) (by rw [List.length_append]; exact ho) (fun x hx => (List.mem_append.1 hx).elim (h0.lt x) (h1.lt x))
  rw [List.length_append] at e1
  exact ⟨a, c, by rw [e1], e2, hb⟩
end Go.Proofs.Ytcpmofdhljdkdaa
namespace Go.Proofs.Ytcpmofdhljdkdaa
open Go.RowKit Go.Shelf
set_option linter.unusedVariables false

theorem infoArm2 : ∃ i, Try.prog.info? 72 = some i ∧ i.zero = some (.agg #[.int .i64 0, .slice none 0 0]) ∧ i.size = 2 ∧ i.bytes = 32 := by
  have h : (Try.prog.info? 72).map (fun i => (i.zero, i.size, i.bytes)) = some (some (.agg #[.int .i64 0, .slice none 0 0]), 2, 32) := by kernel_rfl
  obtain ⟨i, h1, h2⟩ := Option.map_eq_some_iff.1 h
  simp only [Prod.mk.injEq] at h2
  exact ⟨i, h1, h2.1, h2.2.1, h2.2.2⟩
theorem infoInt2 : ∃ i, Try.prog.info? 3 = some i ∧ i.zero = some (.int .i64 0) ∧ i.size = 1 ∧ i.bytes = 8 := by
  have h : (Try.prog.info? 3).map (fun i => (i.zero, i.size, i.bytes)) = some (some (.int .i64 0), 1, 8) := by kernel_rfl
  obtain ⟨i, h1, h2⟩ := Option.map_eq_some_iff.1 h
  simp only [Prod.mk.injEq] at h2
  exact ⟨i, h1, h2.1, h2.2.1, h2.2.2⟩
theorem cut_ints (g m cap : Nat) (hm : m ≤ cap) (w : World) : (Instr.sliceAt 53 (.slice (some ⟨g, 0, none⟩) m cap) none (some (.int .i64 (m : Int))) none).run Try.prog w = .ok (.slice (some ⟨g, 0, none⟩) m cap) w := by
  obtain ⟨i, h1, _⟩ := infoInt2
  simp [Instr.sliceAt, Instr.slice, Sem.run_bind, run_underlying Try.underlying53, Instr.sliceBounds, Instr.sliceBound, asIntOf, sizeOf, typeInfo, h1, Addr.add_mid, hm]
theorem slice_arm (X : List Value) (w : World) (hx : X.length = 2) : (Instr.buildSlice 40 1 #[(0, .agg X.toArray)]).run Try.prog w = .ok (.slice (some ⟨w.heap.size, 0, none⟩) 1 1) (w.alloc (.cells X.toArray 72)) := by
  obtain ⟨it, hi, hz, h2, _⟩ := infoArm2
  refine run_buildSlice w _ 72 1 _ X.toArray it (.agg #[.int .i64 0, .slice none 0 0]) armSlice hi hz (by rw [h2]; decide) (by rw [h2]; decide) ?_
  rw [h2]
  have := Great.fill_whole (s := 2) (by decide) [.agg X.toArray] ((Array.range (1 * 2)).map ((Value.agg #[.int .i64 0, .slice none 0 0]).cells[· % (Value.agg #[.int .i64 0, .slice none 0 0]).cells.size]!)) (by simp [Value.cells, hx]) (by simp)
  simpa [Value.cells] using this
theorem wp_slice_arm {o : Oper} {a : Act} {w : World} {K : Act → World → Prop} {Q : Exit → Act → World → Prop} (x : Operand) (ho : o.op = .buildSlice 40 1 #[(0, x)]) (X : List Value) (hx : a.eval x = .agg X.toArray) (hl : X.length = 2)
    (h : K (a.put o.dst (.slice (some ⟨w.heap.size, 0, none⟩) 1 1)) (w.alloc (.cells X.toArray 72))) : o.wp Try.prog a w K Q := by
  have hr := slice_arm X w hl
  unfold Oper.wp execOp
  simp only [ho, Sem.run_bind, List.map_toArray, List.map_cons, List.map_nil, hx, hr, Result.andThen_ok]
  exact h
set_option maxRecDepth 100000 in
/-- A list of ints of its own. -/
theorem pcloneI (g m cp : Nat) (kp : List Nat) (w : World) (hm : kp.length = m) (hm1 : 1 ≤ m) (hn : ∀ j k : Nat, kp[j]? = some k → w.cell? ⟨g, j, none⟩ = some (.int .i64 (k : Int))) (hms : m ≤ 65536) :
    Calls Try.prog 52 #[.slice (some ⟨g, 0, none⟩) m cp] w fun e w' => ∃ gn cn, e = .returned (.slice (some ⟨gn, 0, none⟩) m cn) ∧ w.heap.size ≤ gn ∧ (∃ c, w'.heap[gn]? = some (.cells c 3 (0, 0))) ∧ (∀ j k : Nat, kp[j]? = some k → w'.cell? ⟨gn, j, none⟩ = some (.int .i64 (k : Int))) ∧ Below w.heap.size w w' := by
  obtain ⟨it, hit, hz, h65, h72⟩ := infoInt2
  obtain ⟨news, hnews⟩ : ∃ news, news = kp.map (fun k : Nat => Value.int .i64 (k : Int)) := ⟨_, rfl⟩
  have hl : news.length = m * 1 := by rw [hnews, List.length_map, hm, Nat.mul_one]
  have hA : Below w.heap.size w (w.alloc (.cells #[] 3)) := (Below.refl _ w).alloc (Nat.le_refl _) _
  have ho : (w.alloc (.cells #[] 3)).ownsRow 0 3 1 (.slice (some ⟨w.heap.size, 0, none⟩) 0 0) 0 [] := ⟨rfl, .inr ⟨w.heap.size, 0, #[], rfl, Nat.zero_le _, heapNew w _, Nat.le_refl _, Nat.zero_le _, rfl, rfl⟩⟩
  have hn' : ∀ j u, news[j]? = some u → (w.alloc (.cells #[] 3)).cell? ((⟨g, 0, none⟩ : Addr).add j) = some u := fun j u hu => by
    rw [hnews, List.getElem?_map] at hu
    obtain ⟨k, hk, rfl⟩ := Option.map_eq_some_iff.1 hu
    rw [Addr.add_mid, Nat.zero_add]
    exact (hA.cell (World.block_lt_of_cell? _ _ (hn j k hk))).trans (hn j k hk)
  have h1 : ∀ u ∈ news, u.oneCell' = true := fun u hu => by
    rw [hnews] at hu
    obtain ⟨k, _, rfl⟩ := List.mem_map.1 hu
    rfl
  have hbs : (Instr.buildSlice 53 0 #[]).run Try.prog w = .ok (.slice (some ⟨w.heap.size, 0, none⟩) 0 0) (w.alloc (.cells #[] 3)) := by
    simp [Instr.buildSlice, run_underlying Try.underlying53, sizeOf, typeInfo, hit, Instr.fill, newRow]
    rw [show Array.map (fun (_ : Nat) => (default : Value)) (Array.range 0) = #[] from Array.eq_empty_of_size_eq_zero (by simp)]
  have hq : (binOp .eql 53 (.slice (some ⟨g, 0, none⟩) m cp) (.slice none 0 0)).run Try.prog w = .ok (.bool false) w := by
    have h : ∀ d : Nat, (Op.equalIn (d + 1) 53 (.slice (some ⟨g, 0, none⟩) m cp) (.slice none 0 0)).run Try.prog w = .ok false w := fun d => by
      simp [Op.equalIn, run_underlying Try.underlying53]
    simp only [binOp]
    simp [Op.equal, Op.maxDepth, h 9999]
  have HA := hide hA
  have HO := hide ho
  have HN := hide hn'
  have HM := hide hm
  have HNW := hide hnews
  clear hA ho hn hn' hm hnews
  go_enter Try.func52, Try.ntmps52
  go_wp2_with (at_builtin; refine wpList_append_own_at _ rfl _ _ 53 rfl 0 3 it (.int .i64 0) 1 8 Try.underlying53 hit hz h65 h72 (by rfl) (by decide) (.slice (some ⟨w.heap.size, 0, none⟩) 0 0) 0 [] rfl HO.out ⟨g, 0, none⟩ m cp news rfl hl HN.out h1 (by unfold maxLen; omega) (by omega) (Nat.zero_le _) ?_; intro v1 x1 ho2 hg2 hnl hat; go_frame)
  go_ret
  rw [Nat.zero_add, List.nil_append] at ho2
  rcases ho2.2 with ⟨rfl, h0⟩ | ⟨gn, cn, cur, rfl, q1, q2, q3, q4, q5, q6⟩
  · omega
  · have hgn : w.heap.size ≤ gn := by rcases hat with e | e <;> cases e <;> simp
    refine ⟨gn, cn, rfl, hgn, ⟨cur, q2⟩, fun j k hj => ?_, ?_⟩
    · rw [cell8 q2]
      have h9 : (cur.toList.take (m * 1))[j]? = some (.int .i64 (k : Int)) := by rw [q6, HNW.out, List.getElem?_map, hj]; rfl
      have hjm : j < m := by have h8 := (List.getElem?_eq_some_iff.1 hj).1; have h7 := HM.out; omega
      rw [List.getElem?_take, if_pos (by omega)] at h9
      simpa using h9
    · exact ⟨hg2.os.trans HA.out.os, hg2.tape.trans HA.out.tape, hg2.output.trans HA.out.output, Nat.le_trans HA.out.size hg2.size, fun k hk => (hg2.block k (Nat.lt_of_lt_of_le hk HA.out.size) (fun e => by simp [Value.ownBlock] at e; omega)).trans (HA.out.block k hk)⟩
section
variable {w : World} {b : Nat} {L : Lay} {σ : St}
/-- A loss waits. -/
theorem DevL.armed {w' : World} {v8 kv : Value} {gk af : Nat} {kp : List Nat} (h : DevL w b L σ) (hb : w'.heap[b]? = some (.cells (devC b { L with av := v8 } { σ with arms := [(af, kp)] }) 42 (0, 0))) (hrow : w'.ownsRow 0 72 2 v8 1 [.int .i64 (af : Int), kv])
    (hkeep : KeepAt w' (fun k => k = gk) kv kp) (hgk : ∃ c, w'.heap[gk]? = some (.cells c 3 (0, 0))) (hk : ∀ k, k < w.heap.size → k ≠ b → L.av.ownBlock ≠ some k → w'.heap[k]? = w.heap[k]?) :
    DevL w' b { L with av := v8, KB := fun k => k = gk } { σ with arms := [(af, kp)] } := by
  have hs : ∀ (k : Nat) (c : Array Value) t fr, w.heap[k]? = some (Obj.cells c t fr) → t ≠ 42 → t ≠ 72 → w'.heap[k]? = w.heap[k]? := fun k c t fr h1 h2 h3 => hk k (lt_of_heap h1) (ne_ty h1 h.dev h2) (fun e => by obtain ⟨c', hc'⟩ := h.av_row e; exact ne_ty h1 hc' h3 rfl)
  have hm : ∀ (k : Nat) es q, w.heap[k]? = some (Obj.map es q) → w'.heap[k]? = w.heap[k]? := fun k es q h1 => hk k (lt_of_heap h1) (ne_map h.dev h1).symm (fun e => by obtain ⟨c', hc'⟩ := h.av_row e; exact ne_map hc' h1 rfl)
  obtain ⟨e1, k1, hob⟩ := h.old.block
  obtain ⟨e2, k2, hfb⟩ := h.flm.block
  refine ⟨hb, (hs _ _ _ _ h.seen (by decide) (by decide)).trans h.seen, h.old.of_block (hm _ _ _ hob), h.flm.of_block (hm _ _ _ hfb),
    fun i hi => (h.pasts i hi).keep (hs _ _ _ _ (h.pasts i hi).1 (by decide) (by decide)) (fun g' hg' => ?_), h.pne, h.rne, h.mne, ⟨[kv], rfl, hrow, fun i k a h1 h2 => ?_⟩, fun k hkb => ?_⟩
  · obtain ⟨c, hc⟩ := (h.pasts i hi).row hg'
    exact hs _ _ _ _ hc (by decide) (by decide)
  · cases i with
    | zero => cases h1; cases h2; exact hkeep
    | succ i => simp at h1
  · subst hkb; exact hgk
set_option maxRecDepth 100000 in
set_option maxHeartbeats 400000 in
/-- Arm of one loss. -/
theorem parm_one {af ga gk m ck : Nat} {kp : List Nat} (h : DevL w b L σ) (hok : σ.Ok) (ho : σ.off = false) (harm : σ.arms = []) (haf : 1 ≤ af) (hga : w.heap[ga]? = some (.cells #[.int .i64 (af : Int), .slice (some ⟨gk, 0, none⟩) m ck] 72 (0, 0)))
    (hkl : kp.length = m) (hm1 : 1 ≤ m) (hmn : m ≤ σ.n) (hmc : m ≤ ck) (hk : SlN w (some ⟨gk, 0, none⟩) kp) (hav : ¬ L.av.ownBlock = some ga) :
    Calls Try.prog 26 #[.pointer (some ⟨b, 0, none⟩), .slice (some ⟨ga, 0, none⟩) 1 1] w fun e w' => e = .returned (.int .i64 0) ∧ ∃ L', DevL w' b L' { σ with arms := [(af, kp)] } ∧ (∀ k, Foot b L' { σ with arms := [(af, kp)] } k → Foot b L σ k ∨ w.heap.size ≤ k) ∧ Gr (Foot b L σ) w w' ∧ L'.N ≤ L.N := by
  have hmx := hok.max
  have ks := pstate_any h
  rw [ho] at ks
  simp only [Bool.false_eq_true, if_false] at ks
  obtain ⟨ia, hia, hiz, his, hib⟩ := infoArm2
  have hav0 : w.ownsRow 0 72 2 L.av 0 [] := by
    obtain ⟨ks', hl', ho', _⟩ := h.arms
    rw [harm] at hl' ho'
    have : ks' = [] := List.eq_nil_of_length_eq_zero (by simpa using hl')
    subst this
    exact ho'
  obtain ⟨avp, avc, hava⟩ := own_slice hav0
  have hkc : ∀ j k : Nat, kp[j]? = some k → w.cell? ⟨gk, j, none⟩ = some (.int .i64 (k : Int)) := fun j k hj => by
    obtain ⟨g, o, e, h1, _⟩ := hk.at hj
    cases e
    rw [Nat.zero_add] at h1
    exact h1
  have km : ∀ W : World, Below w.heap.size w W → Calls Try.prog 41 #[.slice (some ⟨gk, 0, none⟩) m ck] W fun e w' => e = .returned (.bool true) ∧ w' = W := fun W hB => by
    have h5 := pmay_any (w := W) ck (hk.keep (fun k c f h1 => hB.block k (lt_of_heap h1))) (by omega)
    rwa [hkl] at h5
  have kc : ∀ W : World, Below w.heap.size w W → Calls Try.prog 52 #[.slice (some ⟨gk, 0, none⟩) m ck] W fun e w' => ∃ gn cn, e = .returned (.slice (some ⟨gn, 0, none⟩) m cn) ∧ W.heap.size ≤ gn ∧ (∃ c, w'.heap[gn]? = some (.cells c 3 (0, 0))) ∧ (∀ j k : Nat, kp[j]? = some k → w'.cell? ⟨gn, j, none⟩ = some (.int .i64 (k : Int))) ∧ Below W.heap.size W w' := fun W hB =>
    pcloneI gk m ck kp W hkl hm1 (fun j k hj => (hB.cell (World.block_lt_of_cell? _ _ (hkc j k hj))).trans (hkc j k hj)) (by omega)
  have fx : ∀ W : World, Below w.heap.size w W → W.cell? ⟨ga, 0, none⟩ = some (.int .i64 (af : Int)) ∧ W.cell? ⟨ga, 1, none⟩ = some (.slice (some ⟨gk, 0, none⟩) m ck) ∧ W.cell? ⟨b, 5, none⟩ = some L.av ∧ W.cell? ⟨b, 1, none⟩ = some (.slice (some ⟨L.sb, 0, none⟩) σ.n σ.n) := fun W hB => by
    have e1 := (hB.block ga (lt_of_heap hga)).trans hga
    have e2 := (hB.block b h.lt).trans h.dev
    exact ⟨cell8 e1 0, cell8 e1 1, cell8 e2 5, cell8 e2 1⟩
  have ix := fun Y => index_arm ga 1 1 (by omega) Y
  have HD := hide h
  have HAV0 := hide hav0
  have HAVA := hide hava
  have KS := hide ks
  have KM := hide km
  have KC := hide kc
  have FX := hide fx
  have HKL := hide hkl
  have HK := hide hk
  have afI : ¬ (af : Int) < 1 := by omega
  have mI : (m : Int) ≤ (σ.n : Int) := by omega
  clear h ks km kc fx hkl hk hok ho harm hkc hga hav0 hava hav
  go_enter Try.func26, Try.ntmps26
  go_wp2_with (go_at_call 40; refine (KS.out).mono ?_; rintro e w' ⟨rfl, hw⟩; obtain rfl := hw.symm)
  go_loopw [18] (fun iv wr => (iv = .int .i64 0 ∨ iv = .int .i64 1) ∧ Below w.heap.size w wr) (fun iv _ => (1 - (intOf iv).toNat))
  case atStart => exact ⟨.inl rfl, Below.refl _ _⟩
  case round =>
    obtain ⟨rfl | rfl, hB⟩ := hrel
    · obtain ⟨f0, f1, f5, f6⟩ := FX.out wr hB
      have hB1 : Below w.heap.size w (wr.alloc (.cells #[.int .i64 (af : Int), .slice (some ⟨gk, 0, none⟩) m ck] 72)) := hB.alloc hB.size _
      have HB1 := hide hB1
      clear hB hB1
      go_wp2_with (go_at_call 41; refine (KM.out _ ?hx).mono ?_; (case hx => exact HB1.out); rintro e w' ⟨rfl, hw⟩; obtain rfl := hw.symm)
      go_roundw
      case rel => exact ⟨.inr rfl, HB1.out⟩
      case measure => simp [intOf]
    · obtain ⟨f0, f1, f5, f6⟩ := FX.out wr hB
      rw [HAVA.out] at f5
      have HB := hide hB
      clear hB
      go_wp2_with (fail)
      go_loopw [43] (fun iv wx => (iv = .int .i64 0 ∧ Below w.heap.size w wx) ∨ (iv = .int .i64 1 ∧ ∃ L', DevL wx b L' { σ with arms := [(af, kp)] } ∧ (∀ k, Foot b L' { σ with arms := [(af, kp)] } k → Foot b L σ k ∨ w.heap.size ≤ k) ∧ Gr (Foot b L σ) w wx ∧ L'.N ≤ L.N)) (fun iv _ => (1 - (intOf iv).toNat))
      case atStart => exact .inl ⟨rfl, HB.out⟩
      case round =>
        rcases hrel with ⟨rfl, hB⟩ | ⟨rfl, hF⟩
        · obtain ⟨f0, f1, f5x, f6x⟩ := FX.out wr hB
          have hB1 : Below w.heap.size w (wr.alloc (.cells #[.int .i64 (af : Int), .slice (some ⟨gk, 0, none⟩) m ck] 72)) := hB.alloc hB.size _
          obtain ⟨_, _, g5, g6⟩ := FX.out _ hB1
          have ha1 := heapNew wr (.cells #[.int .i64 (af : Int), .slice (some ⟨gk, 0, none⟩) m ck] 72)
          have s15 : (wr.alloc (.cells #[.int .i64 (af : Int), .slice (some ⟨gk, 0, none⟩) m ck] 72)).drew.cell? ⟨wr.heap.size, 1, none⟩ = some (.slice (some ⟨gk, 0, none⟩) m ck) ∧ (wr.alloc (.cells #[.int .i64 (af : Int), .slice (some ⟨gk, 0, none⟩) m ck] 72)).drew.cell? ⟨b, 1, none⟩ = some (.slice (some ⟨L.sb, 0, none⟩) σ.n σ.n) := ⟨cell8 (w := (wr.alloc (.cells #[.int .i64 (af : Int), .slice (some ⟨gk, 0, none⟩) m ck] 72)).drew) ha1 1, g6⟩
          have S15 := hide s15
          have HB1 := hide hB1
          have HA1 := hide ha1
          have HBW := hide hB
          clear hB hB1 ha1 s15 g5 g6 f5x f6x
          go_wp2_with (fail)
          refine wp_region_held_drew (S := fun Y => Y.cell? ⟨wr.heap.size, 1, none⟩ = some (.slice (some ⟨gk, 0, none⟩) m ck) ∧ Y.cell? ⟨b, 1, none⟩ = some (.slice (some ⟨L.sb, 0, none⟩) σ.n σ.n)) (by kernel_rfl) S15.out (fun hS => ?_)
          refine wpAnyH_take (i := 0) (v := (.pointer (some ⟨wr.heap.size, 1, none⟩))) rfl (by kernel_rfl) (by kernel_rfl) (by kernel_rfl) (fun _ _ _ h => h) (Or.inl ⟨by kernel_rfl, fun w' hw => by (go_simp)⟩) hS ?_
          refine wpAnyH_take (i := 1) (v := (.slice (some ⟨gk, 0, none⟩) m ck)) rfl (by kernel_rfl) (by kernel_rfl) (by kernel_rfl) (fun _ _ _ h => h) (Or.inl ⟨by kernel_rfl, fun w' hw => by (obtain ⟨z0, z1⟩ := hw; go_simp)⟩) hS ?_
          refine wpAnyH_take (i := 2) (v := (.pointer (some ⟨wr.heap.size, 1, none⟩))) rfl (by kernel_rfl) (by kernel_rfl) (by kernel_rfl) (fun _ _ _ h => h) (Or.inl ⟨by kernel_rfl, fun w' hw => by (go_simp)⟩) hS ?_
          refine wpAnyH_take (i := 3) (v := (.slice (some ⟨gk, 0, none⟩) m ck)) rfl (by kernel_rfl) (by kernel_rfl) (by kernel_rfl) (fun _ _ _ h => h) (Or.inl ⟨by kernel_rfl, fun w' hw => by (obtain ⟨z0, z1⟩ := hw; go_simp)⟩) hS ?_
          refine wpAnyH_take (i := 4) (v := (.int .i64 (m : Int))) rfl (by kernel_rfl) (by kernel_rfl) (by kernel_rfl) (fun _ _ _ h => h) (Or.inl ⟨by kernel_rfl, fun w' hw => by (go_simp)⟩) hS ?_
          refine wpAnyH_take (i := 5) (v := (.pointer (some ⟨b, 0, none⟩))) rfl (by kernel_rfl) (by kernel_rfl) (by kernel_rfl) (fun _ _ _ h => h) (Or.inl ⟨by kernel_rfl, fun w' hw => by (go_simp)⟩) hS ?_
          refine wpAnyH_take (i := 6) (v := (.pointer (some ⟨b, 0, none⟩))) rfl (by kernel_rfl) (by kernel_rfl) (by kernel_rfl) (fun _ _ _ h => h) (Or.inl ⟨by kernel_rfl, fun w' hw => by (go_simp)⟩) hS ?_
          refine wpAnyH_take (i := 7) (v := (.pointer (some ⟨b, 1, none⟩))) rfl (by kernel_rfl) (by kernel_rfl) (by kernel_rfl) (fun _ _ _ h => h) (Or.inl ⟨by kernel_rfl, fun w' hw => by (go_simp)⟩) hS ?_
          refine wpAnyH_take (i := 8) (v := (.slice (some ⟨L.sb, 0, none⟩) σ.n σ.n)) rfl (by kernel_rfl) (by kernel_rfl) (by kernel_rfl) (fun _ _ _ h => h) (Or.inl ⟨by kernel_rfl, fun w' hw => by (obtain ⟨z0, z1⟩ := hw; go_simp)⟩) hS ?_
          refine wpAnyH_take (i := 9) (v := (.int .i64 (σ.n : Int))) rfl (by kernel_rfl) (by kernel_rfl) (by kernel_rfl) (fun _ _ _ h => h) (Or.inl ⟨by kernel_rfl, fun w' hw => by (go_simp)⟩) hS ?_
          refine wpAnyH_take (i := 10) (v := (.int .i64 (m : Int))) rfl (by kernel_rfl) (by kernel_rfl) (by kernel_rfl) (fun _ _ _ h => h) (Or.inl ⟨by kernel_rfl, fun w' hw => by (go_simp; intro hx; omega)⟩) hS ?_
          refine wpAnyH_take (i := 11) (v := (.slice (some ⟨gk, 0, none⟩) m ck)) rfl (by kernel_rfl) (by kernel_rfl) (by kernel_rfl) (fun _ _ _ h => h) (Or.inl ⟨by kernel_rfl, fun w' hw => by (have e := cut_ints gk m ck hmc w'; go_simp)⟩) hS ?_
          refine wpAnyH_take (i := 12) (v := (.slice (some ⟨gk, 0, none⟩) m ck)) rfl (by kernel_rfl) (by kernel_rfl) (by kernel_rfl) (fun _ _ _ h => h) (Or.inl ⟨by kernel_rfl, fun w' hw => by (go_simp)⟩) hS ?_
          refine wpAnyH_done (by kernel_rfl) ?_ _
          simp only [Act.put, List.getElem_toArray, List.getElem_cons_zero, List.getElem_cons_succ, List.setIfInBounds_toArray, List.set_cons_zero, List.set_cons_succ]
          go_wp2_with (fail)
          have hw0 : Below w.heap.size w (wr.alloc (.cells #[.int .i64 (af : Int), .slice (some ⟨gk, 0, none⟩) m ck] 72)).drew := HB1.out.drew
          have ha0 : (wr.alloc (.cells #[.int .i64 (af : Int), .slice (some ⟨gk, 0, none⟩) m ck] 72)).drew.heap[wr.heap.size]? = some (.cells #[.int .i64 (af : Int), .slice (some ⟨gk, 0, none⟩) m ck] 72 (0, 0)) := HA1.out
          have hsz0 : wr.heap.size < (wr.alloc (.cells #[.int .i64 (af : Int), .slice (some ⟨gk, 0, none⟩) m ck] 72)).drew.heap.size := lt_of_heap ha0
          generalize (wr.alloc (.cells #[.int .i64 (af : Int), .slice (some ⟨gk, 0, none⟩) m ck] 72)).drew = W0 at *
          have hb0 := (hw0.block b HD.out.lt).trans HD.out.dev
          have s16 : W0.drew.cell? ⟨b, 5, none⟩ = some L.av ∧ W0.drew.cell? ⟨wr.heap.size, 0, none⟩ = some (.int .i64 (af : Int)) := ⟨cell8 (w := W0.drew) hb0 5, cell8 (w := W0.drew) ha0 0⟩
          have S16 := hide s16
          have HW0 := hide (hw0.drew : Below w.heap.size w W0.drew)
          have HB0 := hide hb0
          have HA0 := hide ha0
          have arm5 : ∀ (W4 : World) (gn cn : Nat), Below W0.drew.heap.size W0.drew W4 → ((W4.alloc (.cells #[.int .i64 (af : Int), .slice (some ⟨gn, 0, none⟩) m cn] 72)).cell? ⟨b, 5, none⟩ = some L.av ∧ (W4.alloc (.cells #[.int .i64 (af : Int), .slice (some ⟨gn, 0, none⟩) m cn] 72)).cell? ⟨wr.heap.size, 0, none⟩ = some (.int .i64 (af : Int))) ∧ (W4.alloc (.cells #[.int .i64 (af : Int), .slice (some ⟨gn, 0, none⟩) m cn] 72)).ownsRow 0 72 2 L.av 0 [] ∧ (∀ (j : Nat) (u : Value), ([.int .i64 (af : Int), .slice (some ⟨gn, 0, none⟩) m cn] : List Value)[j]? = some u → (W4.alloc (.cells #[.int .i64 (af : Int), .slice (some ⟨gn, 0, none⟩) m cn] 72)).cell? ((⟨W4.heap.size, 0, none⟩ : Addr).add j) = some u) ∧ (∀ W8 : World, (W4.alloc (.cells #[.int .i64 (af : Int), .slice (some ⟨gn, 0, none⟩) m cn] 72)).grownBy W8 L.av.ownBlock → W8.cell? ⟨b, 5, none⟩ = some L.av ∧ W8.frozen? ⟨b, 5, none⟩ = false ∧ W8.cell? ⟨wr.heap.size, 0, none⟩ = some (.int .i64 (af : Int))) := fun W4 gn cn hB4 => by
            have e4 : W0.drew.heap.size ≤ W4.heap.size := hB4.size
            have hB5 : Below W0.drew.heap.size W0.drew (W4.alloc (.cells #[.int .i64 (af : Int), .slice (some ⟨gn, 0, none⟩) m cn] 72)) := hB4.alloc e4 _
            have x1 : (W4.alloc (.cells #[.int .i64 (af : Int), .slice (some ⟨gn, 0, none⟩) m cn] 72)).heap[b]? = _ := (hB5.block b (lt_of_heap hb0)).trans hb0
            have x2 : (W4.alloc (.cells #[.int .i64 (af : Int), .slice (some ⟨gn, 0, none⟩) m cn] 72)).heap[wr.heap.size]? = _ := (hB5.block _ (lt_of_heap ha0)).trans ha0
            have hlt : ∀ g, L.av.ownBlock = some g → g < w.heap.size := fun g hg => by obtain ⟨c', hc'⟩ := own_type HAV0.out hg; exact lt_of_heap hc'
            refine ⟨⟨cell8 x1 5, cell8 x2 0⟩, ownsRow_of_block HAV0.out (fun g hg => (hB5.block g (Nat.lt_of_lt_of_le (hlt g hg) hw0.size)).trans (hw0.block g (hlt g hg))), fun j u hu => ?_, fun W8 hg8 => ?_⟩
            · have h := range_all (heapNew W4 (.cells ([.int .i64 (af : Int), .slice (some ⟨gn, 0, none⟩) m cn] : List Value).toArray 72)) j u hu
              rw [Addr.add_mid]; exact h
            · have y1 := (hg8.block b (lt_of_heap x1) (fun e => by obtain ⟨c', hc'⟩ := own_type HAV0.out e.symm; exact ne_ty hc' HD.out.dev (by decide) rfl)).trans x1
              have y2 := (hg8.block _ (lt_of_heap x2) (fun e => by have := hlt _ e.symm; have := HBW.out.size; omega)).trans x2
              exact ⟨cell8 y1 5, froz8 y1 5, cell8 y2 0⟩
          have ARM5 := hide arm5
          clear hw0 hb0 ha0 s16 arm5 HA1 HB1 S15
          refine wp_region_early 14 (fun Y => Y.cell? ⟨b, 5, none⟩ = some L.av ∧ Y.cell? ⟨wr.heap.size, 0, none⟩ = some (.int .i64 (af : Int))) (by kernel_rfl) S16.out (fun hS => ?_)
          refine wpAnyE_take (i := 0) (v := (.pointer (some ⟨b, 0, none⟩))) rfl (by kernel_rfl) (by kernel_rfl) (by kernel_rfl) (by kernel_rfl) (fun _ _ _ h => h) (Or.inl ⟨by kernel_rfl, fun w' hw => by (go_simp)⟩) hS ?_
          refine wpAnyE_take (i := 1) (v := (.pointer (some ⟨b, 0, none⟩))) rfl (by kernel_rfl) (by kernel_rfl) (by kernel_rfl) (by kernel_rfl) (fun _ _ _ h => h) (Or.inl ⟨by kernel_rfl, fun w' hw => by (go_simp)⟩) hS ?_
          refine wpAnyE_take (i := 2) (v := (.pointer (some ⟨b, 0, none⟩))) rfl (by kernel_rfl) (by kernel_rfl) (by kernel_rfl) (by kernel_rfl) (fun _ _ _ h => h) (Or.inl ⟨by kernel_rfl, fun w' hw => by (go_simp)⟩) hS ?_
          refine wpAnyE_take (i := 3) (v := (.pointer (some ⟨b, 5, none⟩))) rfl (by kernel_rfl) (by kernel_rfl) (by kernel_rfl) (by kernel_rfl) (fun _ _ _ h => h) (Or.inl ⟨by kernel_rfl, fun w' hw => by (go_simp)⟩) hS ?_
          refine wpAnyE_take (i := 4) (v := L.av) rfl (by kernel_rfl) (by kernel_rfl) (by kernel_rfl) (by kernel_rfl) (fun _ _ _ h => h) (Or.inl ⟨by kernel_rfl, fun w' hw => by (obtain ⟨z0, z1⟩ := hw; go_simp)⟩) hS ?_
          refine wpAnyE_take (i := 5) (v := (.pointer (some ⟨wr.heap.size, 0, none⟩))) rfl (by kernel_rfl) (by kernel_rfl) (by kernel_rfl) (by kernel_rfl) (fun _ _ _ h => h) (Or.inl ⟨by kernel_rfl, fun w' hw => by (go_simp)⟩) hS ?_
          refine wpAnyE_take (i := 6) (v := (.int .i64 (af : Int))) rfl (by kernel_rfl) (by kernel_rfl) (by kernel_rfl) (by kernel_rfl) (fun _ _ _ h => h) (Or.inl ⟨by kernel_rfl, fun w' hw => by (obtain ⟨z0, z1⟩ := hw; go_simp)⟩) hS ?_
          refine wpAnyE_take (i := 7) (v := (.slice (some ⟨gk, 0, none⟩) m ck)) rfl (by kernel_rfl) (by kernel_rfl) (by kernel_rfl) (by kernel_rfl) (fun _ _ _ h => h) (Or.inl ⟨by kernel_rfl, fun w' hw => by (go_simp)⟩) hS ?_
          refine wpAnyE_do (i := 8) (by kernel_rfl) rfl (by kernel_rfl) (fun K hK => ?_)
          go_wp2_with (go_at_call 52; refine (KC.out _ ?hx).mono ?_; (case hx => exact HW0.out); rintro e W4 ⟨gn, cn, rfl, hgn, hgc, hcl, hB4⟩; have HGN := hide hgn; have HGC := hide hgc; have HCL := hide hcl; have HB4 := hide hB4; clear hgn hgc hcl hB4)
          have s4 : W4.cell? ⟨b, 5, none⟩ = some L.av ∧ W4.cell? ⟨wr.heap.size, 0, none⟩ = some (.int .i64 (af : Int)) := ⟨cell8 ((HB4.out.block b (lt_of_heap HB0.out)).trans HB0.out) 5, cell8 ((HB4.out.block _ (lt_of_heap HA0.out)).trans HA0.out) 0⟩
          refine hK.out _ _ (fun _ => s4) ?_
          clear hK K
          refine wpAnyE_take (i := 9) (v := (.agg #[.int .i64 (af : Int), .slice (some ⟨gn, 0, none⟩) m cn])) rfl (by kernel_rfl) (by kernel_rfl) (by kernel_rfl) (by kernel_rfl) (fun _ _ _ h => h) (Or.inl ⟨by kernel_rfl, fun w' hw => by (go_simp)⟩) s4 ?_
          refine wpAnyE_do (i := 10) (by kernel_rfl) rfl (by kernel_rfl) (fun K hK => ?_)
          refine wp_slice_arm (.tmp 68) (by kernel_rfl) [.int .i64 (af : Int), .slice (some ⟨gn, 0, none⟩) m cn] (by kernel_rfl) (by simp) ?_
          obtain ⟨s5, qo, qc, q8⟩ := ARM5.out W4 gn cn HB4.out
          have QO := hide qo
          have QC := hide qc
          have Q8 := hide q8
          clear qo qc q8
          refine hK.out _ _ (fun _ => s5) ?_
          clear hK K
          refine wpAnyE_do (i := 11) (by kernel_rfl) rfl (by kernel_rfl) (fun K hK => ?_)
          refine wp_append_at (.tmp 63) (.tmp 69) 40 (by kernel_rfl) 0 72 ia (.agg #[.int .i64 0, .slice none 0 0]) 2 32 armSlice hia hiz his hib (by rfl) (by decide) L.av 0 [] (by kernel_rfl) QO.out ⟨W4.heap.size, 0, none⟩ 1 1 [.int .i64 (af : Int), .slice (some ⟨gn, 0, none⟩) m cn] (by kernel_rfl) (by simp) QC.out (by simp [Value.oneCell']) (by unfold maxLen; omega) (by omega) (Nat.zero_le _) ?_
          intro v8 W8 ho8 hg8 _ hl8
          obtain ⟨r0, rf, r1⟩ := Q8.out W8 hg8
          obtain ⟨a8, c8, rfl⟩ := own_slice ho8
          have HO8 := hide ho8
          have HG8 := hide hg8
          have HL8 := hide hl8
          clear ho8 hg8 hl8
          refine hK.out _ _ (fun _ => ⟨r0, r1⟩) ?_
          clear hK K
          refine wpAnyE_do (i := 12) (by kernel_rfl) rfl (by kernel_rfl) (fun K hK => ?_)
          go_simp
          refine hK.out _ _ (fun _ => ⟨r0, r1⟩) ?_
          clear hK K
          refine wpAnyE_do (i := 13) (by kernel_rfl) rfl (by kernel_rfl) (fun K hK => ?_)
          go_simp
          refine hK.out _ _ (fun _ => ⟨r0, r1⟩) ?_
          clear hK K
          refine wpAnyE_do (i := 14) (by kernel_rfl) rfl (by kernel_rfl) (fun K hK => ?_)
          go_simp
          refine hK.out _ _ (fun h => absurd rfl h) ?_
          clear hK K
          refine wpAnyE_done (by kernel_rfl) ?_ _
          try simp only [Act.put, List.getElem_toArray, List.getElem_cons_zero, List.getElem_cons_succ, List.setIfInBounds_toArray, List.set_cons_zero, List.set_cons_succ]
          go_wp2_with (fail)
          go_roundw
          case measure => simp [intOf]
          case rel =>
            refine .inr ⟨rfl, ?_⟩
            have hw0 : Below w.heap.size w W0.drew := HW0.out
            have hB4 := HB4.out
            have e4 : W0.drew.heap.size ≤ W4.heap.size := hB4.size
            have hB5 : Below W0.drew.heap.size W0.drew (W4.alloc (.cells #[.int .i64 (af : Int), .slice (some ⟨gn, 0, none⟩) m cn] 72)) := hB4.alloc e4 _
            have hw5 : Below w.heap.size w (W4.alloc (.cells #[.int .i64 (af : Int), .slice (some ⟨gn, 0, none⟩) m cn] 72)) := hw0.trans (hB5.mono hw0.size)
            have hg8 := HG8.out
            have hlt : ∀ g, L.av.ownBlock = some g → g < w.heap.size := fun g hg => by obtain ⟨c', hc'⟩ := own_type HAV0.out hg; exact lt_of_heap hc'
            have hnb : L.av.ownBlock ≠ some b := fun e => by obtain ⟨c', hc'⟩ := own_type HAV0.out e; exact ne_ty hc' HD.out.dev (by decide) rfl
            have x1 : (W4.alloc (.cells #[.int .i64 (af : Int), .slice (some ⟨gn, 0, none⟩) m cn] 72)).heap[b]? = _ := (hw5.block b HD.out.lt).trans HD.out.dev
            have y1 : W8.heap[b]? = _ := (hg8.block b (lt_of_heap x1) (fun e => hnb e.symm)).trans x1
            have z1 := heap_set1 W8 b 5 _ _ (.slice a8 1 c8) y1
            have hgn5 : gn ≠ b ∧ L.av.ownBlock ≠ some gn ∧ gn < W4.heap.size := by
              obtain ⟨c, hc⟩ := HGC.out
              have h1 := HGN.out
              have h2 := HD.out.lt
              have h3 := hw0.size
              refine ⟨by omega, fun e => by have := hlt gn e; omega, lt_of_heap hc⟩
            have q5 : ∀ k, k < (W4.alloc (.cells #[.int .i64 (af : Int), .slice (some ⟨gn, 0, none⟩) m cn] 72)).heap.size → k ≠ b → L.av.ownBlock ≠ some k → (W8.setCell ⟨b, 5, none⟩ (.slice a8 1 c8)).heap[k]? = (W4.alloc (.cells #[.int .i64 (af : Int), .slice (some ⟨gn, 0, none⟩) m cn] 72)).heap[k]? := fun k h1 h2 h3 => (heap_set_ne _ b 5 k _ h2).trans (hg8.block k h1 (fun e => h3 e.symm))
            have hgn6 : (W8.setCell ⟨b, 5, none⟩ (.slice a8 1 c8)).heap[gn]? = W4.heap[gn]? := (q5 gn (by simp; omega) hgn5.1 hgn5.2.1).trans (Below.heap_alloc _ _ _ hgn5.2.2)
            have hown : (W8.setCell ⟨b, 5, none⟩ (.slice a8 1 c8)).ownsRow 0 72 2 (.slice a8 1 c8) 1 [.int .i64 (af : Int), .slice (some ⟨gn, 0, none⟩) m cn] := ownsRow_of_block HO8.out (fun g hg => heap_set_ne _ b 5 g _ (fun e => by
              obtain ⟨c', hc'⟩ := own_type HO8.out hg
              exact ne_ty hc' y1 (by decide) e))
            have hd := HD.out.armed (w' := W8.setCell ⟨b, 5, none⟩ (.slice a8 1 c8)) (v8 := .slice a8 1 c8) (gk := gn) (af := af) (kp := kp) (by rw [z1]; rfl) hown ⟨some ⟨gn, 0, none⟩, cn, by rw [HKL.out], .inr ⟨gn, rfl, rfl, fun j x hj => (World.cell?_of_block (a := ⟨gn, j, none⟩) hgn6).trans (HCL.out j x hj)⟩⟩ (by obtain ⟨c, hc⟩ := HGC.out; exact ⟨c, hgn6.trans hc⟩) (fun k h1 h2 h3 => (q5 k (Nat.lt_of_lt_of_le h1 hw5.size) h2 h3).trans (hw5.block k h1))
            refine ⟨_, hd, fun k hk => ?_, ?_, Nat.le_refl _⟩
            · rcases hk with r | r | r | r | r | r | r
              · exact .inl (.inl r)
              · exact .inl (.inr (.inl r))
              · exact .inl (.inr (.inr (.inl r)))
              · exact .inl (.inr (.inr (.inr (.inl r))))
              · exact .inl (.inr (.inr (.inr (.inr (.inl r)))))
              · rcases HL8.out with e | e
                · rw [e] at r; exact .inl (.inr (.inr (.inr (.inr (.inr (.inl r))))))
                · rw [e] at r; cases r; exact .inr hw5.size
              · have h1 := HGN.out
                have h3 := hw0.size
                have r : k = gn := r
                exact .inr (by omega)
            · exact ((Gr.of_below hw5 : Gr (Foot b L σ) w (W4.alloc (.cells #[.int .i64 (af : Int), .slice (some ⟨gn, 0, none⟩) m cn] 72))).trans (Gr.of_grown (X := Foot b L σ) hg8 (fun k hk => .inl (.inr (.inr (.inr (.inr (.inr (.inl hk)))))))) (fun i h => .inl h)).trans (Gr.set W8 b 5 _ (X := Foot b L σ) (.inl rfl)) (fun i h => .inl h)
        · have HF := hide hF
          clear hF
          go_wp2_with (fail)
          go_ret
          exact ⟨rfl, HF.out⟩
end
end Go.Proofs.Ytcpmofdhljdkdaa
namespace Go.Proofs.Ytcpmofdhljdkdaa
open Go.RowKit Go.Shelf
set_option linter.unusedVariables false

/-- A device of a walk's own. -/
structure AtW (w W : World) (b : Nat) (L : Lay) (σ : St) : Prop where
  dev : DevL W b L σ
  ok : σ.Ok
  foot : ∀ k, Foot b L σ k → w.heap.size ≤ k
  bel : Below w.heap.size w W
theorem AtW.step {w W W' : World} {b : Nat} {L L' : Lay} {σ σ' : St} (h : AtW w W b L σ) (hd : DevL W' b L' σ') (hok : σ'.Ok) (hf : ∀ k, Foot b L' σ' k → Foot b L σ k ∨ W.heap.size ≤ k) {X : Nat → Prop} (hX : ∀ k, X k → Foot b L σ k) (hg : Gr X W W') : AtW w W' b L' σ' := by
  refine ⟨hd, hok, fun k hk => ?_, hg.1.trans h.bel.os, hg.2.1.trans h.bel.tape, hg.2.2.1.trans h.bel.output, Nat.le_trans h.bel.size hg.size, fun k hk => (hg.block (Nat.lt_of_lt_of_le hk h.bel.size) (fun hx => by have := h.foot k (hX k hx); omega)).trans (h.bel.block k hk)⟩
  rcases hf k hk with h1 | h1
  · exact h.foot k h1
  · exact Nat.le_trans h.bel.size h1
theorem AtW.below {w W W' : World} {b : Nat} {L : Lay} {σ : St} (h : AtW w W b L σ) (hB : Below W.heap.size W W') : AtW w W' b L σ := ⟨h.dev.below hB, h.ok, h.foot, h.bel.trans (hB.mono h.bel.size)⟩
theorem ok_arms {σ : St} {a : List (Nat × List Nat)} (h : σ.Ok) : ({ σ with arms := a } : St).Ok := ⟨h.pos, h.max, h.len, h.byte, h.out, h.clen, h.cbyte, h.few, h.flp, h.opsm⟩
theorem ok_off {σ : St} {o : Bool} (h : σ.Ok) : ({ σ with off := o } : St).Ok := ⟨h.pos, h.max, h.len, h.byte, h.out, h.clen, h.cbyte, h.few, h.flp, h.opsm⟩
theorem w_from {W2 : World} {g : Nat} {ys : List Nat} (ho : OwnB W2 g ys) (hl : ys.length = 128) (hb : ∀ x ∈ ys, x < 256) : Calls Try.prog 25 #[.slice (some ⟨g, 0, none⟩) 128 128] W2 fun e w' => ∃ b L, e = .returned (.tuple #[.pointer (some ⟨b, 0, none⟩), .int .i64 0]) ∧ AtW W2 w' b L (fromD 2 ys) ∧ L.N = 0 := by
  obtain ⟨ab, ao, e, hlt, hsg⟩ : ∃ ab ao, (some ⟨g, 0, none⟩ : Option Addr) = some ⟨ab, ao, none⟩ ∧ ab < W2.heap.size ∧ Seg W2 ab ao ys := by
    rcases ho.sl hb with h | h
    · rw [h] at hl; simp at hl
    · exact h
  cases e
  refine (pfrom_any W2 g 0 128 128 2 ys hsg hlt hl rfl (by omega) (by omega) hb (by omega)).mono ?_
  rintro e w' ⟨b, L, rfl, h1, h2, h3, h4⟩
  exact ⟨b, L, rfl, ⟨h1, fromD_ok (by omega) (by omega) hl hb, h2, h3⟩, h4⟩
/-- A loss is laid, that waits. -/
theorem w_arm {W2 W4 : World} {b : Nat} {L : Lay} {ys : List Nat} {i k : Nat} (h : AtW W2 W4 b L (fromD 2 ys)) (hN : L.N = 0) (hk : k < 1000) :
    Calls Try.prog 26 #[.pointer (some ⟨b, 0, none⟩), .slice (some ⟨W4.heap.size + 1, 0, none⟩) 1 1] ((W4.alloc (.cells #[.int .i64 (k : Int), .int .i64 (k : Int)] 3)).alloc (.cells #[.int .i64 (1 + (i : Int)), .slice (some ⟨W4.heap.size, 0, none⟩) 2 2] 72)) fun e w' => e = .returned (.int .i64 0) ∧ ∃ L', AtW W2 w' b L' { fromD 2 ys with arms := [(1 + i, [k, k])] } ∧ L'.N = 0 := by
  have hB1 : Below W4.heap.size W4 (W4.alloc (.cells #[.int .i64 (k : Int), .int .i64 (k : Int)] 3)) := (Below.refl _ _).alloc (Nat.le_refl _) _
  have hB2 : Below W4.heap.size W4 ((W4.alloc (.cells #[.int .i64 (k : Int), .int .i64 (k : Int)] 3)).alloc (.cells #[.int .i64 (1 + (i : Int)), .slice (some ⟨W4.heap.size, 0, none⟩) 2 2] 72)) := hB1.alloc (by simp) _
  have h2 := h.below hB2
  have hk1 : (W4.alloc (.cells #[.int .i64 (k : Int), .int .i64 (k : Int)] 3)).heap[W4.heap.size]? = some (.cells #[.int .i64 (k : Int), .int .i64 (k : Int)] 3 (0, 0)) := heap_alloc_new W4 _
  have hk2 : ((W4.alloc (.cells #[.int .i64 (k : Int), .int .i64 (k : Int)] 3)).alloc (.cells #[.int .i64 (1 + (i : Int)), .slice (some ⟨W4.heap.size, 0, none⟩) 2 2] 72)).heap[W4.heap.size]? = some (.cells #[.int .i64 (k : Int), .int .i64 (k : Int)] 3 (0, 0)) := (Below.heap_alloc _ _ _ (by simp)).trans hk1
  have hga : ((W4.alloc (.cells #[.int .i64 (k : Int), .int .i64 (k : Int)] 3)).alloc (.cells #[.int .i64 (1 + (i : Int)), .slice (some ⟨W4.heap.size, 0, none⟩) 2 2] 72)).heap[W4.heap.size + 1]? = some (.cells #[.int .i64 ((1 + i : Nat) : Int), .slice (some ⟨W4.heap.size, 0, none⟩) 2 2] 72 (0, 0)) := by
    have h5 := heap_alloc_new (W4.alloc (.cells #[.int .i64 (k : Int), .int .i64 (k : Int)] 3)) (.cells #[.int .i64 (1 + (i : Int)), .slice (some ⟨W4.heap.size, 0, none⟩) 2 2] 72)
    rw [World.size_alloc] at h5
    rw [show ((1 + i : Nat) : Int) = 1 + (i : Int) by omega]
    exact h5
  have hsn : SlN ((W4.alloc (.cells #[.int .i64 (k : Int), .int .i64 (k : Int)] 3)).alloc (.cells #[.int .i64 (1 + (i : Int)), .slice (some ⟨W4.heap.size, 0, none⟩) 2 2] 72)) (some ⟨W4.heap.size, 0, none⟩) [k, k] := by
    refine ⟨fun x hx => by simp at hx; omega, .inr ⟨_, _, _, _, rfl, hk2, fun j x hj => ?_⟩⟩
    rw [Nat.zero_add, cell8 hk2]
    match j, hj with
    | 0, hj => cases hj; rfl
    | 1, hj => cases hj; rfl
    | n + 2, hj => simp at hj
  refine (parm_one (af := 1 + i) (kp := [k, k]) h2.dev h2.ok rfl rfl (by omega) hga rfl (by omega) (by show 2 ≤ 2; omega) (by omega) hsn (fun e => by have h6 := h.dev.foot_is (.inr (.inr (.inr (.inr (.inr (.inl e)))))); omega)).mono ?_
  rintro e w' ⟨rfl, L', q1, q2, q3, q4⟩
  exact ⟨rfl, L', h2.step q1 (ok_arms h2.ok) q2 (fun k hk => hk) q3, by omega⟩
/-- Publish, and what it leaves. -/
theorem w_pub {W2 W5 : World} {b : Nat} {L : Lay} {ys : List Nat} {i j k v : Nat} (h : AtW W2 W5 b L { fromD 2 ys with arms := [(1 + i, [k, k])] }) (hN : L.N = 0) (hi : i < 4) (hj : j < 16) (hk : k < 1000) (hv : v < 18446744073709551616) :
    Calls Try.prog 11 #[.pointer (some ⟨b, 0, none⟩), .int .i64 (8 * (j : Int)), .int .u64 (v : Int)] W5 fun e w' => ∃ L' s, e = .returned (.int .i64 (if i = 3 then 0 else 5)) ∧ AtW W2 w' b L' s ∧ s.n = 2 ∧ ((i < 3 ∧ s.off = true ∧ (s.bytes = splice ys (8 * j) (leB 8 v) ∨ i < 2 ∧ s.bytes = ys)) ∨ (i = 3 ∧ s.off = false ∧ s.bytes = splice ys (8 * j) (leB 8 v) ∧ ∀ i, s.past i = [])) := by
  have hp := qpubG_any v (8 * j) h.dev h.ok rfl (by rw [hN]; exact Nat.zero_le _) ⟨.inr ⟨1 + i, [k, k], rfl, fun x hx => by simp at hx; omega, by simp⟩, by show 0 < 274877906944; omega⟩ (by show 0 + _ ≤ _; omega) (by show 0 + _ ≤ _; omega) hv (by omega) (by show 8 * j + 8 ≤ 64 * 2; omega)
  rw [show ((8 * j : Nat) : Int) = 8 * (j : Int) by omega] at hp
  refine hp.mono ?_
  rintro e w' ⟨c, s, rfl, h1, hg, L', hd, hf, _⟩
  obtain ⟨q1, q2, q3⟩ := pub_whole (σ := { fromD 2 ys with arms := [(1 + i, [k, k])] }) (n := 1 + i) h.ok (fun _ => rfl) rfl rfl rfl rfl (by omega) (by omega) (by omega) (by show 8 * j + 8 ≤ 64 * 2; omega) hv h1
  have hA := h.step hd q1 hf (fun k hk => hk) hg
  rcases q3 with ⟨r1, rfl, r2, r3⟩ | ⟨r1, rfl, r2, r3, r4⟩
  · refine ⟨L', s, by rw [if_neg (by omega)], hA, q2, .inl ⟨by omega, r2, r3.imp id (fun h => ⟨by omega, h.2⟩)⟩⟩
  · refine ⟨L', s, by rw [if_pos (by omega)], hA, q2, .inr ⟨by omega, r2, r3, r4⟩⟩
end Go.Proofs.Ytcpmofdhljdkdaa
namespace Go.Proofs.Ytcpmofdhljdkdaa
open Go.RowKit Go.Shelf
set_option linter.unusedVariables false

theorem cut_to (g o len cap m : Nat) (hm : m ≤ len) (hl : len ≤ cap) (w : World) : (Instr.sliceAt 52 (.slice (some ⟨g, o, none⟩) len cap) none (some (.int .i64 (m : Int))) none).run Try.prog w = .ok (.slice (some ⟨g, o, none⟩) m cap) w := by
  obtain ⟨i0, hi, hz0, hz1, hz2⟩ := info_parts Try.info5
  have hc2 : m ≤ cap := by omega
  simp [Instr.sliceAt, Instr.slice, Sem.run_bind, run_underlying Try.underlying52, Instr.sliceBounds, Instr.sliceBound, asIntOf, sizeOf, typeInfo, hi, Addr.add_mid, hc2]
theorem w_image {W2 W : World} {b : Nat} {L : Lay} {s : St} (h : AtW W2 W b L s) (hn : s.n = 2) : Calls Try.prog 27 #[.pointer (some ⟨b, 0, none⟩)] W fun e w' => e = .returned (.slice (some ⟨W.heap.size, 0, none⟩) 128 128) ∧ OwnB w' W.heap.size s.bytes ∧ Below W.heap.size W w' := by
  have h1 := pimg_any h.dev h.ok
  rw [hn] at h1
  exact h1
theorem w_wake {W2 W : World} {b : Nat} {L : Lay} {s : St} (h : AtW W2 W b L s) (ho : s.off = true) : Calls Try.prog 21 #[.pointer (some ⟨b, 0, none⟩)] W fun e w' => e = .returned (.int .i64 0) ∧ AtW W2 w' b L { s with off := false } := by
  refine (pwake_off h.dev ho).mono ?_
  rintro e w' ⟨rfl, hw, hd⟩
  exact ⟨rfl, h.step hd (ok_off h.ok) (fun k hk => .inl hk) (X := fun k => k = b) (fun k hk => .inl hk) (by rw [hw]; exact Gr.set W b 7 _ rfl)⟩
theorem w_crash {W2 W : World} {b : Nat} {L : Lay} {s : St} {k : Nat} (h : AtW W2 W b L s) (hk : k < 1000) (ho : s.off = false) (hp : ∀ i, s.past i = []) : Calls Try.prog 14 #[.pointer (some ⟨b, 0, none⟩), .slice (some ⟨W.heap.size, 0, none⟩) 2 2] (W.alloc (.cells #[.int .i64 (k : Int), .int .i64 (k : Int)] 3)) fun e w' => e = .returned (.int .i64 0) ∧ ∃ L' s', AtW W2 w' b L' s' ∧ s'.n = s.n ∧ s'.off = true ∧ s'.bytes = s.bytes := by
  have hB : Below W.heap.size W (W.alloc (.cells #[.int .i64 (k : Int), .int .i64 (k : Int)] 3)) := (Below.refl _ _).alloc (Nat.le_refl _) _
  have h2 := h.below hB
  have hk2 : (W.alloc (.cells #[.int .i64 (k : Int), .int .i64 (k : Int)] 3)).heap[W.heap.size]? = some (.cells #[.int .i64 (k : Int), .int .i64 (k : Int)] 3 (0, 0)) := heap_alloc_new W _
  have hsn : SlN (W.alloc (.cells #[.int .i64 (k : Int), .int .i64 (k : Int)] 3)) (some ⟨W.heap.size, 0, none⟩) [k, k] := by
    refine ⟨fun x hx => by simp at hx; omega, .inr ⟨_, _, _, _, rfl, hk2, fun j x hj => ?_⟩⟩
    rw [Nat.zero_add, cell8 hk2]
    match j, hj with
    | 0, hj => cases hj; rfl
    | 1, hj => cases hj; rfl
    | n + 2, hj => simp at hj
  refine (pcrash_any (kp := [k, k]) 2 h2.dev h2.ok ho hsn (by simp)).mono ?_
  rintro e w' ⟨rfl, L', s', q1, q2, q3, q4, _⟩
  exact ⟨rfl, L', s', h2.step q2 (Lost.ok h2.ok q1) q3 (fun k hk => hk.elim (fun e => .inl e) (fun e => .inr (.inl e))) q4, q1.n, q1.off, lost_none h2.ok.len hp q1⟩
theorem wpAnyH_go {P : Program} {ops : Array Oper} {Q : Exit → Act → World → Prop} {md : Region.Mode} {S : World → Prop} {i : Nat} {o : Oper} {fuel : Nat} {listed : Array Bool} {a : Act} {w : World} (hr : Region.ready md ops listed = [i]) (ho : ops[i]? = some o) (hw : Region.wanted o (yielded ops a.tmps) = true)
    (h : ∀ K' : Act → World → Prop, Shut (∀ a w, wpAnyH P md ops Q S fuel (listed.setIfInBounds i true) a w → K' a w) → Oper.wp P o a w K' Q) (hT : ∀ w, S w) : wpAnyH P md ops Q S (fuel + 1) listed a w := by
  refine wpAnyH_ready (rs := [i]) hr (by simp) (AllReadyH.cons ho (fun K hK => ?_) AllReadyH.nil)
  rw [if_pos hw]
  exact h K (fun a w hq => hK a w (hT w) (fun _ => hq))
theorem cut_from (g j : Nat) (hj : j < 16) (ys : List Nat) (hl : ys.length = 128) (hb : ∀ x ∈ ys, x < 256) : ∃ ad : Addr, (∀ w : World, (Instr.sliceAt 52 (.slice (some ⟨g, 0, none⟩) 128 128) (some (.int .i64 (8 * (j : Int) + 8))) none none).run Try.prog w = .ok (.slice (some ad) (128 - (8 * j + 8)) (128 - (8 * j + 8))) w) ∧ ∀ W, OwnB W g ys → Sl W (some ad) (ys.drop (8 * j + 8)) := by
  obtain ⟨i0, hi, hz0, hz1, hz2⟩ := info_parts Try.info5
  by_cases h15 : j = 15
  · subst h15
    refine ⟨⟨g, 0, none⟩, fun w => ?_, fun W h => .inl ?_⟩
    · simp [Instr.sliceAt, Instr.slice, Sem.run_bind, run_underlying Try.underlying52, Instr.sliceBounds, Instr.sliceBound, asIntOf, sizeOf, typeInfo, hi, Addr.add_mid]
    · exact List.drop_of_length_le (by omega)
  · refine ⟨⟨g, 8 * j + 8, none⟩, fun w => ?_, fun W h => ?_⟩
    · have e := slice_bytes g 0 (8 * j + 8) 128 128 (by omega) (by omega) w
      rw [Nat.zero_add, show ((8 * j + 8 : Nat) : Int) = 8 * (j : Int) + 8 by omega] at e
      exact e
    · refine .inr ⟨g, 8 * j + 8, rfl, h.lt, fun i x hx => ?_⟩
      rw [List.getElem?_drop] at hx
      exact ⟨h.cell _ _ hx, hb x (List.mem_of_getElem? hx)⟩
theorem cut_at (g j : Nat) (hj : j < 16) (w : World) : (Instr.sliceAt 52 (.slice (some ⟨g, 0, none⟩) 128 128) none (some (.int .i64 (8 * (j : Int)))) none).run Try.prog w = .ok (.slice (some ⟨g, 0, none⟩) (8 * j) 128) w := by
  have e := cut_to g 0 128 128 (8 * j) (by omega) (by omega) w
  rwa [show ((8 * j : Nat) : Int) = 8 * (j : Int) by omega] at e
theorem front_sl {W : World} {g j : Nat} {ys : List Nat} (h : OwnB W g ys) (hb : ∀ x ∈ ys, x < 256) : Sl W (some ⟨g, 0, none⟩) (ys.take (8 * j)) := by
  refine .inr ⟨g, 0, rfl, h.lt, fun i x hx => ?_⟩
  rw [List.getElem?_take] at hx
  split at hx
  · rw [Nat.zero_add]
    exact ⟨h.cell _ _ hx, hb x (List.mem_of_getElem? hx)⟩
  · cases hx
theorem w_eq {W : World} {g : Nat} {sb ws : List Nat} {aw : Option Addr} {cw n : Nat} (h : OwnB W g sb) (hl : sb.length = 128) (hb : ∀ x ∈ sb, x < 256) (hw : Sl W aw ws) (hn : ws.length = n) : Calls Try.prog 23 #[.slice (some ⟨g, 0, none⟩) 128 128, .slice aw n cw] W fun e w' => e = .returned (.bool (decide (sb = ws))) ∧ ∃ q, w' = W.drewN q := by
  have h5 := eqBytes_any (some ⟨g, 0, none⟩) aw 128 cw sb ws W (h.sl hb) hw (by omega)
  rw [hl, hn] at h5
  exact h5
set_option maxRecDepth 100000 in
set_option maxHeartbeats 4000000 in
theorem persistWhole_walk (w : World) (a : Option Addr) (cap : Nat) (bs : List Nat) (x1 x3 x4 : Int) (v : Nat) (hs : Sl w a bs) (hl : bs.length ≤ 9223372036854775807) (b1 : -9223372036854775808 ≤ x1 ∧ x1 ≤ 9223372036854775807) (b3 : -9223372036854775808 ≤ x3 ∧ x3 ≤ 9223372036854775807) (b4 : -9223372036854775808 ≤ x4 ∧ x4 ≤ 9223372036854775807) (hv : v < 18446744073709551616) :
    Calls Try.prog 5 #[.agg #[.slice a bs.length cap, .int .i64 x1, .int .u64 (v : Int), .int .i64 x3, .int .i64 x4]] w fun e w' => e = .returned (.bool true) ∧ Below w.heap.size w w' := by
  obtain ⟨j, hj, hj2⟩ : ∃ j : Nat, x1 % 16 = (j : Int) ∧ j < 16 := ⟨(x1 % 16).toNat, by omega, by omega⟩
  obtain ⟨i, hi, hi2⟩ : ∃ i : Nat, x3 % 4 = (i : Int) ∧ i < 4 := ⟨(x3 % 4).toNat, by omega, by omega⟩
  obtain ⟨k, hk, hk2⟩ : ∃ k : Nat, x4 % 1000 = (k : Int) ∧ k < 1000 := ⟨(x4 % 1000).toNat, by omega, by omega⟩
  have kw1 := fun W => rwithin_any W x1 16 (by omega) (by omega) b1.1 b1.2
  have kw3 := fun W => rwithin_any W x3 4 (by omega) (by omega) b3.1 b3.2
  have kw4 := fun W => rwithin_any W x4 1000 (by omega) (by omega) b4.1 b4.2
  rw [hj] at kw1
  rw [hi] at kw3
  rw [hk] at kw4
  obtain ⟨w0, hw0⟩ : ∃ w0, w.alloc (.cells #[.slice a bs.length cap, .int .i64 x1, .int .u64 (v : Int), .int .i64 x3, .int .i64 x4] 67) = w0 := ⟨_, rfl⟩
  have hB0 : Below w.heap.size w w0 := by rw [← hw0]; exact (Below.refl _ _).alloc (Nat.le_refl _) _
  have hbox : w0.heap[w.heap.size]? = some (.cells #[.slice a bs.length cap, .int .i64 x1, .int .u64 (v : Int), .int .i64 x3, .int .i64 x4] 67 (0, 0)) := by rw [← hw0]; exact heap_alloc_new w _
  have hs0 : w0.heap.size = w.heap.size + 1 := by rw [← hw0]; simp
  have ksz := sized_some a cap bs w0 (hs.below hB0) hl
  have kcp : ∀ (ys : List Nat) (W1 : World), ys.length = 128 → (∀ x ∈ ys, x < 256) → OwnB W1 w0.heap.size ys → Calls Try.prog 20 #[.slice (some ⟨w0.heap.size, 0, none⟩) 128 128] W1 fun e w' => e = .returned (.slice (some ⟨W1.heap.size, 0, none⟩) 128 128) ∧ OwnB w' W1.heap.size ys ∧ Below W1.heap.size W1 w' := fun ys W1 h1 h2 h3 => by
    have h5 := copyBytes_any (some ⟨w0.heap.size, 0, none⟩) 128 ys W1 (h3.sl h2) (by omega)
    rw [h1] at h5
    exact h5
  have fx : ∀ W, Below w0.heap.size w0 W → W.cell? ⟨w.heap.size, 1, none⟩ = some (.int .i64 x1) ∧ W.cell? ⟨w.heap.size, 3, none⟩ = some (.int .i64 x3) ∧ W.cell? ⟨w.heap.size, 4, none⟩ = some (.int .i64 x4) := fun W hW => by
    have h1 := (hW.block w.heap.size (by omega)).trans hbox
    exact ⟨cell8 h1 1, cell8 h1 3, cell8 h1 4⟩
  rw [← hw0] at ksz
  have KSZ := hide ksz
  have KCP := hide kcp
  have FX := hide fx
  have KW1 := hide kw1
  have KW3 := hide kw3
  have KW4 := hide kw4
  have HB0 := hide hB0
  have HW0 := hide hw0
  have HS0 := hide hs0
  have jI : (j : Int) < 16 := by omega
  have iI : (i : Int) < 4 := by omega
  clear ksz kcp fx kw1 kw3 kw4 hB0 hw0 hs0 hj hi hk b1 b3 b4 hs hbox
  generalize bs.length = m at *
  have M1 := hide trivial
  have M3 := hide trivial
  go_enter Try.func5, Try.ntmps5
  go_upto_region 9 with (first
    | (go_at_call 24; refine (KSZ.out).mono ?_; rintro e W1 ⟨ys, rfl, hyl, hyb, hoy, hb1⟩; rw [HW0.out] at hoy hb1 ⊢; have K2 := hide (KCP.out ys W1 hyl hyb hoy); have HYL := hide hyl; have HYB := hide hyb; have HOY := hide hoy; have HB1 := hide hb1; clear hyl hyb hoy hb1)
    | (go_at_call 20; refine (K2.out).mono ?_; rintro e W2 ⟨rfl, ho2, hb2⟩; have K3 := hide (w_from ho2 HYL.out HYB.out); have HB2 := hide hb2; clear ho2 hb2)
    | (go_at_call 25; refine (K3.out).mono ?_; rintro e W3 ⟨b, L, rfl, hA, hN⟩; have HA := hide hA; have HN := hide hN; clear hA hN)
    | (go_at_call 17; refine (qworks_any _).mono ?_; rintro e W4 ⟨rfl, hb⟩; replace HA := hide (HA.out.below hb); obtain ⟨f1, f3, f4⟩ := FX.out W4 (HB1.out.trans ((HB2.out.trans (HA.out.bel.mono HB2.out.size)).mono HB1.out.size)); clear hb)
    | (go_at_call 19; have M1' := M1; clear M1' M1; refine (KW1.out _).mono ?_; rintro e w' ⟨rfl, hw⟩; obtain rfl := hw.symm)
    | (go_at_call 19; have M3' := M3; clear M3' M3; refine (KW3.out _).mono ?_; rintro e w' ⟨rfl, hw⟩; obtain rfl := hw.symm)
    | (go_at_call 19; refine (KW4.out _).mono ?_; rintro e w' ⟨rfl, hw⟩; obtain rfl := hw.symm))
  have KA := hide (w_arm (i := i) (k := k) HA.out HN.out hk2)
  go_upto_region 11 with (first
    | (go_at_call 26; refine (KA.out).mono ?_; rintro e W5 ⟨rfl, L5, hA5, hN5⟩; have HA5 := hide hA5; have HN5 := hide hN5; clear hA5 hN5))
  have kp := w_pub (v := v) HA5.out HN5.out hi2 hj2 hk2 hv
  have e1 := fun W => cut_at w0.heap.size j hj2 W
  obtain ⟨ad, e2, hfr⟩ := cut_from w0.heap.size j hj2 ys HYL.out HYB.out
  obtain ⟨r, hr⟩ : ∃ r, 128 - (8 * j + 8) = r := ⟨_, rfl⟩
  simp only [hr] at e2
  have hw02 : Below w0.heap.size w0 W2 := HB1.out.trans (HB2.out.mono HB1.out.size)
  have hy2 : OwnB W2 w0.heap.size ys := HOY.out.below HB2.out HOY.out.lt
  have hy2l := hy2.lt
  have yk : ∀ W, Below W2.heap.size W2 W → OwnB W w0.heap.size ys ∧ Below w.heap.size w W := fun W hW => ⟨hy2.below hW hy2l, HB0.out.trans ((hw02.trans (hW.mono hw02.size)).mono HB0.out.size)⟩
  have hwl : (ys.take (8 * j) ++ leB 8 v ++ ys.drop (8 * j + 8)) = splice ys (8 * j) (leB 8 v) := by unfold splice; rw [leB_len, List.append_assoc]
  have l1 : (ys.take (8 * j)).length = 8 * j := by rw [List.length_take, HYL.out]; omega
  have l2 : (ys.drop (8 * j + 8)).length = r := by rw [List.length_drop, HYL.out, hr]
  have l3 : (ys.take (8 * j) ++ leB 8 v).length = 8 * j + 8 := by rw [List.length_append, l1, leB_len]
  have l4 : (splice ys (8 * j) (leB 8 v)).length = 8 * j + 8 + r := by rw [← hwl, List.length_append, l3, l2]
  have HFR := hide hfr
  have YK := hide yk
  have HWL := hide hwl
  have LL1 := hide l1
  have LL2 := hide l2
  have LL3 := hide l3
  have LL4 := hide l4
  have KL := hide (fun W => qlittle_sl v W hv)
  have HRR := hide hr
  clear hfr yk hwl l1 l2 l3 l4 hw02 hy2 hy2l hr
  by_cases h3 : i = 3
  · subst h3
    rw [if_pos rfl] at kp
    have KP := hide kp
    clear kp
    go_upto_region 17 with (first
      | (go_at_call 11; refine (KP.out).mono ?_; rintro e W6 ⟨L6, s, rfl, hA6, hn6, hr⟩; obtain ⟨ho6, hb6, hp6⟩ : s.off = false ∧ s.bytes = splice ys (8 * j) (leB 8 v) ∧ ∀ i, s.past i = [] := (by rcases hr with ⟨h, _⟩ | ⟨_, h⟩; (exact absurd h (by omega)); exact h); have KC := hide (w_crash (k := k) hA6 hk2 ho6 hp6); have HN6 := hide hn6; have HBY := hide hb6; clear hA6 hn6 hr ho6 hb6 hp6)
      | (go_at_call 14; refine (KC.out).mono ?_; rintro e WD ⟨rfl, L7, s7, hA7, hn7, ho7, hb7⟩; have KWK := hide (w_wake hA7 ho7); have HN7 := hide (hn7.trans HN6.out); have HB7 := hide (hb7.trans HBY.out); clear hA7 hn7 ho7 hb7)
      | (go_at_call 21; refine (KWK.out).mono ?_; rintro e WE ⟨rfl, hA8⟩; have KI := hide (w_image hA8 HN7.out); have HA8 := hide hA8; clear hA8)
      | (go_at_call 27; refine (KI.out).mono ?_; rintro e W8 ⟨rfl, ho8, hb8⟩; have ho8 : OwnB W8 WE.heap.size s7.bytes := ho8; rw [HB7.out] at ho8; have HL8 := hide (LL4.out.trans (show 8 * j + 8 + r = 128 from (by have := HRR.out; omega))); have HX8 := hide (show ∀ x ∈ splice ys (8 * j) (leB 8 v), x < 256 from fun x hx => (by rw [← HB7.out] at hx; exact HA8.out.ok.byte x hx)); have HB8 := hide (HA8.out.bel.trans (hb8.mono HA8.out.bel.size)); have HO8 := hide ho8; clear ho8 hb8))
    have wr8 : IntKind.i64.wrap (8 * (j : Int) + 8) = 8 * (j : Int) + 8 := by rw [IntKind.wrap_i64]; omega
    have WR8 := hide wr8
    clear wr8
    refine wp_region_held_drew (S := fun _ => True) (by kernel_rfl) trivial (fun hS => ?_)
    refine wpAnyH_take (i := 0) (v := (.slice (some ⟨w0.heap.size, 0, none⟩) 128 128)) rfl (by kernel_rfl) (by kernel_rfl) (by kernel_rfl) (fun _ _ _ h => h) (Or.inl ⟨by kernel_rfl, fun w' hw => by (go_simp)⟩) hS ?_
    refine wpAnyH_take (i := 1) (v := (.int .i64 (8 * (j : Int)))) rfl (by kernel_rfl) (by kernel_rfl) (by kernel_rfl) (fun _ _ _ h => h) (Or.inl ⟨by kernel_rfl, fun w' hw => by (go_simp)⟩) hS ?_
    refine wpAnyH_take (i := 2) (v := (.slice (some ⟨w0.heap.size, 0, none⟩) (8 * j) 128)) rfl (by kernel_rfl) (by kernel_rfl) (by kernel_rfl) (fun _ _ _ h => h) (Or.inl ⟨by kernel_rfl, fun w' hw => by (have e := e1 w'; go_simp)⟩) hS ?_
    refine wpAnyH_take (i := 3) (v := (.int .u64 (v : Int))) rfl (by kernel_rfl) (by kernel_rfl) (by kernel_rfl) (fun _ _ _ h => h) (Or.inl ⟨by kernel_rfl, fun w' hw => by (go_simp)⟩) hS ?_
    refine wpAnyH_take (i := 6) (v := (.slice (some ⟨w0.heap.size, 0, none⟩) 128 128)) rfl (by kernel_rfl) (by kernel_rfl) (by kernel_rfl) (fun _ _ _ h => h) (Or.inl ⟨by kernel_rfl, fun w' hw => by (go_simp)⟩) hS ?_
    refine wpAnyH_take (i := 7) (v := (.int .i64 (8 * (j : Int)))) rfl (by kernel_rfl) (by kernel_rfl) (by kernel_rfl) (fun _ _ _ h => h) (Or.inl ⟨by kernel_rfl, fun w' hw => by (go_simp)⟩) hS ?_
    refine wpAnyH_take (i := 8) (v := (.int .i64 (8 * (j : Int) + 8))) rfl (by kernel_rfl) (by kernel_rfl) (by kernel_rfl) (fun _ _ _ h => h) (Or.inl ⟨by kernel_rfl, fun w' hw => by (have wr := WR8.out; go_simp)⟩) hS ?_
    refine wpAnyH_take (i := 9) (v := (.slice (some ad) r r)) rfl (by kernel_rfl) (by kernel_rfl) (by kernel_rfl) (fun _ _ _ h => h) (Or.inl ⟨by kernel_rfl, fun w' hw => by (have e := e2 w'; go_simp)⟩) hS ?_
    refine wpAnyH_go (i := 4) (by kernel_rfl) rfl (by kernel_rfl) (fun K hK => ?_) (fun _ => trivial)
    go_wp2_with (go_at_call 29; refine (KL.out _).mono ?_; rintro e WA ⟨aa, ca, rfl, hsa, hba⟩; have HSA := hide hsa; have HBA := hide hba; clear hsa hba)
    refine hK.out _ _ ?_
    clear hK K
    refine wpAnyH_go (i := 5) (by kernel_rfl) rfl (by kernel_rfl) (fun K hK => ?_) (fun _ => trivial)
    have K5 := hide (qtwo_sl (some ⟨w0.heap.size, 0, none⟩) aa 128 ca (8 * j) 8 (ys.take (8 * j)) (leB 8 v) WA (front_sl (YK.out WA (HB8.out.drew.trans (HBA.out.mono HB8.out.size))).1 HYB.out) HSA.out LL1.out (leB_len v) (by omega))
    go_wp2_with (go_at_call 28; refine (K5.out).mono ?_; rintro e WB ⟨ab, cb, rfl, hsb, hbb⟩; have HSB := hide hsb; have HBB := hide hbb; clear hsb hbb)
    refine hK.out _ _ ?_
    clear hK K K5
    refine wpAnyH_go (i := 10) (by kernel_rfl) rfl (by kernel_rfl) (fun K hK => ?_) (fun _ => trivial)
    have K10 := hide (qtwo_sl ab (some ad) cb r (8 * j + 8) r (ys.take (8 * j) ++ leB 8 v) (ys.drop (8 * j + 8)) WB HSB.out (HFR.out WB (YK.out WB (HB8.out.drew.trans ((HBA.out.trans (HBB.out.mono HBA.out.size)).mono HB8.out.size))).1) LL3.out LL2.out (by have := HRR.out; omega))
    go_wp2_with (go_at_call 28; refine (K10.out).mono ?_; rintro e WC ⟨ac, cc, rfl, hsc, hbc⟩; rw [HWL.out] at hsc; have HSC := hide hsc; have HBC := hide hbc; clear hsc hbc)
    refine hK.out _ _ ?_
    clear hK K K10
    refine wpAnyH_take (i := 11) (v := (.slice ac (8 * j + 8 + r) cc)) rfl (by kernel_rfl) (by kernel_rfl) (by kernel_rfl) (fun _ _ _ h => h) (Or.inl ⟨by kernel_rfl, fun w' hw => by (go_simp)⟩) trivial ?_
    refine wpAnyH_done (by kernel_rfl) ?_ _
    simp only [Act.put, List.getElem_toArray, List.getElem_cons_zero, List.getElem_cons_succ, List.setIfInBounds_toArray, List.set_cons_zero, List.set_cons_succ]
    have hb8c : Below W8.heap.size W8 WC := (Below.refl _ W8).drew.trans (HBA.out.trans ((HBB.out.trans (HBC.out.mono HBB.out.size)).mono HBA.out.size))
    have ho9 : OwnB WC WE.heap.size (splice ys (8 * j) (leB 8 v)) := HO8.out.below hb8c HO8.out.lt
    have hbl9 : Below W2.heap.size W2 WC := HB8.out.trans (hb8c.mono HB8.out.size)
    obtain ⟨hy9, hw9⟩ := YK.out WC hbl9
    have KE := hide (w_eq (cw := cc) ho9 HL8.out HX8.out HSC.out LL4.out)
    have KY := hide (fun q => w_eq (W := WC.drewN q) (cw := 128) (n := 128) ho9 HL8.out HX8.out (OwnB.sl (show OwnB (WC.drewN q) w0.heap.size ys from hy9) HYB.out) HYL.out)
    have HW9 := hide hw9
    clear hb8c ho9 hbl9 hy9 hw9 HFR YK KL HSC HSB HSA
    rw [decide_eq_true rfl] at KE
    go_wp2_with (go_at_call 23; refine (KE.out).mono ?_; rintro e w' ⟨rfl, q, hw⟩; obtain rfl := hw.symm)
    go_ret
    exact ⟨rfl, below_drewN HW9.out q⟩
  · rw [if_neg h3] at kp
    have KP := hide kp
    clear kp
    have nI : 1 + (i : Int) ≤ 3 := by omega
    have nG : ¬ (3 : Int) < 1 + (i : Int) := by omega
    go_upto_region 17 with (first
      | (go_at_call 11; refine (KP.out).mono ?_; rintro e W6 ⟨L6, s, rfl, hA6, hn6, hr⟩; obtain ⟨ho6, hb6⟩ : s.off = true ∧ (s.bytes = splice ys (8 * j) (leB 8 v) ∨ i < 2 ∧ s.bytes = ys) := (by rcases hr with ⟨_, h⟩ | ⟨h, _⟩; (exact h); exact absurd h h3); have KWK := hide (w_wake hA6 ho6); have HN6 := hide hn6; have HBY := hide hb6; clear hA6 hn6 hr ho6 hb6)
      | (go_at_call 21; refine (KWK.out).mono ?_; rintro e WE ⟨rfl, hA8⟩; have KI := hide (w_image hA8 HN6.out); have HA8 := hide hA8; clear hA8)
      | (go_at_call 27; refine (KI.out).mono ?_; rintro e W8 ⟨rfl, ho8, hb8⟩; have ho8 : OwnB W8 WE.heap.size s.bytes := ho8; have HL8 := hide (show s.bytes.length = 128 from (by have h9 : s.bytes.length = 64 * s.n := HA8.out.ok.len; rw [h9, HN6.out])); have HX8 := hide (show ∀ x ∈ s.bytes, x < 256 from HA8.out.ok.byte); have HB8 := hide (HA8.out.bel.trans (hb8.mono HA8.out.bel.size)); have HO8 := hide ho8; clear ho8 hb8))
    have wr8 : IntKind.i64.wrap (8 * (j : Int) + 8) = 8 * (j : Int) + 8 := by rw [IntKind.wrap_i64]; omega
    have WR8 := hide wr8
    clear wr8
    refine wp_region_held_drew (S := fun _ => True) (by kernel_rfl) trivial (fun hS => ?_)
    refine wpAnyH_take (i := 0) (v := (.slice (some ⟨w0.heap.size, 0, none⟩) 128 128)) rfl (by kernel_rfl) (by kernel_rfl) (by kernel_rfl) (fun _ _ _ h => h) (Or.inl ⟨by kernel_rfl, fun w' hw => by (go_simp)⟩) hS ?_
    refine wpAnyH_take (i := 1) (v := (.int .i64 (8 * (j : Int)))) rfl (by kernel_rfl) (by kernel_rfl) (by kernel_rfl) (fun _ _ _ h => h) (Or.inl ⟨by kernel_rfl, fun w' hw => by (go_simp)⟩) hS ?_
    refine wpAnyH_take (i := 2) (v := (.slice (some ⟨w0.heap.size, 0, none⟩) (8 * j) 128)) rfl (by kernel_rfl) (by kernel_rfl) (by kernel_rfl) (fun _ _ _ h => h) (Or.inl ⟨by kernel_rfl, fun w' hw => by (have e := e1 w'; go_simp)⟩) hS ?_
    refine wpAnyH_take (i := 3) (v := (.int .u64 (v : Int))) rfl (by kernel_rfl) (by kernel_rfl) (by kernel_rfl) (fun _ _ _ h => h) (Or.inl ⟨by kernel_rfl, fun w' hw => by (go_simp)⟩) hS ?_
    refine wpAnyH_take (i := 6) (v := (.slice (some ⟨w0.heap.size, 0, none⟩) 128 128)) rfl (by kernel_rfl) (by kernel_rfl) (by kernel_rfl) (fun _ _ _ h => h) (Or.inl ⟨by kernel_rfl, fun w' hw => by (go_simp)⟩) hS ?_
    refine wpAnyH_take (i := 7) (v := (.int .i64 (8 * (j : Int)))) rfl (by kernel_rfl) (by kernel_rfl) (by kernel_rfl) (fun _ _ _ h => h) (Or.inl ⟨by kernel_rfl, fun w' hw => by (go_simp)⟩) hS ?_
    refine wpAnyH_take (i := 8) (v := (.int .i64 (8 * (j : Int) + 8))) rfl (by kernel_rfl) (by kernel_rfl) (by kernel_rfl) (fun _ _ _ h => h) (Or.inl ⟨by kernel_rfl, fun w' hw => by (have wr := WR8.out; go_simp)⟩) hS ?_
    refine wpAnyH_take (i := 9) (v := (.slice (some ad) r r)) rfl (by kernel_rfl) (by kernel_rfl) (by kernel_rfl) (fun _ _ _ h => h) (Or.inl ⟨by kernel_rfl, fun w' hw => by (have e := e2 w'; go_simp)⟩) hS ?_
    refine wpAnyH_go (i := 4) (by kernel_rfl) rfl (by kernel_rfl) (fun K hK => ?_) (fun _ => trivial)
    go_wp2_with (go_at_call 29; refine (KL.out _).mono ?_; rintro e WA ⟨aa, ca, rfl, hsa, hba⟩; have HSA := hide hsa; have HBA := hide hba; clear hsa hba)
    refine hK.out _ _ ?_
    clear hK K
    refine wpAnyH_go (i := 5) (by kernel_rfl) rfl (by kernel_rfl) (fun K hK => ?_) (fun _ => trivial)
    have K5 := hide (qtwo_sl (some ⟨w0.heap.size, 0, none⟩) aa 128 ca (8 * j) 8 (ys.take (8 * j)) (leB 8 v) WA (front_sl (YK.out WA (HB8.out.drew.trans (HBA.out.mono HB8.out.size))).1 HYB.out) HSA.out LL1.out (leB_len v) (by omega))
    go_wp2_with (go_at_call 28; refine (K5.out).mono ?_; rintro e WB ⟨ab, cb, rfl, hsb, hbb⟩; have HSB := hide hsb; have HBB := hide hbb; clear hsb hbb)
    refine hK.out _ _ ?_
    clear hK K K5
    refine wpAnyH_go (i := 10) (by kernel_rfl) rfl (by kernel_rfl) (fun K hK => ?_) (fun _ => trivial)
    have K10 := hide (qtwo_sl ab (some ad) cb r (8 * j + 8) r (ys.take (8 * j) ++ leB 8 v) (ys.drop (8 * j + 8)) WB HSB.out (HFR.out WB (YK.out WB (HB8.out.drew.trans ((HBA.out.trans (HBB.out.mono HBA.out.size)).mono HB8.out.size))).1) LL3.out LL2.out (by have := HRR.out; omega))
    go_wp2_with (go_at_call 28; refine (K10.out).mono ?_; rintro e WC ⟨ac, cc, rfl, hsc, hbc⟩; rw [HWL.out] at hsc; have HSC := hide hsc; have HBC := hide hbc; clear hsc hbc)
    refine hK.out _ _ ?_
    clear hK K K10
    refine wpAnyH_take (i := 11) (v := (.slice ac (8 * j + 8 + r) cc)) rfl (by kernel_rfl) (by kernel_rfl) (by kernel_rfl) (fun _ _ _ h => h) (Or.inl ⟨by kernel_rfl, fun w' hw => by (go_simp)⟩) trivial ?_
    refine wpAnyH_done (by kernel_rfl) ?_ _
    simp only [Act.put, List.getElem_toArray, List.getElem_cons_zero, List.getElem_cons_succ, List.setIfInBounds_toArray, List.set_cons_zero, List.set_cons_succ]
    have hb8c : Below W8.heap.size W8 WC := (Below.refl _ W8).drew.trans (HBA.out.trans ((HBB.out.trans (HBC.out.mono HBB.out.size)).mono HBA.out.size))
    have ho9 : OwnB WC WE.heap.size s.bytes := HO8.out.below hb8c HO8.out.lt
    have hbl9 : Below W2.heap.size W2 WC := HB8.out.trans (hb8c.mono HB8.out.size)
    obtain ⟨hy9, hw9⟩ := YK.out WC hbl9
    have KE := hide (w_eq (cw := cc) ho9 HL8.out HX8.out HSC.out LL4.out)
    have KY := hide (fun q => w_eq (W := WC.drewN q) (cw := 128) (n := 128) ho9 HL8.out HX8.out (OwnB.sl (show OwnB (WC.drewN q) w0.heap.size ys from hy9) HYB.out) HYL.out)
    have HW9 := hide hw9
    clear hb8c ho9 hbl9 hy9 hw9 HFR YK KL HSC HSB HSA
    by_cases he : s.bytes = splice ys (8 * j) (leB 8 v)
    · rw [decide_eq_true he] at KE
      go_wp2_with (go_at_call 23; refine (KE.out).mono ?_; rintro e w' ⟨rfl, q, hw⟩; obtain rfl := hw.symm)
      go_ret
      exact ⟨rfl, below_drewN HW9.out q⟩
    · obtain ⟨hlt2, hby⟩ : i < 2 ∧ s.bytes = ys := HBY.out.resolve_left he
      rw [decide_eq_false he] at KE
      simp only [decide_eq_true hby] at KY
      have nL : 1 + (i : Int) < 3 := by omega
      have M6 := hide trivial
      go_wp2_with (first
        | (go_at_call 23; have M6' := M6; clear M6' M6; refine (KE.out).mono ?_; rintro e w' ⟨rfl, q, hw⟩; obtain rfl := hw.symm)
        | (go_at_call 23; refine (KY.out q).mono ?_; rintro e w' ⟨rfl, q2, hw⟩; obtain rfl := hw.symm))
      go_ret
      exact ⟨rfl, below_drewN HW9.out (q + q2)⟩
end Go.Proofs.Ytcpmofdhljdkdaa
namespace Go.Proofs.Ytcpmofdhljdkdaa
open Go.ChangeShapes Go.WideShapes Go.ChangeAt Go.RowKit
set_option linter.unusedVariables false

theorem own : ownKnob Try.prog.godebug = none := by kernel_rfl
theorem laidOut : laidOutB Try.prog = true := by kernel_rfl
theorem Try.bytes5 : Try.prog.bytesOf 5 = 1 := by kernel_rfl

/-- Numbers that fit a byte, as naturals. -/
theorem nats_of (zs : List Int) (h : ∀ n ∈ zs, (Lit.int .u8 n).wf = true) : ∃ bs : List Nat, zs = bs.map (fun (x : Nat) => (x : Int)) ∧ ∀ x ∈ bs, x < 256 := by
  refine ⟨zs.map Int.toNat, ?_, ?_⟩
  · rw [List.map_map]
    refine (List.map_id zs).symm.trans (List.map_congr_left fun z hz => ?_)
    have := bounds_u8 (h z hz)
    simp
    omega
  · intro x hx
    obtain ⟨z, hz, rfl⟩ := List.mem_map.1 hx
    have := bounds_u8 (h z hz)
    omega

theorem open_bytes {H : Type} {enc : TypeId × Value → H} {W : World} {a : Option Addr} {len cap : Nat} {d : DataW H} {p : List MemPlace} (h : DataW.Trod enc Try.prog W 0 (fun _ => true) true 52 (.slice a len cap) d p)
    (hz : ∀ el sp, d = .slice el sp → (el.length + sp.length) * Try.prog.bytesOf 5 ≤ reachBytes) : ∃ bs : List Nat, len = bs.length ∧ Sl W a bs ∧ bs.length ≤ 140737488351232 ∧ (a = none → cap = 0) ∧ len ≤ cap ∧ cap ≤ maxLen ∧ (d = .nil ∧ bs = [] ∨ ∃ el sp, d = .slice el sp ∧ el.length = bs.length) := by
  obtain ⟨fuel, hf⟩ := h
  rcases open_ints Try.underlying52 Try.underlying5 (by kernel_rfl) hf with ⟨hcs, _⟩ | ⟨x, l, c, zs, hcs, _, hl, hm, hzl, hx, hcell, hwz⟩
  · simp [Value.cells] at hcs
    obtain ⟨rfl, rfl, rfl⟩ := hcs
    rename_i hx0
    simp only [Prod.mk.injEq] at hx0
    exact ⟨[], rfl, .inl rfl, by simp, fun _ => rfl, Nat.le_refl _, Nat.zero_le _, .inl ⟨hx0.1, rfl⟩⟩
  · simp [Value.cells] at hcs
    obtain ⟨rfl, rfl, rfl⟩ := hcs
    simp only [Prod.mk.injEq] at hx
    obtain ⟨hd, _⟩ := hx
    have hw := hz _ _ hd
    obtain ⟨bs, rfl, hb⟩ := nats_of zs hwz
    simp only [if_true, List.length_map] at hzl
    rw [Try.bytes5] at hw
    simp only [lits, List.length_map, List.length_take, List.length_drop, reachBytes] at hw
    refine ⟨bs.take len, by rw [List.length_take]; omega, ?_, by rw [List.length_take]; omega, fun h => (by cases h), hl, hm, .inr ⟨_, _, hd, by simp [lits]⟩⟩
    by_cases h0 : len = 0
    · subst h0; exact .inl (by simp)
    · obtain ⟨b, off, spot⟩ := x
      have hc := hcell 0 (by simp; omega)
      have hspot : spot = none := by simpa [Addr.add] using World.cell?_spot hc
      subst hspot
      refine .inr ⟨b, off, rfl, ?_, fun i y hy => ?_⟩
      · exact World.block_lt_of_cell? _ _ hc
      · have hi : i < len := by
          have := (List.getElem?_eq_some_iff.1 hy).1
          rw [List.length_take] at this
          omega
        rw [List.getElem?_take, if_pos hi] at hy
        have h1 := hcell i (by simp; omega)
        refine ⟨?_, hb y (List.mem_of_getElem? hy)⟩
        have e : (⟨b, off, none⟩ : Addr).add i = ⟨b, off + i, none⟩ := by simp [Addr.add]
        rw [e] at h1
        rw [h1, List.getD_eq_getElem?_getD, List.getElem?_map, hy]
        rfl
theorem open_bytes_up {H : Type} {enc : TypeId × Value → H} {W : World} {a : Option Addr} {len cap : Nat} {d : DataW H} {p : List MemPlace} (h : DataW.Trod enc Try.prog W 0 (fun _ => true) true 52 (.slice a len cap) d p) : ∃ bs : List Nat, len = bs.length ∧ Sl W a bs ∧ bs.length ≤ maxLen ∧ (a = none → cap = 0) ∧ len ≤ cap ∧ cap ≤ maxLen ∧ (d = .nil ∧ bs = [] ∨ ∃ el sp, d = .slice el sp ∧ el.length = bs.length) := by
  obtain ⟨fuel, hf⟩ := h
  rcases open_ints Try.underlying52 Try.underlying5 (by kernel_rfl) hf with ⟨hcs, _⟩ | ⟨x, l, c, zs, hcs, _, hl, hm, hzl, hx, hcell, hwz⟩
  · simp [Value.cells] at hcs
    obtain ⟨rfl, rfl, rfl⟩ := hcs
    rename_i hx0
    simp only [Prod.mk.injEq] at hx0
    exact ⟨[], rfl, .inl rfl, by simp, fun _ => rfl, Nat.le_refl _, Nat.zero_le _, .inl ⟨hx0.1, rfl⟩⟩
  · simp [Value.cells] at hcs
    obtain ⟨rfl, rfl, rfl⟩ := hcs
    simp only [Prod.mk.injEq] at hx
    obtain ⟨hd, _⟩ := hx
    obtain ⟨bs, rfl, hb⟩ := nats_of zs hwz
    simp only [if_true, List.length_map] at hzl
    refine ⟨bs.take len, by rw [List.length_take]; omega, ?_, by rw [List.length_take]; omega, fun h => (by cases h), hl, hm, .inr ⟨_, _, hd, by simp [lits]⟩⟩
    by_cases h0 : len = 0
    · subst h0; exact .inl (by simp)
    · obtain ⟨b, off, spot⟩ := x
      have hc := hcell 0 (by simp; omega)
      have hspot : spot = none := by simpa [Addr.add] using World.cell?_spot hc
      subst hspot
      refine .inr ⟨b, off, rfl, ?_, fun i y hy => ?_⟩
      · exact World.block_lt_of_cell? _ _ hc
      · have hi : i < len := by
          have := (List.getElem?_eq_some_iff.1 hy).1
          rw [List.length_take] at this
          omega
        rw [List.getElem?_take, if_pos hi] at hy
        have h1 := hcell i (by simp; omega)
        refine ⟨?_, hb y (List.mem_of_getElem? hy)⟩
        have e : (⟨b, off, none⟩ : Addr).add i = ⟨b, off + i, none⟩ := by simp [Addr.add]
        rw [e] at h1
        rw [h1, List.getD_eq_getElem?_getD, List.getElem?_map, hy]
        rfl
theorem open_nums_up {H : Type} {enc : TypeId × Value → H} {W : World} {a : Option Addr} {len cap : Nat} {d : DataW H} {p : List MemPlace} (h : DataW.Trod enc Try.prog W 0 (fun _ => true) true 53 (.slice a len cap) d p) :
    ∃ zs : List Int, len = zs.length ∧ SlI W a zs ∧ (∀ z ∈ zs, -9223372036854775808 ≤ z ∧ z ≤ 9223372036854775807) ∧ (d = .nil ∧ zs = [] ∨ ∃ el sp, d = .slice el sp ∧ el.length = zs.length) := by
  obtain ⟨fuel, hf⟩ := h
  rcases open_ints Try.underlying53 Try.underlying3 (by kernel_rfl) hf with ⟨hcs, hx0⟩ | ⟨x, l, c, zs, hcs, _, hl, hm, hzl, hx, hcell, hwz⟩
  · simp [Value.cells] at hcs
    obtain ⟨rfl, rfl, rfl⟩ := hcs
    simp only [Prod.mk.injEq] at hx0
    exact ⟨[], rfl, .inl rfl, by simp, .inl ⟨hx0.1, rfl⟩⟩
  · simp [Value.cells] at hcs
    obtain ⟨rfl, rfl, rfl⟩ := hcs
    simp only [Prod.mk.injEq] at hx
    obtain ⟨hd, _⟩ := hx
    simp only [if_true] at hzl
    refine ⟨zs.take len, by rw [List.length_take]; omega, ?_, fun z hz => bounds_i64 (hwz z (List.mem_of_mem_take hz)), .inr ⟨_, _, hd, by simp [lits]⟩⟩
    by_cases h0 : len = 0
    · subst h0; exact .inl (by simp)
    · obtain ⟨b, off, spot⟩ := x
      have hc := hcell 0 (by omega)
      have hspot : spot = none := by simpa [Addr.add] using World.cell?_spot hc
      subst hspot
      refine .inr ⟨b, off, rfl, World.block_lt_of_cell? _ _ hc, fun i y hy => ?_⟩
      have hi : i < len := by
        have := (List.getElem?_eq_some_iff.1 hy).1
        rw [List.length_take] at this
        omega
      rw [List.getElem?_take, if_pos hi] at hy
      have h1 := hcell i (by omega)
      have e : (⟨b, off, none⟩ : Addr).add i = ⟨b, off + i, none⟩ := by simp [Addr.add]
      rw [e] at h1
      rw [h1, List.getD_eq_getElem?_getD, hy]
      rfl

theorem bulk_pos {H : Type} (d : DataW H) : 1 ≤ Rows.uptoBulk d := by
  cases d with
  | lit l => cases l <;> simp [Rows.uptoBulk]
  | _ => simp [Rows.uptoBulk]
theorem bulk_len {H : Type} (l : List (DataW H)) : l.length ≤ Rows.uptoBulkAll l := by
  induction l with
  | nil => simp [Rows.uptoBulkAll]
  | cons d r ih =>
    have := bulk_pos d
    simp only [Rows.uptoBulkAll, List.length_cons]
    omega
/-- What the bound says of bytes that came in. -/
theorem bulk_bytes {H : Type} {d : DataW H} {bs : List Nat} (h : d = .nil ∧ bs = [] ∨ ∃ el sp, d = .slice el sp ∧ el.length = bs.length) : bs.length ≤ Rows.uptoBulk d := by
  rcases h with ⟨_, rfl⟩ | ⟨el, sp, rfl, h⟩
  · simp
  · have := bulk_len el
    simp only [Rows.uptoBulk]
    omega
theorem bulk_nums {H : Type} {d : DataW H} {zs : List Int} (h : d = .nil ∧ zs = [] ∨ ∃ el sp, d = .slice el sp ∧ el.length = zs.length) : zs.length ≤ Rows.uptoBulk d := by
  rcases h with ⟨_, rfl⟩ | ⟨el, sp, rfl, h⟩
  · simp
  · have := bulk_len el
    simp only [Rows.uptoBulk]
    omega
theorem bulk_of {H : Type} {l : List (DataW H)} (h : Rows.uptoSmall H l = true) : Rows.uptoBulkAll l ≤ 1048576 := of_decide_eq_true h

end Go.Proofs.Ytcpmofdhljdkdaa
namespace Go.Proofs.Ytcpmofdhljdkdaa
open Go.ChangeShapes Go.WideShapes Go.ChangeAt Go.RowKit
set_option linter.unusedVariables false
set_option maxRecDepth 100000

theorem Try.cellsW : Try.prog.cellsOf 67 = 5 := by kernel_rfl
theorem Try.cellsI : Try.prog.cellsOf 3 = 1 := by kernel_rfl
theorem Try.cellsU : Try.prog.cellsOf 23 = 1 := by kernel_rfl
theorem Try.cellsY : Try.prog.cellsOf 52 = 1 := by kernel_rfl
/-- The five cells. -/
theorem word_cells {H : Type} {enc : TypeId × Value → H} {W : World} {fuel : Nat} {cs : List Value} {x : DataW H × List MemPlace}
    (h : DataW.trod enc Try.prog W 0 (fun _ => true) true fuel 67 cs = some x) :
    ∃ (a : Option Addr) (cap : Nat) (bs : List Nat) (x1 : Int) (v : Nat) (x3 x4 : Int), cs = [.slice a bs.length cap, .int .i64 x1, .int .u64 (v : Int), .int .i64 x3, .int .i64 x4] ∧ Sl W a bs ∧ bs.length ≤ 9223372036854775807 ∧ (-9223372036854775808 ≤ x1 ∧ x1 ≤ 9223372036854775807) ∧ (-9223372036854775808 ≤ x3 ∧ x3 ≤ 9223372036854775807) ∧ (-9223372036854775808 ≤ x4 ∧ x4 ≤ 9223372036854775807) ∧ v < 18446744073709551616 := by
  obtain ⟨xs, n, _, hx, hl, hlen, hf⟩ := DataW.trod_struct Try.underlying67 h
  rw [Try.cellsW] at hl
  match cs, hl with
  | [c0, c1, c2, c3, c4], _ =>
    match xs, hlen with
    | [y0, y1, y2, y3, y4], _ =>
      have h0 := hf 0 _ rfl
      have h1 := hf 1 _ rfl
      have h2 := hf 2 _ rfl
      have h3 := hf 3 _ rfl
      have h4 := hf 4 _ rfl
      simp [Try.cellsI, Try.cellsU, Try.cellsY] at h0 h1 h2 h3 h4
      obtain ⟨a, l, c, rfl⟩ : ∃ a l c, c0 = .slice a l c := by
        rcases open_ints Try.underlying52 Try.underlying5 (by kernel_rfl) h0 with ⟨e, _⟩ | ⟨a, l, c, _, e, _⟩
        · simp at e; exact ⟨_, _, _, e⟩
        · simp at e; exact ⟨_, _, _, e⟩
      obtain ⟨bs, rfl, hs, hbl, _⟩ := open_bytes_up (d := y0.1) (p := y0.2) ⟨n, h0⟩
      obtain ⟨b, e1, _, w1⟩ := DataW.trod_int Try.underlying3 h1
      obtain ⟨z, e2, _, w2⟩ := DataW.trod_int Try.underlying23 h2
      obtain ⟨d, e3, _, w3⟩ := DataW.trod_int Try.underlying3 h3
      obtain ⟨e, e4, _, w4⟩ := DataW.trod_int Try.underlying3 h4
      simp at e1 e2 e3 e4
      subst e1 e2 e3 e4
      have b2 := bounds_u64 w2
      obtain ⟨v, rfl⟩ : ∃ v : Nat, z = (v : Int) := ⟨z.toNat, by omega⟩
      exact ⟨a, c, bs, b, v, d, e, rfl, hs, hbl, bounds_i64 w1, bounds_i64 w3, bounds_i64 w4, by omega⟩
theorem open_word {H : Type} {enc : TypeId × Value → H} {W : World} {r : Reach} {b0 : Nat} {v : Value} {d : DataW H} {p : List MemPlace}
    (hv : Value.okWide Try.prog W r b0 67 v) (h : DataW.Trod enc Try.prog W 0 (fun _ => true) true 67 v d p) :
    ∃ (a : Option Addr) (cap : Nat) (bs : List Nat) (x1 : Int) (u : Nat) (x3 x4 : Int), v = .agg #[.slice a bs.length cap, .int .i64 x1, .int .u64 (u : Int), .int .i64 x3, .int .i64 x4] ∧ Sl W a bs ∧ bs.length ≤ 9223372036854775807 ∧ (-9223372036854775808 ≤ x1 ∧ x1 ≤ 9223372036854775807) ∧ (-9223372036854775808 ≤ x3 ∧ x3 ≤ 9223372036854775807) ∧ (-9223372036854775808 ≤ x4 ∧ x4 ≤ 9223372036854775807) ∧ u < 18446744073709551616 := by
  obtain ⟨cs, rfl, hsz⟩ := okWide_struct Try.underlying67 hv
  obtain ⟨fuel, hf⟩ := h
  obtain ⟨a, cap, bs, x1, u, x3, x4, e5, hb⟩ := word_cells hf
  refine ⟨a, cap, bs, x1, u, x3, x4, ?_, hb⟩
  have e' : cs.toList = [.slice a bs.length cap, .int .i64 x1, .int .u64 (u : Int), .int .i64 x3, .int .i64 x4] := by simpa [Value.cells] using e5
  rw [← Array.toArray_toList (xs := cs), e']
end Go.Proofs.Ytcpmofdhljdkdaa
namespace Go.Proofs.Ytcpmofdhljdkdaa.persistWhole
open Go.ChangeShapes Go.WideShapes Go.ChangeAt Go.RowKit Go.Proofs.Ytcpmofdhljdkdaa
set_option linter.unusedVariables false

set_option maxRecDepth 100000 in
theorem lifted (os : Os) (started : os.Started) (H : Type) (enc : TypeId × Value → H) :
    ReturnsInHanded {} Try.checked os 5 .any (Rows.persistWholeSpec.pre6 enc Try.prog Try.f5 Rows.persistWholeRow.domain false) (Rows.persistWholeSpec.post enc Try.prog Try.f5 false true false false) := by
  refine returnsInHanded_of_change (C := Try.checked) own started (by kernel_rfl) Try.func5
    (ChangeSpec.witness6 (enc := enc) (C := Try.checked) false ⟨#[], #[.agg #[.slice none 0 0, .int .i64 0, .int .u64 0, .int .i64 0, .int .i64 0]], []⟩ 8 (by kernel_rfl) (by kernel_rfl) (by kernel_rfl) (by kernel_rfl)) ?_
  intro W base args ds gs before hval0 hW hcnd _
  have hval : ∀ (j : Nat) t v, Try.f5.params[j]? = some t → args[j]? = some v → Value.okWide Try.prog W .any base t v := hval0
  have hW' := hW
  obtain ⟨p, q, hA0, hV, rfl, hfz, hnd⟩ := hW
  have hA : DataW.TrodAll enc Try.prog W 0 (fun _ => true) true Try.f5.params.toList args.toList ds p := hA0
  rw [Try.params5] at hA hval
  obtain ⟨v0, vs0, d0, ds0, p0, q0, hargs, rfl, rfl, h0, r0⟩ := trodAll_cons hA
  obtain ⟨rfl, rfl, rfl⟩ := trodAll_nil r0
  obtain rfl : args = #[v0] := by cases args; simp_all
  obtain ⟨rfl, rfl⟩ := trodVars_none hV
  have k0 := h0
  have lt0 : ∀ x ∈ p0, x.block < W.heap.size := by obtain ⟨m, hm⟩ := k0; exact DataW.trod_lt m _ _ _ hm
  obtain ⟨wa0, wc0, wb0, wx0, wv0, wy0, wz0, rfl, s0, l0, b0, b0y, b0z, b0v⟩ := open_word (hval 0 67 v0 rfl rfl) h0
  clear hval0
  clear hA0
  refine (persistWhole_walk W wa0 wc0 wb0 wx0 wy0 wz0 wv0 s0 l0 b0 b0y b0z b0v).mono fun e W' ⟨he, bel⟩ => ?_
  subst he
  exact ⟨_, rfl, _, _, _, [], _, [], hW', trodAll_mk1 (shut_bool Try.underlying4 _), (trodAll_cons_mk (Below.trod laidOut (by kernel_rfl) (of_decide_eq_true (by kernel_rfl)) k0 bel lt0) trodAll_mk0), rfl, bel.frame _, fun h => by cases h⟩

theorem over : Rows.persistWholeRow.holds Try.pinned (OpenSpec.ofChange Rows.persistWholeSpec) :=
  OpenClaim.holds_of_wide 5 Try.f5 rfl rfl rfl rfl rfl rfl rfl ⟨rfl, rfl, rfl, rfl, rfl⟩ rfl rfl rfl rfl rfl (by kernel_rfl) Try.func5 (by kernel_rfl)
    (of_decide_eq_true (by kernel_rfl)) (by unfold Func.isWrapper; first | (rw [if_pos (by decide +kernel)]; kernel_rfl) | (rw [if_neg (by decide +kernel)]; exact ⟨rfl, rfl⟩))
    (fun os started H enc _ => lifted os started H enc)

end Go.Proofs.Ytcpmofdhljdkdaa.persistWhole

namespace Go.Proofs.Ytcpmofdhljdkdaa
/-- PersistWhole, as it is stated. -/
theorem persistWhole_holds : Rows.PersistWholeSaid := persistWhole.over
#print axioms persistWhole_holds
end Go.Proofs.Ytcpmofdhljdkdaa
