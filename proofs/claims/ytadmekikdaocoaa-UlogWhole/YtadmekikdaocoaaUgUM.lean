/- Pure: the bytes behind a Write, behind a store elsewhere, and behind a Rollback. -/
import Derived.Test.YtadmekikdaocoaaUgJM
namespace Go.Proofs.Ytadmekikdaocoaa
open Go.RowKit Go.Shelf
set_option linter.unusedVariables false
set_option maxRecDepth 100000
attribute [local go_sem] Oper.semAt_some
/-- What is asked, and no panic. -/
def noPan (Q : Exit → Act → World → Prop) : Exit → Act → World → Prop
  | .panic _, _, _ => False
  | e, a, w => Q e a w
theorem noPan_le {Q : Exit → Act → World → Prop} : ∀ e a w, noPan Q e a w → Q e a w := fun e a w h => by cases e <;> first | exact h | exact h.elim
theorem noPan_normal {Q : Exit → Act → World → Prop} {a : Act} {w : World} (h : Q .normal a w) : noPan Q .normal a w := h
theorem plog_nd : NDt 29 := ⟨by decide, by decide, by decide, by decide, by decide, by decide⟩
theorem rec_nd : NDt 63 := ⟨by decide, by decide, by decide, by decide, by decide, by decide⟩
theorem err_nd : NDt 35 := ⟨by decide, by decide, by decide, by decide, by decide, by decide⟩
theorem stab_log {β : Type} {H : TypeId → Prop} {B g b a z : Nat} (hb : g < B) : Stab H B (fun (_ : β) W => LogL W g b a z) := fun s W W' hJ hs => hs.2 g _ hJ (.inl hb)
/-- As Atd, and where it was laid stays. -/
def AtS (w : World) (b : Nat) (L : Lay) (σ : St) (w' : World) (s : St) (m : Nat) (c : Int) : Prop := Gr (Foot b L σ) w w' ∧ ∃ L', DevL w' b L' s ∧ (∀ k, Foot b L' s k → Foot b L σ k ∨ w.heap.size ≤ k) ∧ L'.N ≤ L.N + m ∧ L'.KB = L.KB ∧ (c = 0 → SameL L L')
theorem AtS.atd {w w' : World} {b m : Nat} {L : Lay} {σ s : St} {c : Int} (h : AtS w b L σ w' s m c) : Atd w b L σ w' s m := by
  obtain ⟨h1, L', h2, h3, h4, _⟩ := h
  exact ⟨h1, L', h2, h3, h4⟩
theorem Dv.wentS {w w' : World} {b m : Nat} {L : Lay} {σ s : St} (h : Dv w b L σ) (ha : AtS w b L σ w' s m 0) (hl : LikeG σ s m) (hlt : σ.ops + m < 1400000000000) : ∃ L', Dv w' b L' s ∧ (∀ k, Foot b L' s k → Foot b L σ k ∨ w.heap.size ≤ k) ∧ L'.N ≤ L.N + m ∧ SameL L L' := by
  obtain ⟨hg, L', hd, hf, hN, _, hs⟩ := ha
  have h1 := h.num
  have h2 := hl.ops
  have h3 := hl.cnt
  have h4 := h.cn
  refine ⟨L', ⟨hd, hl.ok, hl.off.trans h.on, by omega, ⟨by rw [hl.arms]; exact h.few.one, ?_⟩, ?_⟩, hf, hN, hs rfl⟩
  · have := h.few.cnt
    rw [h3]
    split
    · omega
    · omega
  · rw [h3]
    split <;> omega
theorem dvs_store {w : World} {b : Nat} {L : Lay} {σ : St} {a : Option Addr} {bs : List Nat} (at_ cap : Nat) (h : Dv w b L σ) (hops : σ.ops + 2000000 ≤ 1400000000000) (hsl : Sl w a bs) (hcap : bs.length ≤ cap) (hlen : at_ + bs.length ≤ 64 * σ.n) (haf : ∀ ad, a = some ad → ad.block < w.heap.size ∧ ¬ Foot b L σ ad.block) :
    Calls Try.prog 23 #[.pointer (some ⟨b, 0, none⟩), .int .i64 (at_ : Int), .slice a bs.length cap] w fun e w' => ∃ c s, e = .returned (.int .i64 c) ∧ RunD (wds bs at_ (wordsOf at_ bs.length)) σ c s ∧ AtS w b L σ w' s (wordsOf at_ bs.length).length c := by
  have hm := h.ok.max
  have hcn := h.cn
  have hwl := wordsOf_len (at_ := at_) (n := bs.length) (by omega)
  refine (psto_gen at_ cap h.dev h.ok h.on h.num h.few (by omega) (by omega) hsl hcap hlen haf).mono ?_
  rintro e w' ⟨c, s, L', h1, h2, h3, h4, h5, h6⟩
  exact ⟨c, s, h1, wr_run h.ok hsl.lt (wordsOf_lt hlen hm) (by omega) h2, h5, L', h3, h4, h6⟩
/-- The operations that put a record back. -/
def bckF (xn : Nat) (old : List Nat) : List (St → St) := wds old xn (wordsOf xn old.length) ++ fls (linesOf xn old.length)
set_option maxHeartbeats 1000000 in
theorem lrestore_in {w : World} {g b a z xn R o cap : Nat} {L : Lay} {σ : St} {old : List Nat} (h : LogL w g b a z) (hd : Dv w b L σ) (hops : σ.ops + 4000000 ≤ 1400000000000) (hsl : Sl w (some ⟨R, o, none⟩) old) (hcap : old.length ≤ cap) (hlen : xn + old.length ≤ 64 * σ.n) (haf : R < w.heap.size ∧ ¬ Foot b L σ R) :
    CallsIn Fence.wide 3 Try.prog 44 #[.pointer (some ⟨g, 0, none⟩), .agg #[.int .i64 (xn : Int), .slice (some ⟨R, o, none⟩) old.length cap]] w fun e w' => ∃ c s, e = .returned (.int .i64 c) ∧ RunD (bckF xn old) σ c s ∧ AtS w b L σ w' s (bckF xn old).length c := by
  have hnm := hd.ok.max
  have hwl := wordsOf_len (at_ := xn) (n := old.length) (by omega)
  have hll := linesOf_len (at_ := xn) (n := old.length) (by omega)
  have hbl : (bckF xn old).length = (wordsOf xn old.length).length + (linesOf xn old.length).length := by unfold bckF; rw [List.length_append, wds_len, fls_len]
  have hlk := acts_like (N := σ.n) (wds old xn (wordsOf xn old.length)) σ (wds_good hsl.lt (wordsOf_lt hlen hnm)) hd.ok rfl (by rw [wds_len]; omega)
  rw [wds_len] at hlk
  have HB0 := hide (show Below w.heap.size w (((w.alloc (.cells #[.pointer (some ⟨g, 0, none⟩)] 29)).alloc (.cells #[.int .i64 (xn : Int), .slice (some ⟨R, o, none⟩) old.length cap] 63)).alloc (.cells #[.int .i64 0] 35)) from (((Below.refl _ w).alloc (Nat.le_refl _) _).alloc (by simp) _).alloc (by simp; omega) _)
  have hsz : (((w.alloc (.cells #[.pointer (some ⟨g, 0, none⟩)] 29)).alloc (.cells #[.int .i64 (xn : Int), .slice (some ⟨R, o, none⟩) old.length cap] 63)).alloc (.cells #[.int .i64 0] 35)).heap.size = w.heap.size + 3 := by simp
  have b2 : (((w.alloc (.cells #[.pointer (some ⟨g, 0, none⟩)] 29)).alloc (.cells #[.int .i64 (xn : Int), .slice (some ⟨R, o, none⟩) old.length cap] 63)).alloc (.cells #[.int .i64 0] 35)).heap[w.heap.size]? = some (.cells #[.pointer (some ⟨g, 0, none⟩)] 29 (0, 0)) := by
    rw [Below.heap_alloc _ _ _ (by simp; omega), Below.heap_alloc _ _ _ (by simp)]
    exact heap_alloc_new w _
  have b3 : (((w.alloc (.cells #[.pointer (some ⟨g, 0, none⟩)] 29)).alloc (.cells #[.int .i64 (xn : Int), .slice (some ⟨R, o, none⟩) old.length cap] 63)).alloc (.cells #[.int .i64 0] 35)).heap[w.heap.size + 1]? = some (.cells #[.int .i64 (xn : Int), .slice (some ⟨R, o, none⟩) old.length cap] 63 (0, 0)) := by
    rw [Below.heap_alloc _ _ _ (by simp)]
    have k := heap_alloc_new (w.alloc (.cells #[.pointer (some ⟨g, 0, none⟩)] 29)) (.cells #[.int .i64 (xn : Int), .slice (some ⟨R, o, none⟩) old.length cap] 63)
    rw [World.size_alloc] at k
    exact k
  have b4 := Boxed.new ((w.alloc (.cells #[.pointer (some ⟨g, 0, none⟩)] 29)).alloc (.cells #[.int .i64 (xn : Int), .slice (some ⟨R, o, none⟩) old.length cap] 63)) 35 (.int .i64 0)
  simp only [World.size_alloc] at b4
  refine callsIn_of_wp_marks Try.func44 rfl trivial ?_ rfl
  simp only [Try.ntmps44, List.size_toArray, List.length_cons, List.length_nil, Nat.reduceAdd, Nat.reduceSub, Array.replicate_succ, Array.replicate_zero, List.push_toArray, List.append_toArray, List.nil_append, List.cons_append]
  gi_wp2_with (fail)
  generalize ((w.alloc (.cells #[.pointer (some ⟨g, 0, none⟩)] 29)).alloc (.cells #[.int .i64 (xn : Int), .slice (some ⟨R, o, none⟩) old.length cap] 63)).alloc (.cells #[.int .i64 0] 35) = W0 at *
  have hbd := HB0.out.drew
  have HD0 := hide (hd.below hbd)
  have KST := hide (dvs_store xn cap HD0.out (by omega) (hsl.below hbd) hcap hlen (fun ad e => by cases e; exact ⟨by show R < W0.heap.size; omega, haf.2⟩))
  have S1 := hide (show W0.drew.heap[w.heap.size]? = some (.cells #[.pointer (some ⟨g, 0, none⟩)] 29 (0, 0)) ∧ LogL W0.drew g b a z ∧ W0.drew.heap[w.heap.size + 1]? = some (.cells #[.int .i64 (xn : Int), .slice (some ⟨R, o, none⟩) old.length cap] 63 (0, 0)) from ⟨b2, (h.below HB0.out).drew, b3⟩)
  have B4 := hide (show Boxed W0.drew (w.heap.size + 1 + 1) 35 (.int .i64 0) from b4)
  have HLK := hide hlk
  have BK := hide (fun (c : Int) (s : St) (h : RunD (wds old xn (wordsOf xn old.length) ++ fls (linesOf xn old.length)) σ c s) => show RunD (bckF xn old) σ c s from h)
  have HBL := hide hbl
  have hsl256 := hide hsl.lt
  obtain ⟨ln, hln⟩ : ∃ ln, old.length = ln := ⟨_, rfl⟩
  rw [hln] at KST S1 HLK HBL BK hcap hlen hwl hll
  clear h hd hsl b2 b3 b4 hlk hbl hbd haf
  refine wpIn_wide.2 (Go.wp_mono (Q := noPan _) ?_ noPan_le)
  refine wp_region_held_drew (S := fun Y => Y.heap[w.heap.size]? = some (.cells #[.pointer (some ⟨g, 0, none⟩)] 29 (0, 0)) ∧ LogL Y g b a z ∧ Y.heap[w.heap.size + 1]? = some (.cells #[.int .i64 (xn : Int), .slice (some ⟨R, o, none⟩) ln cap] 63 (0, 0))) (by kernel_rfl) S1.out (fun hS => ?_)
  refine wpAnyH_take (i := 0) (v := (.pointer (some ⟨g, 0, none⟩))) rfl (by kernel_rfl) (by kernel_rfl) (by kernel_rfl) (fun _ _ _ h => h) (Or.inl ⟨by kernel_rfl, fun w' hw => by (have z0 : w'.cell? ⟨w.heap.size, 0, none⟩ = some (.pointer (some ⟨g, 0, none⟩)) := cell8 hw.1 0; have z1 := LogL.c1 hw.2.1; have z2 : w'.cell? ⟨w.heap.size + 1, 0, none⟩ = some (.int .i64 (xn : Int)) := cell8 hw.2.2 0; have z3 : w'.cell? ⟨w.heap.size + 1, 1, none⟩ = some (.slice (some ⟨R, o, none⟩) ln cap) := cell8 hw.2.2 1; go_simp)⟩) hS ?_
  refine wpAnyH_take (i := 1) (v := (.pointer (some ⟨g, 0, none⟩))) rfl (by kernel_rfl) (by kernel_rfl) (by kernel_rfl) (fun _ _ _ h => h) (Or.inl ⟨by kernel_rfl, fun w' hw => by (go_simp)⟩) hS ?_
  refine wpAnyH_take (i := 2) (v := (.pointer (some ⟨g, 1, none⟩))) rfl (by kernel_rfl) (by kernel_rfl) (by kernel_rfl) (fun _ _ _ h => h) (Or.inl ⟨by kernel_rfl, fun w' hw => by (go_simp)⟩) hS ?_
  refine wpAnyH_take (i := 3) (v := (.pointer (some ⟨b, 0, none⟩))) rfl (by kernel_rfl) (by kernel_rfl) (by kernel_rfl) (fun _ _ _ h => h) (Or.inl ⟨by kernel_rfl, fun w' hw => by (have z0 : w'.cell? ⟨w.heap.size, 0, none⟩ = some (.pointer (some ⟨g, 0, none⟩)) := cell8 hw.1 0; have z1 := LogL.c1 hw.2.1; have z2 : w'.cell? ⟨w.heap.size + 1, 0, none⟩ = some (.int .i64 (xn : Int)) := cell8 hw.2.2 0; have z3 : w'.cell? ⟨w.heap.size + 1, 1, none⟩ = some (.slice (some ⟨R, o, none⟩) ln cap) := cell8 hw.2.2 1; go_simp)⟩) hS ?_
  refine wpAnyH_take (i := 4) (v := (.pointer (some ⟨(w.heap.size + 1), 0, none⟩))) rfl (by kernel_rfl) (by kernel_rfl) (by kernel_rfl) (fun _ _ _ h => h) (Or.inl ⟨by kernel_rfl, fun w' hw => by (go_simp)⟩) hS ?_
  refine wpAnyH_take (i := 5) (v := (.int .i64 (xn : Int))) rfl (by kernel_rfl) (by kernel_rfl) (by kernel_rfl) (fun _ _ _ h => h) (Or.inl ⟨by kernel_rfl, fun w' hw => by (have z0 : w'.cell? ⟨w.heap.size, 0, none⟩ = some (.pointer (some ⟨g, 0, none⟩)) := cell8 hw.1 0; have z1 := LogL.c1 hw.2.1; have z2 : w'.cell? ⟨w.heap.size + 1, 0, none⟩ = some (.int .i64 (xn : Int)) := cell8 hw.2.2 0; have z3 : w'.cell? ⟨w.heap.size + 1, 1, none⟩ = some (.slice (some ⟨R, o, none⟩) ln cap) := cell8 hw.2.2 1; go_simp)⟩) hS ?_
  refine wpAnyH_take (i := 6) (v := (.pointer (some ⟨(w.heap.size + 1), 1, none⟩))) rfl (by kernel_rfl) (by kernel_rfl) (by kernel_rfl) (fun _ _ _ h => h) (Or.inl ⟨by kernel_rfl, fun w' hw => by (go_simp)⟩) hS ?_
  refine wpAnyH_take (i := 7) (v := (.slice (some ⟨R, o, none⟩) ln cap)) rfl (by kernel_rfl) (by kernel_rfl) (by kernel_rfl) (fun _ _ _ h => h) (Or.inl ⟨by kernel_rfl, fun w' hw => by (have z0 : w'.cell? ⟨w.heap.size, 0, none⟩ = some (.pointer (some ⟨g, 0, none⟩)) := cell8 hw.1 0; have z1 := LogL.c1 hw.2.1; have z2 : w'.cell? ⟨w.heap.size + 1, 0, none⟩ = some (.int .i64 (xn : Int)) := cell8 hw.2.2 0; have z3 : w'.cell? ⟨w.heap.size + 1, 1, none⟩ = some (.slice (some ⟨R, o, none⟩) ln cap) := cell8 hw.2.2 1; go_simp)⟩) hS ?_
  refine wpAnyH_goS (i := 8) (by kernel_rfl) rfl (by kernel_rfl) (fun K hK => ?_)
  go_wp2_with (go_at_call 23; refine (KST.out).mono ?_; rintro e Ws ⟨c, s1, rfl, hrun, hats⟩; have HRUN := hide hrun; have HATD := hide hats.atd; have HATS := hide hats; clear hrun hats)
  have hS2 := (show Ws.heap[w.heap.size]? = some (.cells #[.pointer (some ⟨g, 0, none⟩)] 29 (0, 0)) ∧ LogL Ws g b a z ∧ Ws.heap[w.heap.size + 1]? = some (.cells #[.int .i64 (xn : Int), .slice (some ⟨R, o, none⟩) ln cap] 63 (0, 0)) from ⟨HATD.out.kept HD0.out.dev S1.out.1 plog_nd, S1.out.2.1.atd HD0.out.dev HATD.out, HATD.out.kept HD0.out.dev S1.out.2.2 rec_nd⟩)
  refine hK.out _ _ hS2 ?_
  clear hK K
  refine wpAnyH_take (i := 9) (v := (.int .i64 c)) rfl (by kernel_rfl) (by kernel_rfl) (by kernel_rfl) (fun _ _ _ h => h) (Or.inl ⟨by kernel_rfl, fun w' hw => by (go_simp)⟩) hS2 ?_
  refine wpAnyH_done (by kernel_rfl) (noPan_normal ?_) _
  simp only [Act.put, List.getElem_toArray, List.getElem_cons_zero, List.getElem_cons_succ, List.setIfInBounds_toArray, List.set_cons_zero, List.set_cons_succ]
  have hW := hS2
  have x0 : Ws.cell? ⟨w.heap.size + 1, 0, none⟩ = some (.int .i64 (xn : Int)) := cell8 hW.2.2 0
  have x1 : Ws.cell? ⟨w.heap.size + 1, 1, none⟩ = some (.slice (some ⟨R, o, none⟩) ln cap) := cell8 hW.2.2 1
  have e4 : Boxed Ws (w.heap.size + 1 + 1) 35 (.int .i64 0) := HATD.out.kept HD0.out.dev B4.out err_nd
  have hWss : W0.drew.heap.size ≤ Ws.heap.size := HATD.out.size
  have hdz : W0.drew.heap.size = W0.heap.size := rfl
  have hE : w.heap.size + 3 ≤ Ws.heap.size := by omega
  have hgws : Gr (Foot b L σ) w Ws := (Gr.of_below HB0.out.drew).trans HATD.out.1 (fun i h => .inl h)
  have HGWS := hide hgws
  have E4 := hide e4
  have c4 := e4.cell
  have z4 := e4.frozen
  clear hS hS2 KST B4 S1 hgws e4
  rcases HRUN.out.code with rfl | rfl
  · obtain ⟨L1, hd1, hf1, hN1, hsL⟩ := HD0.out.wentS HATS.out (by rw [HRUN.out.zero]; exact HLK.out) (by omega)
    have hl1 : LikeG σ s1 (wordsOf xn ln).length := by rw [HRUN.out.zero]; exact HLK.out
    have hO := hd1.dev.old_
    have hf1' : ∀ k, Foot b L1 s1 k → Foot b L σ k ∨ w.heap.size ≤ k := fun k hk => (hf1 k hk).imp id (fun h => by omega)
    have HF1 := hide hf1'
    have hN := hd1.num
    have hok := hd1.ok
    have ho := hd1.on
    have hfw := hd1.few
    have hcn0 := hd1.cn
    have q1 := hl1.ops
    have q2 := hl1.n
    have hops1 : s1.ops + 600000 ≤ 1400000000000 := by omega
    have hcn : s1.cnt + 600000 ≤ 1400000000000 := by omega
    have hlen1 : xn + ln ≤ 64 * s1.n := by rw [q2]; exact hlen
    have hnm1 : s1.n ≤ 65536 := by rw [q2]; exact hnm
    have HL1 := hide hl1
    have HSL := hide hsL
    clear hsL
    clear hl1 hf1 hf1' hcn0 q1 q2
    gi_wp2_with (refine ⟨trivial, ?_⟩; gi_at_call 66; refine (lines_in _ _ trivial rfl (xn : Int) (ln : Int) _).mono ?_; rintro e w' ⟨rfl, rfl⟩)
    have hB1 : Below Ws.heap.size Ws ((Ws.alloc (.cells #[.int .i64 (xn : Int)] 3)).alloc (.cells #[.int .i64 (ln : Int)] 3)) := ((Below.refl _ Ws).alloc (Nat.le_refl _) _).alloc (by simp) _
    have hsz1 : ((Ws.alloc (.cells #[.int .i64 (xn : Int)] 3)).alloc (.cells #[.int .i64 (ln : Int)] 3)).heap.size = Ws.heap.size + 2 := by simp
    have b7 := (Boxed.new Ws 3 (.int .i64 (xn : Int))).alloc (.cells #[.int .i64 (ln : Int)] 3)
    have b8 := Boxed.new (Ws.alloc (.cells #[.int .i64 (xn : Int)] 3)) 3 (.int .i64 (ln : Int))
    simp only [World.size_alloc] at b8
    obtain ⟨W1, hW1⟩ : ∃ W1, (Ws.alloc (.cells #[.int .i64 (xn : Int)] 3)).alloc (.cells #[.int .i64 (ln : Int)] 3) = W1 := ⟨_, rfl⟩
    rw [hW1] at b7 b8 hB1 hsz1 ⊢
    clear hW1
    have hd0 := hd1.dev.below hB1
    have b2 : W1.heap[w.heap.size]? = some (.cells #[.pointer (some ⟨g, 0, none⟩)] 29 (0, 0)) := (hB1.block _ (by omega)).trans hW.1
    have bl : LogL W1 g b a z := hW.2.1.below hB1
    have b4 : Boxed W1 (w.heap.size + 1 + 1) 35 (.int .i64 0) := (hB1.block _ (by omega)).trans E4.out
    have hgl : g < Ws.heap.size := lt_of_heap hW.2.1
    clear x0 x1 c4 z4 hW hdz
    apply rangeX (gf := 82) (lb := #[.pointer (some ⟨Ws.heap.size, 0, none⟩), .pointer (some ⟨Ws.heap.size + 1, 0, none⟩)]) (encs := encI) rfl (enters_of Try.func82 (by kernel_rfl) rfl)
      (lines_x HP (fun k => k = Ws.heap.size ∨ k = Ws.heap.size + 1) Ws.heap.size (Ws.heap.size + 1) (xn : Int) (ln : Int) W1 (by omega) (by omega) b7.cell b8.cell (by omega) (by omega)) (Below.refl _ _) (fun k hk => by omega) (fun _ => rfl)
      (fun pre W' => (W'.heap[w.heap.size]? = some (.cells #[.pointer (some ⟨g, 0, none⟩)] 29 (0, 0)) ∧ (LogL W' g b a z ∧ (Boxed W' (w.heap.size + 1 + 1) 35 (.int .i64 0) ∧ (Boxed W' Ws.heap.size 3 (.int .i64 (xn : Int)) ∧ Boxed W' (Ws.heap.size + 1) 3 (.int .i64 (ln : Int)))))) ∧ (Gr (Foot b L1 s1) W1 W' ∧ ∃ L', DevL W' b L' (linesG s1 (pre.map Int.toNat)) ∧ (SameL L1 L' ∧ L'.N ≤ L1.N + pre.length ∧ (∀ k, Foot b L' (linesG s1 (pre.map Int.toNat)) k → Foot b L1 s1 k ∨ Ws.heap.size ≤ k) ∧ ∀ af kp, s1.arms = [(af, kp)] → pre ≠ [] → s1.cnt + pre.length < af)))
      (fun c pre W' => (c = .ret ∧ Boxed W' (w.heap.size + 1 + 1) 35 (.int .i64 5)) ∧ (Gr (fun k => Foot b L1 s1 k ∨ k = w.heap.size + 1 + 1) Ws W' ∧ ∃ L' σ', DevL W' b L' σ' ∧ ((L'.KB = L1.KB ∧ L'.N ≤ L1.N + pre.length) ∧ (∃ pr no, pre.map Int.toNat = pr ++ [no] ∧ Opd (flA (linesG s1 pr) no) 5 σ') ∧ ∀ k, Foot b L' σ' k → Foot b L1 s1 k ∨ Ws.heap.size ≤ k)))
      (Stab.and (Stab.and (Stab.blk _ (by omega)) (Stab.and (stab_log (by omega)) (Stab.and (Stab.box _ _ (by omega)) (Stab.and (Stab.box _ _ (by omega)) (Stab.box _ _ (by omega)))))) (Stab.and (stab_gr (Nat.le_refl _)) (fun s W W' hJ hs => by obtain ⟨L', h1, h2, h3⟩ := hJ; exact ⟨L', stab_dev (σ := fun _ : Unit => linesG s1 (s.map Int.toNat)) (hO.same h2) (by omega) () W W' h1 hs, h2, h3⟩)))
      (fun c => Stab.and (Stab.and (Stab.pure _) (Stab.box _ _ (by omega))) (Stab.and (stab_gr (by omega)) (fun s W W' hJ hs => by obtain ⟨L', σ', h1, h2⟩ := hJ; exact ⟨L', σ', dev_sub h1 (fun k hk => by rw [h2.1.1] at hk; have := hO.kb k hk; omega) hs, h2⟩)))
      ⟨⟨b2, bl, b4, b7, b8⟩, Gr.refl _ _, L1, hd0, SameL.refl L1, by simp, fun k hk => .inl hk, fun _ _ _ h => absurd rfl h⟩
    case hassign =>
      intro l' x W' K hK
      simp only [encI]
      gi_wp2
      exact hK
    case hbody =>
      rintro l' pre x W ⟨⟨h2, hlg, h4, h7, h8⟩, hgW, L', hdW, hsame, hNL, hfoot, _⟩ hpx
      obtain ⟨no, rfl, hno, hpl⟩ := unit_told hlen1 hnm1 hpx
      obtain ⟨k1, k2, k3, k4, k5, k6⟩ := linesG_like (pre.map Int.toNat) s1 hok (by rw [List.length_map]; omega)
      rw [List.length_map] at k3
      have hsn : linesG s1 ((pre ++ [(no : Int)]).map Int.toNat) = tick (flA (linesG s1 (pre.map Int.toNat)) no) := by rw [List.map_append, List.map_cons, List.map_nil, linesG_snoc]; rfl
      generalize hgk : linesG s1 (pre.map Int.toNat) = σk at *
      have HGK := hide hgk
      clear hgk
      rw [List.length_map] at k6
      have HCT := hide k6
      have HAR := hide k4
      have hfk : Few σk := ⟨by rw [k4]; exact hfw.one, by rw [k6]; split <;> omega⟩
      have kf := pflush_gen hdW k1 (k5.trans ho) hfk (no * 64) (by omega) (by omega) (by omega)
      rw [show no * 64 / 64 = no by omega] at kf
      have e3 : ((no * 64 : Nat) : Int) = (no : Int) * 64 := by omega
      rw [e3] at kf
      have c2 := cell8 h2 0
      have cl := hlg.c1
      have noI : (no : Int) ≤ 65536 := by omega
      have hOL := hO.same hsame
      have n2 := foot_nd hdW h2 plog_nd
      have nl := foot_nd hdW hlg log_nd
      have n4 := foot_nd hdW h4 err_nd
      have n7 := box_foot hdW hOL h7 (by omega) (by unfold HP; decide)
      have n8 := box_foot hdW hOL h8 (by omega) (by unfold HP; decide)
      have KF := hide kf
      have HD := hide hdW
      have HG := hide hgW
      have HF := hide hfoot
      have HS := hide hsame
      have H2 := hide h2
      have HLG := hide hlg
      have H4 := hide h4
      have H7 := hide h7
      have H8 := hide h8
      have HSN := hide hsn
      have HOL := hide hOL
      have HNL := hide hNL
      clear kf hdW hgW hfoot hsame h2 hlg h4 h7 h8 hsn hpx k1 k2 k3 k4 k5 k6 hNL hOL hfk
      have N4 := hide n4
      rcases Classical.em (fires (flA σk no)) with hF | hF
      · have HF0 := hide hF
        clear hF
        gi_wp2_with (refine ⟨trivial, ?_⟩; gi_at_call 41; refine (inR (KF.out)).mono ?_; rintro e W2 ⟨c, σ2, L2, rfl, ho2, hd2, hf2, hg2, hN2, hk2, hs2⟩; obtain rfl := ho2.yes HF0.out; have y6 : Boxed W2 (w.heap.size + 1 + 1) 35 (.int .i64 0) := hg2.keep H4.out N4.out; have cy6 := y6.cell; have zy6 := y6.frozen; have Y6 := hide y6; have HO2 := hide ho2; have HD2 := hide hd2; have HF2 := hide hf2; have HG2 := hide hg2; have HN2 := hide hN2; have HK2 := hide hk2; clear ho2 hd2 hf2 hg2 hN2 hk2 hs2 y6)
        have hdW := HD.out
        have hOL := HOL.out
        have g1 := HG2.out
        have h2 := HN2.out
        have h3 := HNL.out
        have h4 := HG.out.size
        have hd5 : DevL (W2.setCell ⟨w.heap.size + 1 + 1, 0, none⟩ (.int .i64 5)) b L2 σ2 := HD2.out.keep (fun k hk => heap_set_ne W2 _ 0 k _ (fun e => by
          rcases HF2.out k hk with h5 | h5
          · exact N4.out (e ▸ h5)
          · omega))
        have g0 : Gr (Foot b L1 s1) Ws W := (Gr.of_below hB1).trans HG.out (fun i h => .inl h)
        refine ⟨(g1.kp (fun k o hk hf => ⟨fun hn => by rcases hn with e | e; exact n7 (e ▸ hf); exact n8 (e ▸ hf), ?_⟩)).trans (Kp.set _ (fun h => by omega) (by omega)), ⟨rfl, Y6.out.set _⟩, ((g0.trans g1 HF.out).mono (fun k h => .inl h)).trans (Gr.set W2 _ 0 _ (X := fun k => k = w.heap.size + 1 + 1) rfl) (fun i h => .inl (.inr h)), L2, σ2, hd5, ⟨HK2.out.trans HS.out.2.2.2.2, ?_⟩, ⟨pre.map Int.toNat, no, by simp, ?_⟩, fun k hk => ?_⟩
        · rcases foot_cases hdW hOL hf with h1 | ⟨o', h1, h2⟩
          · exact .inl (by omega)
          · rw [hk] at h1; cases h1; exact .inr h2
        · rw [List.length_append, List.length_singleton]; omega
        · rw [HGK.out]; exact HO2.out
        · rcases HF2.out k hk with h5 | h5
          · exact HF.out k h5
          · exact .inr (by omega)
      · have HF0 := hide hF
        clear hF
        gi_wp2_with (refine ⟨trivial, ?_⟩; gi_at_call 41; refine (inR (KF.out)).mono ?_; rintro e W2 ⟨c, σ2, L2, rfl, ho2, hd2, hf2, hg2, hN2, hk2, hs2⟩; obtain ⟨rfl, rfl⟩ := ho2.no HF0.out; have HS2 := hide (hs2 rfl); have HD2 := hide hd2; have HF2 := hide hf2; have HG2 := hide hg2; have HN2 := hide hN2; have HK2 := hide hk2; clear ho2 hd2 hf2 hg2 hN2 hk2 hs2)
        have hdW := HD.out
        have hOL := HOL.out
        have g1 := HG2.out
        have h2 := HN2.out
        have h3 := HNL.out
        have h4 := HG.out.size
        refine ⟨g1.kp (fun k o hk hf => ⟨fun hn => by rcases hn with e | e; exact n7 (e ▸ hf); exact n8 (e ▸ hf), ?_⟩), ⟨g1.keep H2.out n2, g1.keep HLG.out nl, g1.keep H4.out n4, g1.box H7.out n7, g1.box H8.out n8⟩, HG.out.trans g1 (fun i hi => ?_), L2, ?_, HS.out.trans HS2.out, ?_, fun k hk => ?_, fun af kp e _ => ?_⟩
        · rcases foot_cases hdW hOL hf with h1 | ⟨o', h1, h2⟩
          · exact .inl (by omega)
          · rw [hk] at h1; cases h1; exact .inr h2
        · rcases HF.out i hi with h5 | h5
          · exact .inl h5
          · have q7 : i ≠ Ws.heap.size := fun e => n7 (e ▸ hi)
            have q8 : i ≠ Ws.heap.size + 1 := fun e => n8 (e ▸ hi)
            exact .inr (by omega)
        · rw [HSN.out]; exact HD2.out
        · rw [List.length_append, List.length_singleton]; omega
        · rw [HSN.out] at hk
          rcases HF2.out k hk with h5 | h5
          · exact HF.out k h5
          · exact .inr (by omega)
        · refine Classical.byContradiction fun hc => HF0.out ⟨af, kp, HAR.out.trans e, ?_⟩
          show af ≤ σk.cnt + 1
          rw [HCT.out, if_neg (by rw [e]; simp)]
          rw [List.length_append, List.length_singleton] at hc
          omega
    case hdone =>
      rintro D W hD ⟨⟨h2, hlg, h4, h7, h8⟩, hgW, L', hdW, hsame, hNL, hfoot, hpu⟩ hK
      have n4 := foot_nd hdW h4 err_nd
      have c6 := h4.cell
      have z6 := h4.frozen
      have hl : (unitsV 64 (xn : Int) (ln : Int)).length = (linesOf xn ln).length := by unfold linesOf; rw [List.length_map]
      rw [hl] at hNL hpu
      have HPU := hide hpu
      clear hpu
      have hd' : DevL W b L' (linesG s1 (linesOf xn ln)) := hdW
      have hf' : ∀ k, Foot b L' (linesG s1 (linesOf xn ln)) k → Foot b L1 s1 k ∨ Ws.heap.size ≤ k := hfoot
      have HD := hide hd'
      have HG := hide hgW
      have HF := hide hf'
      have HS := hide hsame
      have HK := hide hK
      have H4 := hide h4
      clear h2 hlg h4 h7 h8 hgW hdW hsame hfoot hK hl hd' hf'
      gi_wp2
      have hne : D ≠ w.heap.size + 1 + 1 := by omega
      have hK' : (W.setCell ⟨w.heap.size + 1 + 1, 0, none⟩ (.int .i64 0)).heap[D]? = some (.deferred (some [])) := (heap_set_ne W _ 0 D _ hne).trans HK.out
      refine ⟨by simp, .inl ⟨_, _, rfl, run_takeDeferred hK', ?_⟩⟩
      have hd2 : DevL (W.setCell ⟨w.heap.size + 1 + 1, 0, none⟩ (.int .i64 0)) b L' (linesG s1 (linesOf xn ln)) := HD.out.keep (fun k hk => heap_set_ne W _ 0 k _ (fun e => n4 (e ▸ hk)))
      have hgr : Gr (Foot b L σ) w ((W.setCell ⟨w.heap.size + 1 + 1, 0, none⟩ (.int .i64 0)).putObj D (.deferred none)) := by
        have g1 : Gr (Foot b L σ) w W := HGWS.out.trans ((Gr.of_below hB1).trans HG.out (fun i h => .inl h)) HF1.out
        have g2 : Gr (fun k => k = w.heap.size + 1 + 1) W (W.setCell ⟨w.heap.size + 1 + 1, 0, none⟩ (.int .i64 0)) := Gr.set W _ 0 _ rfl
        have g3 : Gr (fun k => k = D) (W.setCell ⟨w.heap.size + 1 + 1, 0, none⟩ (.int .i64 0)) ((W.setCell ⟨w.heap.size + 1 + 1, 0, none⟩ (.int .i64 0)).putObj D (.deferred none)) := Gr.of_grown (grownBy_putObj' _ D _) (fun k hk => .inl (by cases hk; rfl))
        exact (g1.trans g2 (fun i h => .inr (by omega))).trans g3 (fun i h => .inr (by omega))
      have hrf : RunD (fls (linesOf xn ln)) s1 0 (linesG s1 (linesOf xn ln)) := .inl ⟨rfl, (fls_acts _ _).symm⟩
      refine ⟨_, results_boxP rfl _ _ (w.heap.size + 1 + 1) _ _ rfl ((World.putObj_heap_other (Ne.symm hne)).trans (H4.out.set _)) (fun _ h => loadE h), 0, _, rfl, BK.out _ _ (HRUN.out.app0 hrf HL1.out.arms), hgr, L', hd2.put_ hK' _, fun k hk => ?_, ?_⟩
      · rcases HF.out k hk with h5 | h5
        · exact HF1.out k h5
        · exact .inr (by omega)
      · refine ⟨by rw [HBL.out]; omega, (HSL.out.trans HS.out).2.2.2.2, fun _ => HSL.out.trans HS.out⟩
    case hstop =>
      rintro D c pre W2 hD hpre ⟨⟨rfl, h4⟩, hgW, L', σ', hdW, ⟨hkb, hNL⟩, ⟨pr, no, hpn, hop⟩, hfoot⟩ hK
      have HD := hide hdW
      have HG := hide hgW
      have HF := hide hfoot
      have HOP := hide hop
      have HPN := hide hpn
      have HPR := hide hpre
      have HNL := hide hNL
      have HKB := hide hkb
      have H4 := hide h4
      clear h4 hgW hdW hfoot hop hpn hpre hNL hkb
      gi_wp2
      have hne : D ≠ w.heap.size + 1 + 1 := by omega
      refine ⟨by simp, .inl ⟨_, _, rfl, run_takeDeferred hK, ?_⟩⟩
      have hgr : Gr (Foot b L σ) w (W2.putObj D (.deferred none)) := (HGWS.out.trans HG.out (fun i h => h.elim (HF1.out i) (fun e => .inr (by omega)))).trans (Gr.of_grown (X := fun k => k = D) (grownBy_putObj' _ D _) (fun k hk => .inl (by cases hk; rfl))) (fun i h => .inr (by omega))
      have hpl := HPR.out.length_le
      have hl : (unitsV 64 (xn : Int) (ln : Int)).length = (linesOf xn ln).length := by unfold linesOf; rw [List.length_map]
      have h9 := HNL.out
      have hfd : FlD s1 (linesOf xn ln) 5 σ' := .inr ⟨rfl, pr, no, by
        have := HPR.out.map Int.toNat
        rw [HPN.out] at this
        exact this, HOP.out⟩
      refine ⟨_, results_boxP rfl _ _ (w.heap.size + 1 + 1) _ _ rfl ((World.putObj_heap_other (Ne.symm hne)).trans H4.out) (fun _ h => loadE h), 5, σ', rfl, BK.out _ _ (HRUN.out.app0 (fl_run hok (by omega) hfd) HL1.out.arms), hgr, L', HD.out.put_ hK _, fun k hk => ?_, ?_⟩
      · rcases HF.out k hk with h5 | h5
        · exact HF1.out k h5
        · exact .inr (by omega)
      · exact ⟨by rw [HBL.out]; omega, HKB.out.trans HSL.out.2.2.2.2, fun h => by cases h⟩
  · gi_wp2_with (fail)
    obtain ⟨hg9, L9, hd9, hf9, hN9, hkb9, _⟩ := HATS.out
    have n4 := foot_nd hd9 E4.out err_nd
    have hd8 : DevL (Ws.setCell ⟨w.heap.size + 1 + 1, 0, none⟩ (.int .i64 5)) b L9 s1 := hd9.keep (fun k hk => heap_set_ne Ws _ 0 k _ (fun e => n4 (e ▸ hk)))
    refine ⟨_, results_boxP rfl _ _ (w.heap.size + 1 + 1) _ _ rfl (E4.out.set _) (fun _ h => loadE h), 5, s1, rfl, BK.out _ _ HRUN.out.app5, HGWS.out.trans (Gr.set Ws _ 0 _ (X := fun k => k = w.heap.size + 1 + 1) rfl) (fun i h => .inr (by omega)), L9, hd8, fun k hk => (hf9 k hk).imp id (fun h => by omega), ?_, hkb9, fun h => by cases h⟩
    rw [HBL.out]
    omega
theorem lrestore_any {w : World} {g b a z xn R o cap : Nat} {L : Lay} {σ : St} {old : List Nat} (h : LogL w g b a z) (hd : Dv w b L σ) (hops : σ.ops + 4000000 ≤ 1400000000000) (hsl : Sl w (some ⟨R, o, none⟩) old) (hcap : old.length ≤ cap) (hlen : xn + old.length ≤ 64 * σ.n) (haf : R < w.heap.size ∧ ¬ Foot b L σ R) :
    Calls Try.prog 44 #[.pointer (some ⟨g, 0, none⟩), .agg #[.int .i64 (xn : Int), .slice (some ⟨R, o, none⟩) old.length cap]] w fun e w' => ∃ c s, e = .returned (.int .i64 c) ∧ RunD (bckF xn old) σ c s ∧ AtS w b L σ w' s (bckF xn old).length c := callsIn_wide.1 (lrestore_in h hd hops hsl hcap hlen haf)
theorem bck_good {N xn : Nat} {old : List Nat} (ho : ∀ y ∈ old, y < 256) (h : xn + old.length ≤ 64 * N) (hN : N ≤ 65536) : ∀ f ∈ bckF xn old, GoodF N f := by
  intro f hf
  rcases List.mem_append.1 hf with h1 | h1
  · exact wds_good ho (wordsOf_lt h hN) f h1
  · exact fls_good _ f h1
theorem bck_few {xn : Nat} {old : List Nat} (h : xn + old.length ≤ 4194304) : (bckF xn old).length ≤ 600000 := by
  have h1 := linesOf_len h
  have h2 := wordsOf_len h
  unfold bckF
  rw [List.length_append, wds_len, fls_len]
  omega
theorem bck_bytes {xn : Nat} {old : List Nat} {σ : St} (ho : ∀ y ∈ old, y < 256) (hok : σ.Ok) (h : xn + old.length ≤ 64 * σ.n) (hops : σ.ops + 600000 ≤ 1400000000000) : (acts (bckF xn old) σ).bytes = splice σ.bytes xn old := by
  unfold bckF
  rw [acts_append, fls_bytes, wds_acts, writeG_bytes ho hok h hops]
end Go.Proofs.Ytadmekikdaocoaa
namespace Go.Proofs.Ytadmekikdaocoaa
open Go.RowKit Go.Shelf
set_option linter.unusedVariables false
set_option maxRecDepth 100000
attribute [local go_sem] Oper.semAt_some
/-- What a row tells from behind. -/
def bkL {β : Type} (cs : List β) : List (Nat × β) := (cs.zipIdx.map (fun p => (p.2, p.1))).reverse
theorem bkL_len {β : Type} (cs : List β) : (bkL cs).length = cs.length := by simp [bkL]
theorem bkL_at {β : Type} {cs : List β} {k j : Nat} {p : β} (hx : cs[j]? = some p) (hj : cs.length = k + j + 1) : (bkL cs)[k]? = some (j, p) := by
  unfold bkL
  rw [List.getElem?_reverse (by simp; omega), List.getElem?_map, List.getElem?_zipIdx]
  have e : (cs.zipIdx.map (fun p => (p.2, p.1))).length - 1 - k = j := by simp; omega
  rw [e, hx]
  simp
theorem bkL_take {β : Type} {cs : List β} {k j : Nat} {p : β} (hx : cs[j]? = some p) (hj : cs.length = k + j + 1) : (bkL cs).take (k + 1) = (bkL cs).take k ++ [(j, p)] := by
  rw [List.take_add_one, bkL_at hx hj]
  rfl
def encB {β : Type} (f : β → Value × Value) (x : Nat × β) : Array Value := #[.int .i64 (x.1 : Int), .agg #[(f x.2).1, (f x.2).2]]
theorem index_rec (g o i len cap : Nat) (hi : i < len) (w : World) : (Instr.indexAt 38 (.slice (some ⟨g, o, none⟩) len cap) (.int .i64 (i : Int))).run Try.prog w = .ok (.pointer (some ⟨g, o + i * 2, none⟩)) w :=
  index_at (t := 38) (e := 63) (sz := 2) Try.underlying38 (by kernel_rfl) g o i len cap hi w
set_option maxHeartbeats 1000000 in
theorem backward_x {β : Type} (f : β → Value × Value) (H : TypeId → Prop) (N : Nat → Prop) (Bs g m cap : Nat) (cs : List β) (cur : Array Value) (w : World) (hN : ∀ k, N k → k < w.heap.size) (hBs : N Bs) (hg : N g)
    (hb : Boxed w Bs 38 (.slice (some ⟨g, 0, none⟩) m cap)) (hgr : w.heap[g]? = some (.cells cur 63 (0, 0))) (hm : cs.length = m) (hm2 : m ≤ 4194304) (hcs : ∀ (i : Nat) (p : β), cs[i]? = some p → cur[i * 2]? = some (f p).1 ∧ cur[i * 2 + 1]? = some (f p).2) :
    SeqX H N 65 #[.pointer (some ⟨Bs, 0, none⟩)] (encB f) (bkL cs) w := fun l J Jx W hW hJ hJx hY h0 => by
  have b0 : Boxed W Bs 38 (.slice (some ⟨g, 0, none⟩) m cap) := (hW.block _ (hN _ hBs)).trans hb
  have g0 : W.heap[g]? = some (.cells cur 63 (0, 0)) := (hW.block _ (hN _ hg)).trans hgr
  have c0 := b0.cell
  have B0 := hide b0
  have G0 := hide g0
  clear hb hgr hW
  refine callsIn_of_wp Try.func65 rfl trivial ?_ rfl
  simp only [Try.ntmps65, List.size_toArray, List.length_cons, List.length_nil, Nat.reduceAdd, Nat.reduceSub, Array.replicate_succ, Array.replicate_zero, List.push_toArray, List.append_toArray, List.nil_append, List.cons_append]
  have wm : IntKind.i64.wrap ((m : Int) - 1) = (m : Int) - 1 := by rw [IntKind.wrap_i64]; omega
  gi_wp2
  clear c0 b0 g0
  gi_loopw [3] (fun i wr => ∃ k : Nat, i = .int .i64 ((m : Int) - 1 - k) ∧ k ≤ m ∧ J ((bkL cs).take k) wr ∧ Boxed wr Bs 38 (.slice (some ⟨g, 0, none⟩) m cap) ∧ wr.heap[g]? = some (.cells cur 63 (0, 0))) (fun i _ => (intOf i + 1).toNat)
  case atStart => exact ⟨0, int_congr0 (by simp), by omega, h0, B0.out, G0.out⟩
  case round =>
    obtain ⟨k, rfl, hk, hJk, hbk, hgk⟩ := hrel
    by_cases hlt : k < m
    · obtain ⟨j, hj⟩ : ∃ j, m = k + j + 1 := ⟨m - k - 1, by omega⟩
      obtain ⟨p, hp⟩ : ∃ p, cs[j]? = some p := ⟨_, List.getElem?_eq_getElem (by omega)⟩
      have e1 : (m : Int) - 1 - (k : Int) = (j : Int) := by omega
      rw [e1]
      have ht := bkL_take hp (by omega : cs.length = k + j + 1)
      have hpre : (bkL cs).take k ++ [(j, p)] <+: bkL cs := by rw [← ht]; exact List.take_prefix _ _
      obtain ⟨fn, tmps, assign, body, hy, hR⟩ := hY ((bkL cs).take k) (j, p) wr hJk hpre
      obtain ⟨q0, q1⟩ := hcs j p hp
      have x0 : wr.cell? ⟨g, j * 2, none⟩ = some (f p).1 := by exact (cell8 hgk _).trans q0
      have x1 : wr.cell? ⟨g, j * 2 + 1, none⟩ = some (f p).2 := by exact (cell8 hgk _).trans q1
      have ib := index_rec g 0 j m cap (by omega) wr
      rw [Nat.zero_add] at ib
      have HJM := hide hj
      have hj4 : j < 4194304 := by omega
      have wm2 : IntKind.i64.wrap ((j : Int) - 1) = (j : Int) - 1 := by rw [IntKind.wrap_i64]; omega
      have cb := hbk.cell
      have HT := hide ht
      have HBK := hide hbk
      have HGK := hide hgk
      have HPRE := hide hpre
      simp only [encB] at hy hR
      clear hY hJk hbk hgk ht hpre q0 q1 hcs hj e1 hp
      gi_wp2
      refine hR.mono ?_
      rintro e W3 (⟨rfl, hJ3, hK3⟩ | ⟨rfl, hJx3, hK3⟩)
      · have HJ3 := hide hJ3
        have HK3 := hide hK3
        clear hJ3 hK3 hR hy x0 x1 ib cb
        gi_wp2
        go_roundw
        case rel =>
          have hj := HJM.out
          exact ⟨k + 1, int_congr0 (by omega), by omega, by rw [HT.out]; exact HJ3.out, HK3.out.2 _ _ HBK.out (.inl hBs), HK3.out.2 _ _ HGK.out (.inl hg)⟩
        case measure => simp [intOf]
      · have HJ3 := hide hJx3
        clear hJx3 hR hy x0 x1 ib cb hK3
        gi_wp2
        refine bodyPost_ret (results_none rfl _ _ _) rfl ?_
        exact ⟨⟨_, rfl⟩, .inr ⟨_, HPRE.out, HJ3.out⟩⟩
    · obtain rfl : k = m := by omega
      have HJ := hide hJk
      have e1 : (k : Int) - 1 - (k : Int) = -1 := by omega
      rw [e1]
      clear hJk hY hbk hgk e1
      gi_wp2
      go_end0
      refine ⟨⟨_, rfl⟩, .inl ?_⟩
      have h9 := HJ.out
      rw [List.take_of_length_le (by rw [bkL_len]; omega)] at h9
      exact h9
theorem backward_in (F : Fence) (n : Nat) (hf : F.fn 43) (hro : F.round = none) (a : Option Addr) (m cap : Nat) (w : World) :
    CallsIn F n Try.prog 43 #[.slice a m cap] w fun e w' => e = .returned (.func (.func 65) #[] #[.pointer (some ⟨w.heap.size, 0, none⟩)]) ∧ w' = w.alloc (.cells #[.slice a m cap] 38) := by
  refine callsIn_of_wp Try.func43 rfl hf ?_ hro
  simp only [Try.ntmps43, List.size_toArray, List.length_cons, List.length_nil, Nat.reduceAdd, Nat.reduceSub, Array.replicate_succ, Array.replicate_zero, List.push_toArray, List.append_toArray, List.nil_append, List.cons_append]
  gi_wp2
  go_ret
  exact ⟨rfl, rfl⟩
end Go.Proofs.Ytadmekikdaocoaa
namespace Go.Proofs.Ytadmekikdaocoaa
open Go.RowKit Go.Shelf
set_option linter.unusedVariables false
set_option maxRecDepth 100000

theorem own_old {W : World} {R xn : Nat} {old : List Nat} (hO : OwnB W R (recB xn old)) (hold : ∀ y ∈ old, y < 256) : Sl W (some ⟨R, 24, none⟩) old :=
  .inr ⟨R, 24, rfl, hO.lt, fun i y hy => ⟨hO.cell (24 + i) y (by
    unfold recB
    rw [List.getElem?_append_right (by rw [recH_len]; omega), recH_len, show 24 + i - 24 = i by omega, List.getElem?_append_left (List.getElem?_eq_some_iff.1 hy).1]
    exact hy), hold y (List.mem_of_getElem? hy)⟩⟩
theorem Dv.of_like {w w' : World} {b m : Nat} {L L' : Lay} {σ s : St} (h : Dv w b L σ) (hd : DevL w' b L' s) (hl : LikeG σ s m) (hN : L'.N ≤ L.N + m) (hlt : σ.ops + m < 1400000000000) : Dv w' b L' s := by
  have h1 := h.num
  have h2 := hl.ops
  have h3 := hl.cnt
  have h4 := h.cn
  refine ⟨hd, hl.ok, hl.off.trans h.on, by omega, ⟨by rw [hl.arms]; exact h.few.one, ?_⟩, ?_⟩
  · have := h.few.cnt
    rw [h3]
    split
    · omega
    · omega
  · rw [h3]
    split <;> omega
/-- The operations that put the last k records back. -/
def rolB (rs : List (Nat × List Nat)) (k : Nat) : List (St → St) := (rs.reverse.take k).flatMap (fun r => bckF r.1 r.2)
theorem rolB_zero (rs : List (Nat × List Nat)) : rolB rs 0 = [] := rfl
theorem rolB_succ {rs : List (Nat × List Nat)} {k j : Nat} {r : Nat × List Nat} (hx : rs[j]? = some r) (hj : rs.length = k + j + 1) : rolB rs (k + 1) = rolB rs k ++ bckF r.1 r.2 := by
  have e : rs.reverse[k]? = some r := by
    rw [List.getElem?_reverse (by omega), show rs.length - 1 - k = j by omega, hx]
  unfold rolB
  rw [List.take_add_one, e, List.flatMap_append]
  simp
theorem linesOf_few {at_ n : Nat} (h : at_ + n ≤ 4194304) : (linesOf at_ n).length ≤ n := by
  rw [linesOf_eq at_ n h]
  split
  · simp
  · simp
    omega
theorem bck_le {xn : Nat} {old : List Nat} (h : xn + old.length ≤ 4194304) : (bckF xn old).length ≤ 2 * (recB xn old).length := by
  have h1 := linesOf_few h
  have h2 := wordsOf_few h
  have h3 := recB_len xn old
  unfold bckF
  rw [List.length_append, wds_len, fls_len]
  omega
theorem RecsAt.total {a z N : Nat} {B : List Nat} : ∀ (rs : List (Nat × List Nat)) (at_ : Nat), at_ ≤ a + z → RecsAt a z N B at_ rs → at_ + recsLen rs ≤ a + z
  | [], at_, h0, _ => by simpa [recsLen] using h0
  | r :: t, at_, h0, h => by
    have k := RecsAt.total t (at_ + (recB r.1 r.2).length) h.2.2.2.2.1 h.2.2.2.2.2
    have e : recsLen (r :: t) = (recB r.1 r.2).length + recsLen t := by simp [recsLen]
    omega
/-- A record that may be put back. -/
def Bk1 (N : Nat) (r : Nat × List Nat) : Prop := 1 ≤ r.2.length ∧ r.1 + r.2.length ≤ 64 * N ∧ ∀ y ∈ r.2, y < 256
theorem RecsAt.each {a z N : Nat} {B : List Nat} (haz : a + z ≤ 64 * N) (ha : 64 ≤ a) (hB : ∀ y ∈ B, y < 256) : ∀ (rs : List (Nat × List Nat)) (at_ : Nat), RecsAt a z N B at_ rs → ∀ r ∈ rs, Bk1 N r
  | [], at_, _ => fun r hr => by simp at hr
  | q :: t, at_, h => fun r hr => by
    rcases List.mem_cons.1 hr with rfl | hr
    · obtain ⟨h1, h2, h3, h4, h5, _⟩ := h
      obtain ⟨f1, f2, f3, _⟩ := fine_of haz ha h4
      refine ⟨h2, by simp only at f3; omega, fun y hy => ?_⟩
      have h6 : y ∈ recB r.1 r.2 := by unfold recB; simp [hy]
      unfold RecAt at h1
      rw [← h1] at h6
      exact hB y (List.mem_of_mem_drop (List.mem_of_mem_take h6))
    · exact RecsAt.each haz ha hB t _ h.2.2.2.2.2 r hr
theorem rolB_good {N : Nat} (hN : N ≤ 65536) {rs : List (Nat × List Nat)} (h : ∀ r ∈ rs, Bk1 N r) (k : Nat) : ∀ f ∈ rolB rs k, GoodF N f := by
  intro f hf
  obtain ⟨r, hr, hf⟩ := List.mem_flatMap.1 hf
  obtain ⟨h1, h2, h3⟩ := h r (List.mem_reverse.1 (List.mem_of_mem_take hr))
  exact bck_good h3 h2 hN f hf
theorem flat_le {N : Nat} (hN : N ≤ 65536) : ∀ (rs : List (Nat × List Nat)), (∀ r ∈ rs, Bk1 N r) → (rs.flatMap (fun r => bckF r.1 r.2)).length ≤ 2 * recsLen rs
  | [], _ => by simp
  | r :: t, h => by
    have k := flat_le hN t (fun q hq => h q (List.mem_cons_of_mem _ hq))
    obtain ⟨h1, h2, h3⟩ := h r List.mem_cons_self
    have h4 := bck_le (xn := r.1) (old := r.2) (by omega)
    have e : recsLen (r :: t) = (recB r.1 r.2).length + recsLen t := by simp [recsLen]
    rw [List.flatMap_cons, List.length_append, e]
    omega
theorem recsLen_rev : ∀ (rs : List (Nat × List Nat)), recsLen rs.reverse = recsLen rs
  | [] => rfl
  | r :: t => by
    rw [List.reverse_cons, recsLen_snoc, recsLen_rev t]
    have e : recsLen (r :: t) = (recB r.1 r.2).length + recsLen t := by simp [recsLen]
    omega
theorem rolB_few {N : Nat} (hN : N ≤ 65536) {rs : List (Nat × List Nat)} (h : ∀ r ∈ rs, Bk1 N r) (k : Nat) : (rolB rs k).length ≤ 2 * recsLen rs := by
  have h1 := flat_le hN rs.reverse (fun r hr => h r (List.mem_reverse.1 hr))
  rw [recsLen_rev] at h1
  have e : rs.reverse.flatMap (fun r => bckF r.1 r.2) = rolB rs k ++ (rs.reverse.drop k).flatMap (fun r => bckF r.1 r.2) := by
    unfold rolB
    rw [← List.flatMap_append, List.take_append_drop]
  rw [e, List.length_append] at h1
  omega
/-- The operations of a Rollback. -/
def rolF (a : Nat) (rs : List (Nat × List Nat)) : List (St → St) := rolB rs rs.length ++ ([fnA] ++ pubF 0 a)
theorem rolB_all (rs : List (Nat × List Nat)) : rolB rs rs.length = rs.reverse.flatMap (fun r => bckF r.1 r.2) := by
  unfold rolB
  rw [List.take_of_length_le (by simp)]
theorem results_two {P : Program} {fn : Func} {p q : Tmp} {ty uy : TypeId} (h : fn.results = #[.cell p ty, .cell q uy]) (tmps : Array Value) (w : World) (g k : Nat) (t u : TypeId) (v x : Value)
    (hp : tmps.getD p undef = .pointer (some ⟨g, 0, none⟩)) (hq : tmps.getD q undef = .pointer (some ⟨k, 0, none⟩)) (hg : Boxed w g t v) (hk : Boxed w k u x)
    (h1 : ∀ w' : World, w'.cell? ⟨g, 0, none⟩ = some v → (loadVar ty ⟨g, 0, none⟩).run P w' = .ok v w') (h2 : ∀ w' : World, w'.cell? ⟨k, 0, none⟩ = some x → (loadVar uy ⟨k, 0, none⟩).run P w' = .ok x w') :
    (results fn tmps).run P w = .ok (.tuple #[v, x]) w := by
  have hp' : tmps[p]?.getD undef = .pointer (some ⟨g, 0, none⟩) := by simpa using hp
  have hq' : tmps[q]?.getD undef = .pointer (some ⟨k, 0, none⟩) := by simpa using hq
  have e1 := h1 w hg.cell
  have e2 := h2 w hk.cell
  simp [results, h, hp', hq', asAddr, e1, e2]
end Go.Proofs.Ytadmekikdaocoaa
namespace Go.Proofs.Ytadmekikdaocoaa
open Go.RowKit Go.Shelf
set_option linter.unusedVariables false
set_option maxRecDepth 100000
attribute [local go_sem] Oper.semAt_some
theorem recs_nd : NDt 38 := ⟨by decide, by decide, by decide, by decide, by decide, by decide⟩
/-- The two cells of a record whose bytes lie at block R. -/
def pairC (p : (Nat × List Nat) × Nat) : Value × Value := (.int .i64 (p.1.1 : Int), .slice (some ⟨p.2, 24, none⟩) p.1.2.length ((recB p.1.1 p.1.2).length - 24))
theorem flat2 {α : Type} (f : α → Value × Value) : ∀ (l : List α) (i : Nat) (p : Value × Value), (l.map f)[i]? = some p → (l.flatMap (fun x => [(f x).1, (f x).2]))[i * 2]? = some p.1 ∧ (l.flatMap (fun x => [(f x).1, (f x).2]))[i * 2 + 1]? = some p.2
  | [], i, p, h => by simp at h
  | x :: t, 0, p, h => by
    simp at h
    subst h
    simp
  | x :: t, i + 1, p, h => by
    rw [List.map_cons, List.getElem?_cons_succ] at h
    have k := flat2 f t i p h
    have e : (i + 1) * 2 = i * 2 + 1 + 1 := by omega
    rw [List.flatMap_cons, e]
    simpa using k
theorem RowC.slice {w : World} {base : Nat} {v : Value} {rs : List (Nat × List Nat)} {Rs : List Nat} (h : RowC w base v rs Rs) (hne : 1 ≤ rs.length) : ∃ gr cap cur, v = .slice (some ⟨gr, 0, none⟩) rs.length cap ∧ w.heap[gr]? = some (.cells cur 63 (0, 0)) ∧ base ≤ gr ∧ ∀ (i : Nat) (p : (Nat × List Nat) × Nat), (rs.zip Rs)[i]? = some p → cur[i * 2]? = some (pairC p).1 ∧ cur[i * 2 + 1]? = some (pairC p).2 := by
  rcases h.row.2 with ⟨rfl, e⟩ | ⟨gr, cap, cur, rfl, h1, h2, h3, h4, h5, h6⟩
  · omega
  · refine ⟨gr, cap, cur, rfl, h2, h1, fun i p hp => ?_⟩
    have k := flat2 pairC (rs.zip Rs) i (pairC p) (by rw [List.getElem?_map, hp]; rfl)
    have hi : i < rs.length := by
      have := (List.getElem?_eq_some_iff.1 hp).1
      rw [List.length_zip] at this
      omega
    have e : (rs.zip Rs).flatMap (fun p => recC p.1 p.2) = (rs.zip Rs).flatMap (fun x => [(pairC x).1, (pairC x).2]) := rfl
    rw [e] at h6
    have hx : ∀ j, j < rs.length * 2 → cur[j]? = (cur.toList.take (rs.length * 2))[j]? := fun j hj => by
      rw [List.getElem?_take, if_pos hj, Array.getElem?_toList]
    rw [hx _ (by omega), hx _ (by omega), h6]
    exact k
theorem bkL_told {rs : List (Nat × List Nat)} {Rs : List Nat} {pre : List (Nat × ((Nat × List Nat) × Nat))} {x : Nat × ((Nat × List Nat) × Nat)} (hl : Rs.length = rs.length) (h : pre ++ [x] <+: bkL (rs.zip Rs)) : ∃ j r R, x = (j, (r, R)) ∧ rs[j]? = some r ∧ Rs[j]? = some R ∧ rs.length = pre.length + j + 1 := by
  have hle := h.length_le
  have hcl : (rs.zip Rs).length = rs.length := by rw [List.length_zip, hl, Nat.min_self]
  rw [bkL_len, hcl, List.length_append, List.length_singleton] at hle
  obtain ⟨j, hj⟩ : ∃ j, rs.length = pre.length + j + 1 := ⟨rs.length - pre.length - 1, by omega⟩
  obtain ⟨r, hr⟩ : ∃ r, rs[j]? = some r := ⟨_, List.getElem?_eq_getElem (by omega)⟩
  obtain ⟨R, hR⟩ : ∃ R, Rs[j]? = some R := ⟨_, List.getElem?_eq_getElem (by omega)⟩
  have hc : (rs.zip Rs)[j]? = some (r, R) := List.getElem?_zip_eq_some.2 ⟨hr, hR⟩
  have h1 := bkL_at hc (by rw [hcl]; exact hj : (rs.zip Rs).length = pre.length + j + 1)
  obtain ⟨t, ht⟩ := h
  rw [← ht] at h1
  rw [List.append_assoc, List.getElem?_append_right (Nat.le_refl _), Nat.sub_self] at h1
  simp at h1
  exact ⟨j, r, R, h1, hr, hR, hj⟩
theorem loadN {w : World} {g : Nat} {v : Value} (h : w.cell? ⟨g, 0, none⟩ = some v) : (loadVar 3 ⟨g, 0, none⟩).run Try.prog w = .ok v w := by
  simp [loadVar, Sem.run_bind, Try.isAgg3, h, go_sem]
theorem rolB_pre (rs : List (Nat × List Nat)) (k : Nat) : ∃ tl, rolB rs rs.length = rolB rs k ++ tl := by
  refine ⟨(rs.reverse.drop k).flatMap (fun r => bckF r.1 r.2), ?_⟩
  rw [rolB_all]
  unfold rolB
  rw [← List.flatMap_append, List.take_append_drop]
theorem Atd.up {w w' : World} {b m m' : Nat} {L : Lay} {σ s : St} (h : Atd w b L σ w' s m) (hm : m ≤ m') : Atd w b L σ w' s m' := by
  obtain ⟨h1, L', h2, h3, h4⟩ := h
  exact ⟨h1, L', h2, h3, by omega⟩
/-- Where Rollback stands behind its loop. -/
structure Fin8 (w : World) (b : Nat) (L : Lay) (σ : St) (D : Nat) (W : World) (L' : Lay) (s : St) (m : Nat) : Prop where
  i : Boxed W (w.heap.size + 1) 3 (.int .i64 0)
  e : Boxed W (w.heap.size + 1 + 1) 35 (.int .i64 0)
  d : W.heap[D]? = some (.deferred (some []))
  gr : Gr (Foot b L σ) w W
  dev : DevL W b L' s
  ft : ∀ k, Foot b L' s k → Foot b L σ k ∨ w.heap.size ≤ k
  num : L'.N ≤ L.N + m
  ni : ¬ Foot b L' s (w.heap.size + 1)
  ne : ¬ Foot b L' s (w.heap.size + 1 + 1)
  nd : ¬ Foot b L' s D
  dl : w.heap.size ≤ D
section
variable {w W W' : World} {b D m m' : Nat} {L L' : Lay} {σ s s' : St}
theorem Fin8.next (h : Fin8 w b L σ D W L' s m) (ha : Atd W b L' s W' s' m') : ∃ L'', Fin8 w b L σ D W' L'' s' (m + m') := by
  obtain ⟨hg, L2, hd, hf, hN⟩ := ha
  have hn := h.num
  have hsz := h.gr.size
  have no : ∀ k, k < W.heap.size → ¬ Foot b L' s k → ¬ Foot b L2 s' k := fun k hk hx hy => (hf k hy).elim hx (fun h => by omega)
  exact ⟨L2, hg.keep h.i h.ni, hg.keep h.e h.ne, hg.keep h.d h.nd, h.gr.trans hg h.ft, hd, fun k hk => (hf k hk).elim (h.ft k) (fun h => .inr (by omega)), by omega, no _ (lt_of_heap h.i) h.ni, no _ (lt_of_heap h.e) h.ne, no _ (lt_of_heap h.d) h.nd, h.dl⟩
theorem Fin8.last (h : Fin8 w b L σ D W L' s m) (v c : Value) : ((W.setCell ⟨w.heap.size + 1, 0, none⟩ v).setCell ⟨w.heap.size + 1 + 1, 0, none⟩ c).heap[D]? = some (.deferred (some [])) ∧
    Boxed (((W.setCell ⟨w.heap.size + 1, 0, none⟩ v).setCell ⟨w.heap.size + 1 + 1, 0, none⟩ c).putObj D (.deferred none)) (w.heap.size + 1) 3 v ∧
    Boxed (((W.setCell ⟨w.heap.size + 1, 0, none⟩ v).setCell ⟨w.heap.size + 1 + 1, 0, none⟩ c).putObj D (.deferred none)) (w.heap.size + 1 + 1) 35 c ∧
    Atd w b L σ (((W.setCell ⟨w.heap.size + 1, 0, none⟩ v).setCell ⟨w.heap.size + 1 + 1, 0, none⟩ c).putObj D (.deferred none)) s m := by
  have h1 : D ≠ w.heap.size + 1 := fun e => by have := h.d; rw [e, show W.heap[w.heap.size + 1]? = _ from h.i] at this; cases this
  have h2 : D ≠ w.heap.size + 1 + 1 := fun e => by have := h.d; rw [e, show W.heap[w.heap.size + 1 + 1]? = _ from h.e] at this; cases this
  have d1 : (W.setCell ⟨w.heap.size + 1, 0, none⟩ v).heap[D]? = some (.deferred (some [])) := (heap_set_ne W _ 0 D _ h1).trans h.d
  have d2 : ((W.setCell ⟨w.heap.size + 1, 0, none⟩ v).setCell ⟨w.heap.size + 1 + 1, 0, none⟩ c).heap[D]? = some (.deferred (some [])) := (heap_set_ne _ _ 0 D _ h2).trans d1
  have i1 : Boxed (W.setCell ⟨w.heap.size + 1, 0, none⟩ v) (w.heap.size + 1) 3 v := h.i.set _
  have i2 : Boxed ((W.setCell ⟨w.heap.size + 1, 0, none⟩ v).setCell ⟨w.heap.size + 1 + 1, 0, none⟩ c) (w.heap.size + 1) 3 v := (heap_set_ne _ _ 0 _ _ (by omega)).trans i1
  have e1 : Boxed (W.setCell ⟨w.heap.size + 1, 0, none⟩ v) (w.heap.size + 1 + 1) 35 (.int .i64 0) := (heap_set_ne W _ 0 _ _ (by omega)).trans h.e
  have e2 : Boxed ((W.setCell ⟨w.heap.size + 1, 0, none⟩ v).setCell ⟨w.heap.size + 1 + 1, 0, none⟩ c) (w.heap.size + 1 + 1) 35 c := e1.set _
  refine ⟨d2, (World.putObj_heap_other (Ne.symm h1)).trans i2, (World.putObj_heap_other (Ne.symm h2)).trans e2, ?_, L', ?_, h.ft, h.num⟩
  · have g1 : Gr (fun k => k = w.heap.size + 1) W (W.setCell ⟨w.heap.size + 1, 0, none⟩ v) := Gr.set W _ 0 _ rfl
    have g2 : Gr (fun k => k = w.heap.size + 1 + 1) (W.setCell ⟨w.heap.size + 1, 0, none⟩ v) ((W.setCell ⟨w.heap.size + 1, 0, none⟩ v).setCell ⟨w.heap.size + 1 + 1, 0, none⟩ c) := Gr.set _ _ 0 _ rfl
    have g3 : Gr (fun k => k = D) ((W.setCell ⟨w.heap.size + 1, 0, none⟩ v).setCell ⟨w.heap.size + 1 + 1, 0, none⟩ c) (((W.setCell ⟨w.heap.size + 1, 0, none⟩ v).setCell ⟨w.heap.size + 1 + 1, 0, none⟩ c).putObj D (.deferred none)) := Gr.of_grown (grownBy_putObj' _ D _) (fun k hk => .inl (by cases hk; rfl))
    refine ((h.gr.trans g1 (fun i h => .inr (by omega))).trans g2 (fun i h => .inr (by omega))).trans g3 (fun i hi => ?_)
    subst hi
    exact .inr h.dl
  · exact ((h.dev.keep (w' := W.setCell ⟨w.heap.size + 1, 0, none⟩ v) (fun k hk => heap_set_ne W (w.heap.size + 1) 0 k _ (fun e => h.ni (e ▸ hk)))).keep (w' := (W.setCell ⟨w.heap.size + 1, 0, none⟩ v).setCell ⟨w.heap.size + 1 + 1, 0, none⟩ c) (fun k hk => heap_set_ne _ (w.heap.size + 1 + 1) 0 k _ (fun e => h.ne (e ▸ hk)))).put_ d2 _
end
set_option maxHeartbeats 2000000 in
theorem lrollback_in {w : World} {g b a z : Nat} {L : Lay} {σ : St} (rs : List (Nat × List Nat)) (h : LogL w g b a z) (hd : Dv w b L σ) (ha8 : a % 8 = 0) (ha : 64 ≤ a) (hz : 64 ≤ z) (haz : a + z ≤ 64 * σ.n) (hops : σ.ops + 30000000 ≤ 1400000000000) (hnum : leV ((σ.bytes.drop a).take 8) = rs.length) (hrs : RecsAt a z σ.n σ.bytes (a + 64) rs) (hk : rs.length ≤ 4194304) (hne : 1 ≤ rs.length) :
    CallsIn Fence.wide 3 Try.prog 19 #[.pointer (some ⟨g, 0, none⟩)] w fun e w' => ∃ c s, e = .returned (.tuple #[.int .i64 (if c = 0 then (rs.length : Int) else 0), .int .i64 c]) ∧ RunD (rolF a rs) σ c s ∧ Atd w b L σ w' s (rolF a rs).length := by
  have hnm := hd.ok.max
  have hO := hd.dev.old_
  have hbk := RecsAt.each haz ha hd.ok.byte rs _ hrs
  have htot := RecsAt.total rs (a + 64) (by omega) hrs
  have hfew := fun k => rolB_few hnm hbk k
  have hlk := fun k => acts_like (N := σ.n) (rolB rs k) σ (rolB_good hnm hbk k) hd.ok rfl (by have := hfew k; omega)
  have HB0 := hide (show Below w.heap.size w (((w.alloc (.cells #[.pointer (some ⟨g, 0, none⟩)] 29)).alloc (.cells #[.int .i64 0] 3)).alloc (.cells #[.int .i64 0] 35)) from (((Below.refl _ w).alloc (Nat.le_refl _) _).alloc (by simp) _).alloc (by simp; omega) _)
  have hsz : (((w.alloc (.cells #[.pointer (some ⟨g, 0, none⟩)] 29)).alloc (.cells #[.int .i64 0] 3)).alloc (.cells #[.int .i64 0] 35)).heap.size = w.heap.size + 3 := by simp
  have b2 := ((Boxed.new w 29 (.pointer (some ⟨g, 0, none⟩))).alloc (.cells #[.int .i64 0] 3)).alloc (.cells #[.int .i64 0] 35)
  have b3 := (Boxed.new (w.alloc (.cells #[.pointer (some ⟨g, 0, none⟩)] 29)) 3 (.int .i64 0)).alloc (.cells #[.int .i64 0] 35)
  have b4 := Boxed.new ((w.alloc (.cells #[.pointer (some ⟨g, 0, none⟩)] 29)).alloc (.cells #[.int .i64 0] 3)) 35 (.int .i64 0)
  simp only [World.size_alloc] at b3 b4
  have KREC := hide (fun W (hB : Below w.heap.size w W) => lrecords_ok rs (h.below hB) (hd.below hB) ha8 hz haz hnum hrs hk)
  have HLOG := hide h
  have HDV := hide hd
  have HBK := hide hbk
  have HLK := hide hlk
  have HFEW := hide hfew
  clear hd hnum hrs hbk hlk hfew
  have c2 := b2.cell
  have B2 := hide b2
  have B3 := hide b3
  have B4 := hide b4
  clear b2 b3 b4 h
  refine callsIn_of_wp_marks Try.func19 rfl trivial ?_ rfl
  simp only [Try.ntmps19, List.size_toArray, List.length_cons, List.length_nil, Nat.reduceAdd, Nat.reduceSub, Array.replicate_succ, Array.replicate_zero, List.push_toArray, List.append_toArray, List.nil_append, List.cons_append]
  obtain ⟨m, hm⟩ : ∃ m, rs.length = m := ⟨_, rfl⟩
  have hm0 : ((m : Int) == 0) = false := by simp; omega
  have HM := hide hm
  rw [hm] at hk hne
  have hmI : (m : Int) ≤ 4194304 := by omega
  gi_wp2_with (first
    | (refine ⟨trivial, ?_⟩; gi_at_call 11; refine (inW (KREC.out _ HB0.out)).mono ?_; rintro e W1 ⟨v, Rs, rfl, hrow, hb1⟩; obtain ⟨gr, cap, cur, rfl, hgr, hgb, hcur⟩ := hrow.slice (by rw [HM.out]; exact hne); rw [HM.out]; have HROW := hide hrow; have HB1 := hide hb1; have HGR := hide hgr; have HCUR := hide hcur; clear hrow hb1 hgr hcur c2)
    | (refine ⟨trivial, ?_⟩; gi_at_call 43; refine (backward_in _ _ trivial rfl _ _ _ _).mono ?_; rintro e w' ⟨rfl, rfl⟩))
  generalize ((w.alloc (.cells #[.pointer (some ⟨g, 0, none⟩)] 29)).alloc (.cells #[.int .i64 0] 3)).alloc (.cells #[.int .i64 0] 35) = W0 at *
  have hA : Below W1.heap.size W1 (W1.alloc (.cells #[.slice (some ⟨gr, 0, none⟩) m cap] 38)) := (Below.refl _ W1).alloc (Nat.le_refl _) _
  have bB := Boxed.new W1 38 (.slice (some ⟨gr, 0, none⟩) m cap)
  have hsz2 : (W1.alloc (.cells #[.slice (some ⟨gr, 0, none⟩) m cap] 38)).heap.size = W1.heap.size + 1 := by simp
  obtain ⟨W2, hW2⟩ : ∃ W2, W1.alloc (.cells #[.slice (some ⟨gr, 0, none⟩) m cap] 38) = W2 := ⟨_, rfl⟩
  rw [hW2] at hA bB hsz2 ⊢
  clear hW2
  have hB02 := bseq HB1.out hA
  have hB2 := bseq HB0.out hB02
  have hs1 := HB1.out.size
  have e2 : Boxed W2 w.heap.size 29 (.pointer (some ⟨g, 0, none⟩)) := (hB02.block _ (by omega)).trans B2.out
  have e3 : Boxed W2 (w.heap.size + 1) 3 (.int .i64 0) := (hB02.block _ (by omega)).trans B3.out
  have e4 : Boxed W2 (w.heap.size + 1 + 1) 35 (.int .i64 0) := (hB02.block _ (by omega)).trans B4.out
  have hgl : gr < W1.heap.size := lt_of_heap HGR.out
  have e6 : W2.heap[gr]? = some (.cells cur 63 (0, 0)) := (hA.block _ hgl).trans HGR.out
  have hrow2 := HROW.out.keep hA
  have hown2 : ∀ (i : Nat) (r : Nat × List Nat) (R : Nat), rs[i]? = some r → Rs[i]? = some R → OwnB W2 R (recB r.1 r.2) := fun i r R h1 h2 => (hrow2.own i r R h1 h2).1
  have hRl := hrow2.len
  have hcl : (rs.zip Rs).length = m := by rw [List.length_zip, hRl, Nat.min_self]; exact hm
  have elog := HLOG.out.below hB2
  have hglt : g < W2.heap.size := lt_of_heap elog
  have hd2 := HDV.out.dev.below hB2
  have HOWN2 := hide hown2
  clear hrow2 hown2
  apply rangeP (gf := 65) (lb := #[.pointer (some ⟨W1.heap.size, 0, none⟩)]) (encs := encB pairC) rfl (enters_of Try.func65 (by kernel_rfl) rfl)
    (backward_x pairC HP (fun k => k = W1.heap.size ∨ k = gr) W1.heap.size gr m cap (rs.zip Rs) cur W2 (fun k hk => by omega) (.inl rfl) (.inr rfl) bB e6 hcl hk HCUR.out) (Below.refl _ _) (fun k hk => by omega) (fun _ => rfl)
    (fun pre W' => (Boxed W' w.heap.size 29 (.pointer (some ⟨g, 0, none⟩)) ∧ (LogL W' g b a z ∧ (Boxed W' (w.heap.size + 1) 3 (.int .i64 0) ∧ (Boxed W' (w.heap.size + 1 + 1) 35 (.int .i64 0) ∧ (Boxed W' W1.heap.size 38 (.slice (some ⟨gr, 0, none⟩) m cap) ∧ W'.heap[gr]? = some (.cells cur 63 (0, 0))))))) ∧ ((∀ (i : Nat) (r : Nat × List Nat) (R : Nat), rs[i]? = some r → Rs[i]? = some R → OwnB W' R (recB r.1 r.2)) ∧ (W2.heap.size ≤ W'.heap.size ∧ (Gr (Foot b L σ) w W' ∧ ∃ L', DevL W' b L' (acts (rolB rs pre.length) σ) ∧ (SameL L L' ∧ L'.N ≤ L.N + (rolB rs pre.length).length ∧ ∀ k, Foot b L' (acts (rolB rs pre.length) σ) k → Foot b L σ k ∨ w.heap.size ≤ k)))))
    (fun c pre W' => (c = .ret ∧ (Boxed W' (w.heap.size + 1) 3 (.int .i64 0) ∧ Boxed W' (w.heap.size + 1 + 1) 35 (.int .i64 5))) ∧ (Gr (Foot b L σ) w W' ∧ ∃ L' s, DevL W' b L' s ∧ ((L'.KB = L.KB ∧ L'.N ≤ L.N + (rolB rs pre.length).length) ∧ RunD (rolB rs pre.length) σ 5 s ∧ ∀ k, Foot b L' s k → Foot b L σ k ∨ w.heap.size ≤ k)))
    (Stab.and (Stab.and (Stab.box _ _ (by omega)) (Stab.and (stab_log hglt) (Stab.and (Stab.box _ _ (by omega)) (Stab.and (Stab.box _ _ (by omega)) (Stab.and (Stab.box _ _ (by omega)) (Stab.blk _ (by omega))))))) (Stab.and (fun s W W' hJ hs i r R h1 h2 => hs.2 R _ (hJ i r R h1 h2) (.inl (HOWN2.out i r R h1 h2).lt)) (Stab.and (fun s A B h hs => Nat.le_trans h hs.1.2.2.2) (Stab.and (stab_gr (by omega)) (fun s W W' hJ hs => by obtain ⟨L', h1, h2, h3⟩ := hJ; exact ⟨L', stab_dev (σ := fun _ : Unit => acts (rolB rs s.length) σ) (hO.same h2) (by omega) () W W' h1 hs, h2, h3⟩)))))
    (fun c => Stab.and (Stab.and (Stab.pure _) (Stab.and (Stab.box _ _ (by omega)) (Stab.box _ _ (by omega)))) (Stab.and (stab_gr (by omega)) (fun s W W' hJ hs => by obtain ⟨L', σ', h1, h2⟩ := hJ; exact ⟨L', σ', dev_sub h1 (fun k hk => by rw [h2.1.1] at hk; have := hO.kb k hk; omega) hs, h2⟩)))
    ⟨⟨e2, elog, e3, e4, bB, e6⟩, HOWN2.out, Nat.le_refl _, Gr.of_below hB2, L, hd2, SameL.refl L, Nat.le_refl _, fun k hk => .inl hk⟩ (fun x => #[(pairC x.2).1, (pairC x.2).2]) 63
  case hsize => exact fun s W h => h.2.2.1
  case hassign =>
    intro l' x W' K hK
    simp only [encB, pairC]
    gi_wp2
    exact hK _ ((Below.refl _ _).alloc (Nat.le_refl _) _) (heap_alloc_new _ _)
  case hbody =>
    rintro l' pre x Wb W ⟨⟨h2, hlg, h3, h4, h5, h6⟩, hown, hszW, hgW, L', hdW, hsame, hNL, hfoot⟩ hWb hpc hpx
    obtain ⟨j, r, R, rfl, hr, hR, hj⟩ := bkL_told hRl hpx
    obtain ⟨q1, q2, q3⟩ := HBK.out r (List.mem_of_getElem? hr)
    have hl := HLK.out pre.length
    have hfw := HFEW.out pre.length
    have hlo := hl.ops
    have hdv := HDV.out.of_like hdW hl hNL (by omega)
    have hrl := recB_len r.1 r.2
    have hoR := hown j r R hr hR
    have krs := lrestore_any (xn := r.1) (old := r.2) (R := R) (o := 24) (cap := (recB r.1 r.2).length - 24) hlg hdv (by omega) (own_old hoR q3) (by omega) (by rw [hl.n]; exact q2) ⟨hoR.lt, foot_nd hdW hoR byte_nd⟩
    have hsu := rolB_succ hr hj
    have hps : (pre ++ [(j, (r, R))]).length = pre.length + 1 := by simp
    have p0 : W.cell? ⟨Wb.heap.size, 0, none⟩ = some (.int .i64 (r.1 : Int)) := cell8 hpc 0
    have p1 : W.cell? ⟨Wb.heap.size, 1, none⟩ = some (.slice (some ⟨R, 24, none⟩) r.2.length ((recB r.1 r.2).length - 24)) := cell8 hpc 1
    have c2 := h2.cell
    have hOL := hO.same hsame
    have n2 := foot_nd hdW h2 plog_nd
    have nl := foot_nd hdW hlg log_nd
    have n3 := box_foot hdW hOL h3 (by omega) (by unfold HP; decide)
    have n4 := foot_nd hdW h4 err_nd
    have n5 := foot_nd hdW h5 recs_nd
    have n6 := foot_nd hdW h6 rec_nd
    have nR : ∀ (i : Nat) (r : Nat × List Nat) (R : Nat), rs[i]? = some r → Rs[i]? = some R → ¬ Foot b L' (acts (rolB rs pre.length) σ) R := fun i r R h1 h2 => foot_nd hdW (hown i r R h1 h2) byte_nd
    have HLA := hide hl.arms
    generalize hgk : acts (rolB rs pre.length) σ = sk at *
    have HGK := hide hgk
    have hacc : acts (rolB rs (pre.length + 1)) σ = acts (bckF r.1 r.2) sk := by rw [hsu, acts_append, hgk]
    have KRS := hide krs
    have HSU := hide hsu
    have HACC := hide hacc
    have HPS := hide hps
    have H2 := hide h2
    have HLG := hide hlg
    have H3 := hide h3
    have H4 := hide h4
    have H5 := hide h5
    have H6 := hide h6
    have HOWN := hide hown
    have HG := hide hgW
    have HD := hide hdW
    have HS := hide hsame
    have HF := hide hfoot
    have HOL := hide hOL
    have HNR := hide nR
    have N3 := hide n3
    have N4 := hide n4
    clear krs hsu hacc hps h2 hlg h3 h4 h5 h6 hown hgW hdW hsame hfoot hOL nR hgk hdv hoR hl hpx hpc hr hR q1 q2 q3 hrl
    obtain ⟨rx, old⟩ := r
    simp only at p0 p1 KRS HSU HACC
    generalize hRB : (recB rx old).length - 24 = rc at *
    generalize hOLn : old.length = ol at *
    clear hRB hOLn
    gi_wp2_with (fail)
    refine ⟨trivial, ?_⟩
    gi_at_call 44
    refine (inR (KRS.out)).mono ?_
    rintro e W3 ⟨c, s3, rfl, hrun, hg3, L3, hd3, hf3, hN3, hk3, hs3⟩
    have HG3 := hide hg3
    have HD3 := hide hd3
    have HF3 := hide hf3
    have hsz3 := hg3.size
    rcases hrun.code with rfl | rfl
    · have HS3 := hide (hs3 rfl)
      have HZ3 := hide hrun.zero
      clear hg3 hd3 hf3 hk3 hs3 hrun
      gi_wp2
      have g1 := HG3.out
      have hdW := HD.out
      have hOL := HOL.out
      have ez : s3 = acts (rolB rs (pre ++ [(j, ((rx, old), R))]).length) σ := by rw [HPS.out, HACC.out]; exact HZ3.out
      refine ⟨g1.kp (fun k o hk hf => ⟨fun hn => by rcases hn with e | e; exact n5 (e ▸ hf); exact n6 (e ▸ hf), ?_⟩), ⟨g1.keep H2.out n2, g1.keep HLG.out nl, g1.keep H3.out n3, g1.keep H4.out n4, g1.keep H5.out n5, g1.keep H6.out n6⟩, fun i r R h1 h2 => g1.keep (HOWN.out i r R h1 h2) (HNR.out i r R h1 h2), by omega, HG.out.trans g1 HF.out, L3, ?_, HS.out.trans HS3.out, ?_, fun k hk => ?_⟩
      · rcases foot_cases hdW hOL hf with h1 | ⟨o', h1, h2⟩
        · exact .inl (by omega)
        · rw [hk] at h1; cases h1; exact .inr h2
      · rw [← ez]; exact HD3.out
      · rw [HPS.out, HSU.out, List.length_append]; omega
      · rw [← ez] at hk
        rcases HF3.out k hk with h5 | h5
        · exact HF.out k h5
        · exact .inr (by have := HG.out.size; omega)
    · have HK3 := hide hk3
      have HR3 := hide hrun
      have y3 : Boxed W3 (w.heap.size + 1) 3 (.int .i64 0) := hg3.keep H3.out N3.out
      have y4 : Boxed W3 (w.heap.size + 1 + 1) 35 (.int .i64 0) := hg3.keep H4.out N4.out
      have y3' : Boxed (W3.setCell ⟨w.heap.size + 1, 0, none⟩ (.int .i64 0)) (w.heap.size + 1) 3 (.int .i64 0) := y3.set _
      have y4' : Boxed (W3.setCell ⟨w.heap.size + 1, 0, none⟩ (.int .i64 0)) (w.heap.size + 1 + 1) 35 (.int .i64 0) := (heap_set_ne W3 _ 0 _ _ (by omega)).trans y4
      have cy3 := y3.cell
      have zy3 := y3.frozen
      have cy4 := y4'.cell
      have zy4 := y4'.frozen
      have Y3 := hide y3'
      have Y4 := hide y4'
      clear hg3 hd3 hf3 hk3 hs3 hrun y3 y4 y3' y4'
      gi_wp2
      have g1 := HG3.out
      have hdW := HD.out
      have hOL := HOL.out
      have hw0 := HG.out.size
      have m3 : ¬ Foot b L3 s3 (w.heap.size + 1) := fun hx => (HF3.out _ hx).elim N3.out (fun h => by have := lt_of_heap H3.out; omega)
      have m4 : ¬ Foot b L3 s3 (w.heap.size + 1 + 1) := fun hx => (HF3.out _ hx).elim N4.out (fun h => by have := lt_of_heap H4.out; omega)
      have hd5 : DevL ((W3.setCell ⟨w.heap.size + 1, 0, none⟩ (.int .i64 0)).setCell ⟨w.heap.size + 1 + 1, 0, none⟩ (.int .i64 5)) b L3 s3 := (HD3.out.keep (w' := W3.setCell ⟨w.heap.size + 1, 0, none⟩ (.int .i64 0)) (fun k hk => heap_set_ne W3 (w.heap.size + 1) 0 k _ (fun e => m3 (e ▸ hk)))).keep (fun k hk => heap_set_ne _ (w.heap.size + 1 + 1) 0 k _ (fun e => m4 (e ▸ hk)))
      have g5 : Gr (Foot b L σ) w ((W3.setCell ⟨w.heap.size + 1, 0, none⟩ (.int .i64 0)).setCell ⟨w.heap.size + 1 + 1, 0, none⟩ (.int .i64 5)) := ((HG.out.trans g1 HF.out).trans (Gr.set W3 _ 0 _ (X := fun k => k = w.heap.size + 1) rfl) (fun i h => .inr (by omega))).trans (Gr.set _ _ 0 _ (X := fun k => k = w.heap.size + 1 + 1) rfl) (fun i h => .inr (by omega))
      have r0 : RunD (rolB rs pre.length) σ 0 sk := .inl ⟨rfl, HGK.out.symm⟩
      refine ⟨((g1.kp (fun k o hk hf => ⟨fun hn => by rcases hn with e | e; exact n5 (e ▸ hf); exact n6 (e ▸ hf), ?_⟩)).trans (Kp.set _ (fun h => by omega) (by omega))).trans (Kp.set _ (fun h => by omega) (by omega)), ⟨rfl, (heap_set_ne _ _ 0 _ _ (by omega)).trans Y3.out, Y4.out.set _⟩, g5, L3, s3, hd5, ⟨HK3.out.trans HS.out.2.2.2.2, ?_⟩, ?_, fun k hk => ?_⟩
      · rcases foot_cases hdW hOL hf with h1 | ⟨o', h1, h2⟩
        · exact .inl (by omega)
        · rw [hk] at h1; cases h1; exact .inr h2
      · rw [HPS.out, HSU.out, List.length_append]; omega
      · rw [HPS.out, HSU.out]; exact r0.app0 HR3.out HLA.out
      · rcases HF3.out k hk with h5 | h5
        · exact HF.out k h5
        · exact .inr (by omega)
  case hdone =>
    rintro D W hD ⟨⟨h2, hlg, h3, h4, h5, h6⟩, hown, hszW, hgW, L', hdW, hsame, hNL, hfoot⟩ hK
    have hbl : (bkL (rs.zip Rs)).length = rs.length := by rw [bkL_len, List.length_zip, hRl, Nat.min_self]
    rw [hbl] at hdW hNL hfoot
    have hl := HLK.out rs.length
    have hfw := HFEW.out rs.length
    have hlo := hl.ops
    have hln := hl.n
    have hdv := HDV.out.of_like hdW hl hNL (by omega)
    have hOL := hO.same hsame
    have n3 := box_foot hdW hOL h3 (by omega) (by unfold HP; decide)
    have n4 := foot_nd hdW h4 err_nd
    have nD : ¬ Foot b L' (acts (rolB rs rs.length) σ) D := fun hx => by
      rcases foot_cases hdW hOL hx with h1 | ⟨o', h1, h2⟩
      · omega
      · rw [hK] at h1
        cases h1
        rcases h2 with ⟨c, t, f, e, _⟩ | ⟨es, q, e⟩ <;> cases e
    have fin : Fin8 w b L σ D W L' (acts (rolB rs rs.length) σ) (rolB rs rs.length).length := ⟨h3, h4, hK, hgW, hdW, hfoot, hNL, n3, n4, nD, by omega⟩
    have r0 : RunD (rolB rs rs.length) σ 0 (acts (rolB rs rs.length) σ) := .inl ⟨rfl, rfl⟩
    have hrol : (rolF a rs).length = (rolB rs rs.length).length + (1 + (pubF 0 a).length) := by unfold rolF; rw [List.length_append, List.length_append]; rfl
    have hpf := pub_few (v := 0) (at_ := a) (by omega)
    have HROL := hide hrol
    have HLL := hide hl
    generalize acts (rolB rs rs.length) σ = sk at *
    have KFN := hide (dv_fence hdv (by omega))
    have c2 := h2.cell
    have cl := hlg.c1
    have FIN := hide fin
    have HR0 := hide r0
    have HD := hide hdW
    have H2 := hide h2
    have HLG := hide hlg
    have HDW := hide hdv
    clear h2 hlg h3 h4 h5 h6 hown hgW hdW hsame hNL hfoot hK hl hdv hOL n3 n4 nD fin r0 hrol hbl
    gi_wp2_with (fail)
    refine ⟨trivial, ?_⟩
    gi_at_call 42
    refine (inW (KFN.out)).mono ?_
    rintro e W4 ⟨c, s4, rfl, hrun4, hatd4⟩
    obtain ⟨L4, fin4⟩ := FIN.out.next hatd4
    clear c2 cl
    rcases hrun4.code with rfl | rfl
    · have hl4 : LikeG sk s4 1 := by
        rw [hrun4.zero]
        exact acts_like (N := σ.n) [fnA] sk (fun f hf => by rw [List.mem_singleton.1 hf]; exact fn_good) HDW.out.ok hln (by show sk.ops + 1 ≤ _; omega)
      have hdv4 : Dv W4 b L4 s4 := HDV.out.of_like fin4.dev (like_trans HLL.out hl4) fin4.num (by omega)
      have hlg4 : LogL W4 g b a z := HLG.out.atd HD.out hatd4
      have h24 : Boxed W4 w.heap.size 29 (.pointer (some ⟨g, 0, none⟩)) := hatd4.kept HD.out H2.out plog_nd
      have kpb : Calls Try.prog 35 #[.pointer (some ⟨g, 0, none⟩), .int .i64 0] W4 fun e w' => ∃ c s, e = .returned (.int .i64 c) ∧ RunD (pubF 0 a) s4 c s ∧ Atd W4 b L4 s4 w' s (pubF 0 a).length := by
        have := hl4.ops
        have := hl4.n
        refine (lpub_any 0 hlg4 hdv4 (by omega) (by omega) ha8 (by omega)).mono ?_
        rintro e w' ⟨c, s, q1, q2, q3⟩
        exact ⟨c, s, q1, q2, q3⟩
      have KPB := hide kpb
      have FIN4 := hide fin4
      have HR4 := hide hrun4
      have HL4 := hide hl4
      have c24 := h24.cell
      clear kpb fin4 hrun4 hatd4 hl4 hdv4 hlg4 h24
      gi_wp2_with (fail)
      refine ⟨trivial, ?_⟩
      gi_at_call 35
      refine (inW (KPB.out)).mono ?_
      rintro e W5 ⟨c, s5, rfl, hrun5, hatd5⟩
      obtain ⟨L5, fin5⟩ := FIN4.out.next hatd5
      clear c24
      rcases hrun5.code with rfl | rfl
      · have y3 : Boxed W5 (w.heap.size + 1) 3 (.int .i64 0) := fin5.i
        have y4' : Boxed (W5.setCell ⟨w.heap.size + 1, 0, none⟩ (.int .i64 (m : Int))) (w.heap.size + 1 + 1) 35 (.int .i64 0) := (heap_set_ne W5 _ 0 _ _ (by omega)).trans fin5.e
        have cy3 := y3.cell
        have zy3 := y3.frozen
        have cy4 := y4'.cell
        have zy4 := y4'.frozen
        have LAST := hide (fin5.last (.int .i64 (m : Int)) (.int .i64 0))
        have RUNF := hide (show RunD (rolF a rs) σ 0 s5 from HR0.out.app0 (HR4.out.app0 hrun5 HL4.out.arms) HLL.out.arms)
        clear y3 y4' fin5 hrun5 hatd5
        gi_wp2
        obtain ⟨d2, i2, e2', hat⟩ := LAST.out
        refine ⟨by simp, .inl ⟨_, _, rfl, run_takeDeferred d2, ?_⟩⟩
        exact ⟨_, results_two rfl _ _ (w.heap.size + 1) (w.heap.size + 1 + 1) _ _ _ _ rfl rfl i2 e2' (fun _ h => loadN h) (fun _ h => loadE h), 0, _, by rw [if_pos rfl, HM.out], RUNF.out, hat.up (by rw [HROL.out]; omega)⟩
      · have y3 : Boxed W5 (w.heap.size + 1) 3 (.int .i64 0) := fin5.i
        have y4' : Boxed (W5.setCell ⟨w.heap.size + 1, 0, none⟩ (.int .i64 0)) (w.heap.size + 1 + 1) 35 (.int .i64 0) := (heap_set_ne W5 _ 0 _ _ (by omega)).trans fin5.e
        have cy3 := y3.cell
        have zy3 := y3.frozen
        have cy4 := y4'.cell
        have zy4 := y4'.frozen
        have LAST := hide (fin5.last (.int .i64 0) (.int .i64 5))
        have RUNF := hide (show RunD (rolF a rs) σ 5 s5 from HR0.out.app0 (HR4.out.app0 hrun5 HL4.out.arms) HLL.out.arms)
        clear y3 y4' fin5 hrun5 hatd5
        gi_wp2
        obtain ⟨d2, i2, e2', hat⟩ := LAST.out
        refine ⟨by simp, .inl ⟨_, _, rfl, run_takeDeferred d2, ?_⟩⟩
        exact ⟨_, results_two rfl _ _ (w.heap.size + 1) (w.heap.size + 1 + 1) _ _ _ _ rfl rfl i2 e2' (fun _ h => loadN h) (fun _ h => loadE h), 5, _, rfl, RUNF.out, hat.up (by rw [HROL.out]; omega)⟩
    · have y3 : Boxed W4 (w.heap.size + 1) 3 (.int .i64 0) := fin4.i
      have y4' : Boxed (W4.setCell ⟨w.heap.size + 1, 0, none⟩ (.int .i64 0)) (w.heap.size + 1 + 1) 35 (.int .i64 0) := (heap_set_ne W4 _ 0 _ _ (by omega)).trans fin4.e
      have cy3 := y3.cell
      have zy3 := y3.frozen
      have cy4 := y4'.cell
      have zy4 := y4'.frozen
      have LAST := hide (fin4.last (.int .i64 0) (.int .i64 5))
      have RUNF := hide (show RunD (rolF a rs) σ 5 s4 from HR0.out.app0 hrun4.app5 HLL.out.arms)
      clear y3 y4' fin4 hrun4 hatd4
      gi_wp2
      obtain ⟨d2, i2, e2', hat⟩ := LAST.out
      refine ⟨by simp, .inl ⟨_, _, rfl, run_takeDeferred d2, ?_⟩⟩
      exact ⟨_, results_two rfl _ _ (w.heap.size + 1) (w.heap.size + 1 + 1) _ _ _ _ rfl rfl i2 e2' (fun _ h => loadN h) (fun _ h => loadE h), 5, _, rfl, RUNF.out, hat.up (by rw [HROL.out]; omega)⟩
  case hstop =>
    rintro D c pre W2 hD hpre ⟨⟨rfl, h3, h4⟩, hgW, L', s', hdW, ⟨hkb, hNL⟩, hrun, hfoot⟩ hK
    have HD := hide hdW
    have HG := hide hgW
    have HF := hide hfoot
    have HR := hide hrun
    have H3 := hide h3
    have H4 := hide h4
    clear h3 h4 hgW hdW hfoot hrun hkb
    gi_wp2
    have hne3 : D ≠ w.heap.size + 1 := by omega
    have hne4 : D ≠ w.heap.size + 1 + 1 := by omega
    refine ⟨by simp, .inl ⟨_, _, rfl, run_takeDeferred hK, ?_⟩⟩
    have hgr : Gr (Foot b L σ) w (W2.putObj D (.deferred none)) := HG.out.trans (Gr.of_grown (X := fun k => k = D) (grownBy_putObj' _ D _) (fun k hk => .inl (by cases hk; rfl))) (fun i h => .inr (by omega))
    obtain ⟨tl, htl⟩ := rolB_pre rs pre.length
    have hlen : (rolF a rs).length = (rolB rs pre.length).length + (tl ++ ([fnA] ++ pubF 0 a)).length := by unfold rolF; rw [htl, List.append_assoc, List.length_append]
    have hrn : RunD (rolF a rs) σ 5 s' := by unfold rolF; rw [htl, List.append_assoc]; exact HR.out.app5
    refine ⟨_, results_two rfl _ _ (w.heap.size + 1) (w.heap.size + 1 + 1) _ _ _ _ rfl rfl ((World.putObj_heap_other (Ne.symm hne3)).trans H3.out) ((World.putObj_heap_other (Ne.symm hne4)).trans H4.out) (fun _ h => loadN h) (fun _ h => loadE h), 5, s', rfl, hrn, hgr, L', HD.out.put_ hK _, HF.out, ?_⟩
    rw [hlen]
    omega
theorem lrollback_any {w : World} {g b a z : Nat} {L : Lay} {σ : St} (rs : List (Nat × List Nat)) (h : LogL w g b a z) (hd : Dv w b L σ) (ha8 : a % 8 = 0) (ha : 64 ≤ a) (hz : 64 ≤ z) (haz : a + z ≤ 64 * σ.n) (hops : σ.ops + 30000000 ≤ 1400000000000) (hnum : leV ((σ.bytes.drop a).take 8) = rs.length) (hrs : RecsAt a z σ.n σ.bytes (a + 64) rs) (hk : rs.length ≤ 4194304) (hne : 1 ≤ rs.length) :
    Calls Try.prog 19 #[.pointer (some ⟨g, 0, none⟩)] w fun e w' => ∃ c s, e = .returned (.tuple #[.int .i64 (if c = 0 then (rs.length : Int) else 0), .int .i64 c]) ∧ RunD (rolF a rs) σ c s ∧ Atd w b L σ w' s (rolF a rs).length := callsIn_wide.1 (lrollback_in rs h hd ha8 ha hz haz hops hnum hrs hk hne)
end Go.Proofs.Ytadmekikdaocoaa
namespace Go.Proofs.Ytadmekikdaocoaa
open Go.RowKit Go.Shelf
set_option linter.unusedVariables false
set_option maxRecDepth 100000

set_option maxHeartbeats 400000 in
theorem lopen_ok {w : World} {b a z : Nat} {L : Lay} {σ : St} (hd : DevL w b L σ) (hn : σ.n ≤ 65536) (ha : 64 ≤ a) (ha6 : a % 64 = 0) (hz : 128 ≤ z) (hz6 : z % 64 = 0) (haz : a + z ≤ 64 * σ.n) :
    Calls Try.prog 26 #[.pointer (some ⟨b, 0, none⟩), .int .i64 (a : Int), .int .i64 (z : Int)] w fun e w' => e = .returned (.tuple #[.pointer (some ⟨w.heap.size, 0, none⟩), .int .i64 0]) ∧ LogL w' w.heap.size b a z ∧ Below w.heap.size w w' := by
  have ksz := psize_any hd hn
  have hN0 : ((64 * σ.n : Nat) : Int) ≠ 0 := by omega
  obtain ⟨N, hN⟩ : ∃ N, 64 * σ.n = N := ⟨_, rfl⟩
  have aI : (64 : Int) ≤ (a : Int) := by omega
  have zI : (128 : Int) ≤ (z : Int) := by omega
  have am : Int.tmod (a : Int) 64 = 0 := by rw [Int.tmod_eq_emod_of_nonneg (by omega)]; omega
  have zm : Int.tmod (z : Int) 64 = 0 := by rw [Int.tmod_eq_emod_of_nonneg (by omega)]; omega
  have wm : IntKind.i64.wrap (((64 * σ.n : Nat) : Int) - (z : Int)) = ((64 * σ.n : Nat) : Int) - (z : Int) := by rw [IntKind.wrap_i64]; omega
  have hc : ¬ ((64 * σ.n : Nat) : Int) - (z : Int) < (a : Int) := by omega
  clear hd
  rw [hN] at hN0 wm hc ksz
  have KSZ := hide ksz
  have hN0b : ((N : Int) == 0) = false := by simpa using hN0
  clear ksz hN
  go_enter Try.func26, Try.ntmps26
  go_wp2_with (go_at_call 28; refine (KSZ.out).mono ?_; rintro e w' ⟨rfl, hw⟩; obtain rfl := hw.symm)
  go_ret2
  exact ⟨rfl, heap_alloc_new _ _, (Below.refl _ _).alloc (Nat.le_refl _) _⟩
/-- A log that Open did not make: nil, or one whose first cell is nil. -/
def NoL (w : World) (v : Value) : Prop := v = .pointer none ∨ ∃ g, v = .pointer (some ⟨g, 0, none⟩) ∧ w.heap[g]? = some (.cells #[.pointer none, .pointer none, .int .i64 0, .int .i64 0] 86 (0, 0))
theorem NoL.below {w w' : World} {v : Value} (h : NoL w v) (hB : Below w.heap.size w w') : NoL w' v := h.imp id (fun ⟨g, h1, h2⟩ => ⟨g, h1, (hB.block g (lt_of_heap h2)).trans h2⟩)
theorem neq_logN (a : Addr) (w : World) : (binOp .neq 29 (.pointer none) (.pointer (some a))).run Try.prog w = .ok (.bool true) w := by
  have h : ∀ d : Nat, (Op.equalIn (d + 1) 29 (.pointer none) (.pointer (some a))).run Try.prog w = .ok false w := fun d => by
    simp [Op.equalIn, run_underlying (show Try.prog.underlying 29 = some (.pointer 86) by kernel_rfl)]
  simp only [binOp]
  simp [Op.equal, Op.maxDepth, h 9999]
theorem no_none {w : World} {v : Value} (h : NoL w v) : Calls Try.prog 52 #[v] w fun e w' => e = .returned (.bool true) ∧ w' = w := by
  rcases h with rfl | ⟨g, rfl, hg⟩
  · go_enter Try.func52, Try.ntmps52
    go_wp2
    go_ret
    exact ⟨rfl, rfl⟩
  · have c0 : w.cell? ⟨g, 0, none⟩ = some (.pointer none) := cell8 hg 0
    have hq := neq_logN ⟨g, 0, none⟩ w
    clear hg
    go_enter Try.func52, Try.ntmps52
    go_wp2
    go_ret
    exact ⟨rfl, rfl⟩
theorem no_number {w : World} {v : Value} (h : NoL w v) : Calls Try.prog 30 #[v] w fun e w' => e = .returned (.tuple #[.int .u64 0, .int .i64 1]) ∧ w' = w := by
  have KN := hide (no_none h)
  rcases h with rfl | ⟨g, rfl, hg⟩ <;>
  · go_enter Try.func30, Try.ntmps30
    go_wp2_with (go_at_call 52; refine (KN.out).mono ?_; rintro e w' ⟨rfl, hw⟩; obtain rfl := hw.symm)
    go_ret2
    exact ⟨rfl, rfl⟩
theorem no_records {w : World} {v : Value} (h : NoL w v) : Calls Try.prog 11 #[v] w fun e w' => e = .returned (.tuple #[.slice none 0 0, .int .i64 1]) ∧ w' = w := by
  have KN := hide (no_number h)
  rcases h with rfl | ⟨g, rfl, hg⟩ <;>
  · go_enter Try.func11, Try.ntmps11
    go_wp2_with (go_at_call 30; refine (KN.out).mono ?_; rintro e w' ⟨rfl, hw⟩; obtain rfl := hw.symm)
    go_ret2
    exact ⟨rfl, rfl⟩
theorem no_write {w : World} {v : Value} (h : NoL w v) (a : Option Addr) (m cap : Nat) : Calls Try.prog 9 #[v, .slice a m cap] w fun e w' => e = .returned (.int .i64 1) ∧ w' = w := by
  have KN := hide (no_number h)
  rcases h with rfl | ⟨g, rfl, hg⟩ <;>
  · go_enter Try.func9, Try.ntmps9
    go_wp2_with (go_at_call 30; refine (KN.out).mono ?_; rintro e w' ⟨rfl, hw⟩; obtain rfl := hw.symm)
    go_ret
    exact ⟨rfl, rfl⟩
end Go.Proofs.Ytadmekikdaocoaa
namespace Go.Proofs.Ytadmekikdaocoaa
open Go.RowKit Go.Shelf
set_option linter.unusedVariables false
set_option maxRecDepth 100000
attribute [local go_sem] Oper.semAt_some

theorem RowC.nil {w : World} {base : Nat} {v : Value} {Rs : List Nat} (h : RowC w base v [] Rs) : ∃ a cap, v = .slice a 0 cap := by
  rcases h.row.2 with ⟨rfl, e⟩ | ⟨gr, cap, cur, rfl, _⟩
  · exact ⟨_, _, rfl⟩
  · exact ⟨_, _, rfl⟩
set_option maxHeartbeats 1000000 in
theorem rollback_early {w : World} {v : Value} {c : Nat} (hv : v = .pointer none ∨ ∃ g, v = .pointer (some ⟨g, 0, none⟩))
    (K : ∀ W, Below w.heap.size w W → Calls Try.prog 11 #[v] W fun e w' => ∃ a cap, e = .returned (.tuple #[.slice a 0 cap, .int .i64 (c : Int)]) ∧ Below W.heap.size W w') :
    Calls Try.prog 19 #[v] w fun e w' => e = .returned (.tuple #[.int .i64 0, .int .i64 (c : Int)]) ∧ Below w.heap.size w w' := by
  refine (callsIn_wide (n := 3)).1 ?_
  have HB0 := hide (show Below w.heap.size w (((w.alloc (.cells #[v] 29)).alloc (.cells #[.int .i64 0] 3)).alloc (.cells #[.int .i64 0] 35)) from (((Below.refl _ w).alloc (Nat.le_refl _) _).alloc (by simp) _).alloc (by simp; omega) _)
  have hsz : (((w.alloc (.cells #[v] 29)).alloc (.cells #[.int .i64 0] 3)).alloc (.cells #[.int .i64 0] 35)).heap.size = w.heap.size + 3 := by simp
  have b2 := ((Boxed.new w 29 v).alloc (.cells #[.int .i64 0] 3)).alloc (.cells #[.int .i64 0] 35)
  have b3 := (Boxed.new (w.alloc (.cells #[v] 29)) 3 (.int .i64 0)).alloc (.cells #[.int .i64 0] 35)
  have b4 := Boxed.new ((w.alloc (.cells #[v] 29)).alloc (.cells #[.int .i64 0] 3)) 35 (.int .i64 0)
  simp only [World.size_alloc] at b3 b4
  have KREC := hide K
  clear K
  rcases hv with rfl | ⟨g, rfl⟩ <;>
  · have c2 := b2.cell
    have B3 := hide b3
    have B4 := hide b4
    clear b2 b3 b4
    refine callsIn_of_wp_marks Try.func19 rfl trivial ?_ rfl
    simp only [Try.ntmps19, List.size_toArray, List.length_cons, List.length_nil, Nat.reduceAdd, Nat.reduceSub, Array.replicate_succ, Array.replicate_zero, List.push_toArray, List.append_toArray, List.nil_append, List.cons_append]
    gi_wp2_with (fail)
    refine ⟨trivial, ?_⟩
    gi_at_call 11
    refine (inW (KREC.out _ HB0.out)).mono ?_
    rintro e W1 ⟨a, cap, rfl, hb1⟩
    have y3 := (hb1.block (w.heap.size + 1) (by omega)).trans B3.out
    have y4 := (hb1.block (w.heap.size + 1 + 1) (by omega)).trans B4.out
    have q3 : Boxed W1 (w.heap.size + 1) 3 (.int .i64 0) := y3
    have q4 : Boxed W1 (w.heap.size + 1 + 1) 35 (.int .i64 0) := y4
    have q3' : Boxed (W1.setCell ⟨w.heap.size + 1, 0, none⟩ (.int .i64 0)) (w.heap.size + 1) 3 (.int .i64 0) := q3.set _
    have q4' : Boxed (W1.setCell ⟨w.heap.size + 1, 0, none⟩ (.int .i64 0)) (w.heap.size + 1 + 1) 35 (.int .i64 0) := (heap_set_ne W1 _ 0 _ _ (by omega)).trans q4
    have cy3 := q3.cell
    have zy3 := q3.frozen
    have cy4 := q4'.cell
    have zy4 := q4'.frozen
    have Y3 := hide q3'
    have Y4 := hide q4'
    have HB1 := hide (bseq HB0.out hb1)
    clear y3 y4 q3 q4 q3' q4' hb1 c2
    by_cases hc : c = 0
    · subst hc
      gi_wp2
      exact ⟨_, results_two rfl _ _ (w.heap.size + 1) (w.heap.size + 1 + 1) _ _ _ _ rfl rfl ((heap_set_ne _ _ 0 _ _ (by omega)).trans Y3.out) (Y4.out.set _) (fun _ h => loadN h) (fun _ h => loadE h), rfl, (HB1.out.setCell (by show w.heap.size ≤ w.heap.size + 1; omega) _).setCell (by show w.heap.size ≤ w.heap.size + 1 + 1; omega) _⟩
    · have hcb : ((c : Int) == 0) = false := by simp; omega
      gi_wp2
      exact ⟨_, results_two rfl _ _ (w.heap.size + 1) (w.heap.size + 1 + 1) _ _ _ _ rfl rfl ((heap_set_ne _ _ 0 _ _ (by omega)).trans Y3.out) (Y4.out.set _) (fun _ h => loadN h) (fun _ h => loadE h), rfl, (HB1.out.setCell (by show w.heap.size ≤ w.heap.size + 1; omega) _).setCell (by show w.heap.size ≤ w.heap.size + 1 + 1; omega) _⟩
theorem lrollback_none {w : World} {g b a z : Nat} {L : Lay} {σ : St} (h : LogL w g b a z) (hd : Dv w b L σ) (ha8 : a % 8 = 0) (hz : 64 ≤ z) (haz : a + z ≤ 64 * σ.n) (hnum : leV ((σ.bytes.drop a).take 8) = 0) :
    Calls Try.prog 19 #[.pointer (some ⟨g, 0, none⟩)] w fun e w' => e = .returned (.tuple #[.int .i64 0, .int .i64 0]) ∧ Below w.heap.size w w' :=
  rollback_early (c := 0) (.inr ⟨g, rfl⟩) (fun W hB => (lrecords_ok [] (h.below hB) (hd.below hB) ha8 hz haz hnum trivial (by simp)).mono (fun e w' hh => by
    obtain ⟨v, Rs, rfl, hrow, hb⟩ := hh
    obtain ⟨a, cap, rfl⟩ := hrow.nil
    exact ⟨a, cap, rfl, hb⟩))
theorem NoL.ptr {w : World} {v : Value} (h : NoL w v) : v = .pointer none ∨ ∃ g, v = .pointer (some ⟨g, 0, none⟩) := h.imp id (fun ⟨g, h, _⟩ => ⟨g, h⟩)
theorem no_rollback {w : World} {v : Value} (h : NoL w v) : Calls Try.prog 19 #[v] w fun e w' => e = .returned (.tuple #[.int .i64 0, .int .i64 1]) ∧ Below w.heap.size w w' :=
  rollback_early (c := 1) h.ptr (fun W hB => (no_records (h.below hB)).mono (fun e w' hh => by
    obtain ⟨rfl, rfl⟩ := hh
    exact ⟨_, _, rfl, Below.refl _ _⟩))
end Go.Proofs.Ytadmekikdaocoaa
namespace Go.Proofs.Ytadmekikdaocoaa
open Go.RowKit Go.Shelf
set_option linter.unusedVariables false
set_option maxRecDepth 100000

def upB (i : Nat) : List Nat := (List.range i).map (· % 256)
theorem upB_succ (i : Nat) : (upB (i + 1)).map B8 = (upB i).map B8 ++ [.int .u8 ((i % 256 : Nat) : Int)] := by
  unfold upB
  rw [List.range_succ]
  simp [B8]
/-- The bytes of made()'s image, k of them set to 0. -/
def zb (k q : Nat) : Nat := if 128 ≤ q ∧ q < 128 + k then 0 else q % 256
def imgZ (k : Nat) : List Nat := (List.range 1024).map (zb k)
theorem index_byteU (g i len cap : Nat) (hi : i < len) (w : World) : (Instr.indexAt 33 (.slice (some ⟨g, 0, none⟩) len cap) (.int .i64 (i : Int))).run Try.prog w = .ok (.pointer (some ⟨g, i, none⟩)) w := by
  have h := index_at (t := 33) (e := 5) (sz := 1) Try.underlying33 (by kernel_rfl) g 0 i len cap hi w
  rwa [Nat.mul_one, Nat.zero_add] at h
set_option maxHeartbeats 1000000 in
theorem umade_any (z : Nat) (w : World) (hz : 128 ≤ z) (hz6 : z % 64 = 0) (hz8 : z ≤ 896) : Calls Try.prog 6 #[.int .i64 (z : Int)] w fun e w' => ∃ b L gl, e = .returned (.tuple #[.pointer (some ⟨b, 0, none⟩), .pointer (some ⟨gl, 0, none⟩), .bool true]) ∧ DevL w' b L (fromD 16 (imgZ 8)) ∧ L.N = 0 ∧ (∀ k, Foot b L (fromD 16 (imgZ 8)) k → w.heap.size ≤ k) ∧ LogL w' gl b 128 z ∧ Below w.heap.size w w' := by
  obtain ⟨i0, hi0, hz0, hz1, hz2⟩ := infoU8
  go_enter Try.func6, Try.ntmps6
  go_wp2
  go_loopw [5, 6] (fun lv iv wr => ∃ i : Nat, iv = .int .i64 (i : Int) ∧ i ≤ 1024 ∧ wr.ownsRow w.heap.size 5 1 lv i ((upB i).map B8) ∧ Below w.heap.size w wr) (fun lv iv _ => (1024 - (intOf iv).toNat))
  case atStart => exact ⟨0, rfl, Nat.zero_le _, ⟨rfl, .inl ⟨rfl, rfl⟩⟩, Below.refl _ _⟩
  case round =>
    obtain ⟨i, rfl, hi, hown, hB⟩ := hrel
    by_cases hlt : i < 1024
    · have iI : (i : Int) < 1024 := by omega
      have hcv : IntKind.u8.wrap (i : Int) = ((i % 256 : Nat) : Int) := by
        show (i : Int) % 256 = _
        omega
      have hA : Below wr.heap.size wr (wr.alloc (.cells #[.int .u8 ((i % 256 : Nat) : Int)] 5)) := (Below.refl _ wr).alloc (Nat.le_refl _) _
      have ho2 : (wr.alloc (.cells #[.int .u8 ((i % 256 : Nat) : Int)] 5)).ownsRow w.heap.size 5 1 u5 i ((upB i).map B8) := ownsRow_of_block hown (fun g hg => (by obtain ⟨c, hc⟩ := own_type hown hg; exact hA.block g (lt_of_heap hc)))
      have hsz6 : w.heap.size ≤ (wr.alloc (.cells #[.int .u8 ((i % 256 : Nat) : Int)] 5)).heap.size := (bseq hB hA).size
      have HO2 := hide ho2
      have HB := hide (bseq hB hA)
      clear ho2 hown hB hA
      go_wp2_with (at_builtin; refine wpList_append_own_at _ rfl _ _ 33 rfl w.heap.size 5 i0 (.int .u8 0) 1 1 Try.underlying33 hi0 hz0 hz1 hz2 rfl (by decide) u5 i ((upB i).map B8) rfl HO2.out ⟨wr.heap.size, 0, none⟩ 1 1 [.int .u8 ((i % 256 : Nat) : Int)] rfl rfl (cell_oneU wr _ _) (by simp [Value.oneCell']) (by unfold maxLen; omega) (by omega) hsz6 ?_; intro v1 x1 ho3 hg3 hnn hat; clear hnn hat; have HO3 := hide ho3; have HG3 := hide hg3; clear ho3 hg3)
      refine ⟨⟨i + 1, int_congrP (by omega), by omega, by rw [upB_succ]; exact HO3.out, bel_of_grown HB.out HO2.out HG3.out⟩, by simp [intOf]; omega⟩
    · obtain rfl : i = 1024 := by omega
      obtain ⟨g, cp, cur, rfl, hgb, hgr, hcp, hc⟩ : ∃ g cp cur, u5 = .slice (some ⟨g, 0, none⟩) 1024 cp ∧ w.heap.size ≤ g ∧ wr.heap[g]? = some (.cells cur 5 (0, 0)) ∧ 1024 ≤ cp ∧ ∀ q, q < 1024 → cur[q]? = some (B8 (zb 0 q)) := by
        rcases hown.2 with ⟨_, e⟩ | ⟨g, cp, cur, e, h1, h2, h3, h4, h5, h6⟩
        · omega
        · refine ⟨g, cp, cur, e, h1, h2, by omega, fun q hq => ?_⟩
          have h7 : (cur.toList.take (1024 * 1))[q]? = some (B8 (zb 0 q)) := by
            rw [h6]
            unfold upB zb
            rw [List.getElem?_map, List.getElem?_map, List.getElem?_range hq, if_neg (by omega)]
            rfl
          rw [List.getElem?_take, if_pos (by omega), Array.getElem?_toList] at h7
          exact h7
      have HB := hide hB
      have HGR := hide hgr
      have HC := hide hc
      clear hown hB hgr hc hi hlt
      go_wp2
      go_loopw [7] (fun iv wr => ∃ (k : Nat) (c : Array Value), iv = .int .i64 ((128 + k : Nat) : Int) ∧ k ≤ 8 ∧ wr.heap[g]? = some (.cells c 5 (0, 0)) ∧ (∀ q, q < 1024 → c[q]? = some (B8 (zb k q))) ∧ Below w.heap.size w wr) (fun iv _ => (136 - (intOf iv).toNat))
      case atStart => exact ⟨0, cur, rfl, Nat.zero_le _, HGR.out, HC.out, HB.out⟩
      case round =>
        obtain ⟨k, c, rfl, hk, hg2, hc2, hB2⟩ := hrel
        by_cases hlt : k < 8
        · obtain ⟨p, hp⟩ : ∃ p, 128 + k = p := ⟨_, rfl⟩
          rw [hp]
          have pI : (p : Int) < 136 := by omega
          have ib := index_byteU g p 1024 cp (by omega) wr
          have cq : wr.cell? ⟨g, p, none⟩ = some (B8 (zb k p)) := (cell8 hg2 p).trans (hc2 p (by omega))
          have zq := froz8 hg2 p
          have HSET := hide (heap_setCell_same wr g p c 5 (.int .u8 0) hg2)
          have HC2 := hide hc2
          have HB2 := hide (hB2.setCell (p := ⟨g, p, none⟩) hgb (.int .u8 0))
          have HPK := hide hp
          clear hg2 hc2 hB2 hp
          go_wp2
          refine ⟨⟨k + 1, _, int_congrP (by have := HPK.out; omega), by omega, HSET.out, fun q hq => ?_, HB2.out⟩, by simp [intOf]; omega⟩
          have hp := HPK.out
          have h1 := HC2.out p (by omega)
          have h2 : p < c.size := (Array.getElem?_eq_some_iff.1 h1).1
          rw [Array.getElem?_setIfInBounds]
          by_cases e : p = q
          · subst e
            rw [if_pos rfl, if_pos h2]
            unfold zb
            rw [if_pos (by omega)]
            rfl
          · rw [if_neg e, HC2.out q hq]
            unfold zb
            by_cases h3 : 128 ≤ q ∧ q < 128 + k
            · rw [if_pos h3, if_pos (by omega)]
            · rw [if_neg h3, if_neg (by omega)]
        · obtain rfl : k = 8 := by omega
          have hseg : Seg wr g 0 (imgZ 8) := fun i x hx => by
            have hi : i < 1024 := by have := (List.getElem?_eq_some_iff.1 hx).1; simpa [imgZ] using this
            unfold imgZ at hx
            rw [List.getElem?_map, List.getElem?_range hi] at hx
            have hx' : zb 8 i = x := by simpa using hx
            rw [Nat.zero_add]
            refine ⟨(cell8 hg2 i).trans (by rw [hc2 i hi, hx']; rfl), ?_⟩
            rw [← hx']
            unfold zb
            split <;> omega
          have KF := hide (pfrom_any wr g 0 1024 cp 16 (imgZ 8) hseg (lt_of_heap hg2) (by simp [imgZ]) rfl (by omega) (by omega) (fun x hx => by
            unfold imgZ at hx
            obtain ⟨q, _, rfl⟩ := List.mem_map.1 hx
            unfold zb
            split <;> omega) hcp)
          have HB2 := hide hB2
          clear hg2 hc2 hB2 hseg
          go_wp2_with (first
            | (go_at_call 25; refine (KF.out).mono ?_; rintro e W1 ⟨b, L, rfl, hdev, hft, hb, hN⟩; have KO := hide (show Calls Try.prog 26 #[.pointer (some ⟨b, 0, none⟩), .int .i64 128, .int .i64 (z : Int)] W1 fun e w' => e = .returned (.tuple #[.pointer (some ⟨W1.heap.size, 0, none⟩), .int .i64 0]) ∧ LogL w' W1.heap.size b 128 z ∧ Below W1.heap.size W1 w' from lopen_ok (a := 128) hdev (by show 16 ≤ 65536; omega) (by omega) (by omega) hz hz6 (by show 128 + z ≤ 64 * 16; omega)); have HDEV := hide hdev; have HN := hide hN; have HFT := hide (fun k hk => Nat.le_trans HB2.out.size (hft k hk)); have HB3 := hide (bseq HB2.out hb); clear hdev hft hb hN)
            | (go_at_call 26; refine (KO.out).mono ?_; rintro e W2 ⟨rfl, hlog, hb2⟩; have HLOG := hide hlog; have HB4 := hide hb2; clear hlog hb2))
          first | go_ret3 | go_ret2 | skip
          exact ⟨b, L, _, rfl, HDEV.out.below HB4.out, HN.out, HFT.out, HLOG.out, bseq HB3.out HB4.out⟩
end Go.Proofs.Ytadmekikdaocoaa
namespace Go.Proofs.Ytadmekikdaocoaa
open Go.RowKit Go.Shelf
set_option linter.unusedVariables false
set_option maxRecDepth 100000

theorem splice_at {B c : List Nat} {at_ : Nat} (h : at_ + c.length ≤ B.length) : ((splice B at_ c).drop at_).take c.length = c := by
  refine List.ext_getElem? fun i => ?_
  rw [List.getElem?_take]
  split
  · rw [List.getElem?_drop, splice_get _ _ _ _ h, if_neg (by omega), if_pos (by omega)]
    congr 1
    omega
  · rw [List.getElem?_eq_none (by omega)]
/-- The records of extents. -/
def recL (B : List Nat) (xs : List (Int × Int)) : List (Nat × List Nat) := xs.map (fun x => (x.1.toNat, oldOf B x))
theorem recL_len (B : List Nat) (xs : List (Int × Int)) : (recL B xs).length = xs.length := by simp [recL]
theorem may_of_fine {a z N : Nat} {x : Int × Int} (h : Fine a z N x) : mayV a z N x.1 x.2 = true := by
  obtain ⟨h1, h2, h3, h4⟩ := h
  unfold mayV wthV
  rcases h4 with h4 | h4
  · rw [decide_eq_true (show 64 ≤ x.1 ∧ 1 ≤ x.2 ∧ x.2 ≤ (a : Int) - x.1 by omega)]
    rfl
  · rw [decide_eq_true (show ((a + z : Nat) : Int) ≤ x.1 ∧ 1 ≤ x.2 ∧ x.2 ≤ ((64 * N : Nat) : Int) - x.1 by omega)]
    exact Bool.or_true _
theorem recs_at {a z N : Nat} {B C : List Nat} (hB : B.length = 64 * N) (hN : N ≤ 65536) : ∀ (xs : List (Int × Int)) (at_ : Nat), (∀ x ∈ xs, Fine a z N x) → (C.drop at_).take (recsB B xs).length = recsB B xs → at_ + (recsB B xs).length ≤ a + z → RecsAt a z N C at_ (recL B xs)
  | [], at_, _, _, _ => trivial
  | x :: t, at_, hx, hc, hl => by
    have e : recsB B (x :: t) = recOf B x ++ recsB B t := rfl
    rw [e, List.length_append] at hc hl
    have hf := hx x (by simp)
    have ho := fine_old hf hB
    have hm := may_of_fine hf
    obtain ⟨h1, h2, h3, h4⟩ := hf
    have hc1 : (C.drop at_).take (recOf B x).length = recOf B x := by
      have := congrArg (List.take (recOf B x).length) hc
      rw [List.take_take, Nat.min_eq_left (by omega), List.take_left] at this
      exact this
    have hc2 : (C.drop (at_ + (recOf B x).length)).take (recsB B t).length = recsB B t := by
      have := congrArg (List.drop (recOf B x).length) hc
      rw [List.drop_take, List.drop_left, List.drop_drop, Nat.add_sub_cancel_left] at this
      exact this
    have e1 : ((x.1.toNat : Nat) : Int) = x.1 := by omega
    have e2 : (((oldOf B x).length : Nat) : Int) = x.2 := by rw [ho]; omega
    refine ⟨hc1, by show 1 ≤ (oldOf B x).length; omega, by show x.1.toNat ≤ 4194304; omega, ?_, by show at_ + (recOf B x).length ≤ a + z; omega, recs_at hB hN t _ (fun y hy => hx y (by simp [hy])) hc2 (by show at_ + (recOf B x).length + (recsB B t).length ≤ a + z; omega)⟩
    show mayV a z N ((x.1.toNat : Nat) : Int) (((oldOf B x).length : Nat) : Int) = true
    rw [e1, e2]
    exact hm
theorem RecsAt.out {a z N : Nat} {B C : List Nat} : ∀ (rs : List (Nat × List Nat)) (at_ : Nat), (∀ p n, at_ ≤ p → p + n ≤ a + z → (C.drop p).take n = (B.drop p).take n) → RecsAt a z N B at_ rs → RecsAt a z N C at_ rs
  | [], _, _, _ => trivial
  | r :: t, at_, h, ⟨h1, h2, h3, h4, h5, h6⟩ => ⟨(h at_ _ (Nat.le_refl _) h5).trans h1, h2, h3, h4, h5, RecsAt.out t _ (fun p n hp hn => h p n (by omega) hn) h6⟩
/-- What a Write leaves that all was done. -/
structure WrS (a z N : Nat) (B : List Nat) (xs : List (Int × Int)) (σ s : St) : Prop where
  like : LikeG σ s (wrF B a xs).length
  few : (wrF B a xs).length ≤ 6000000
  bytes : s.bytes = splice (splice B (a + 64) (recsB B xs)) a (leB 8 xs.length)
  num : leV ((s.bytes.drop a).take 8) = xs.length
  recs : RecsAt a z N s.bytes (a + 64) (recL B xs)
theorem wr_after {a z N : Nat} {B : List Nat} {xs : List (Int × Int)} {σ : St} (hσ : σ.Ok) (hN : σ.n = N) (hB : B = σ.bytes) (hx : ∀ y ∈ xs, Fine a z N y) (hroom : (recsB B xs).length ≤ z - 64) (hz : 64 ≤ z) (haz : a + z ≤ 64 * N) (hops : σ.ops + 30000000 ≤ 1400000000000) (hml : xs.length ≤ 4194304) : WrS a z N B xs σ (acts (wrF B a xs) σ) := by
  have hmx := hσ.max
  have hB64 : B.length = 64 * N := by rw [hB, hσ.len, hN]
  obtain ⟨R, hf⟩ := Recs.whole hσ hN hB hx hroom hz haz (by omega)
  have hr := R.like.ops
  have hn := R.like.n
  have r1 := rng_few (at_ := a + 64) (n := (recsB B xs).length) (by omega)
  have p1 := pub_few (v := xs.length) (at_ := a) (by omega)
  have l1 := acts_like (N := N) (rngF (a + 64) (recsB B xs).length) (acts (recsF B (a + 64) xs) σ) (rng_good _ _) R.like.ok (hn.trans hN) (by omega)
  have b1 := rng_bytes (a + 64) (recsB B xs).length (acts (recsF B (a + 64) xs) σ)
  have o1 := l1.ops
  have n1 := l1.n
  have l2 := acts_like (N := N) (pubF xs.length a) (acts (rngF (a + 64) (recsB B xs).length) (acts (recsF B (a + 64) xs) σ)) (pub_good (by omega) (by omega)) l1.ok (n1.trans (hn.trans hN)) (by omega)
  have b2 := pub_bytes (v := xs.length) (at_ := a) l1.ok (by rw [n1, hn, hN]; omega) (by omega)
  have e : acts (wrF B a xs) σ = acts (pubF xs.length a) (acts (rngF (a + 64) (recsB B xs).length) (acts (recsF B (a + 64) xs) σ)) := by
    unfold wrF
    rw [acts_append, acts_append]
  have hbytes : (acts (wrF B a xs) σ).bytes = splice (splice B (a + 64) (recsB B xs)) a (leB 8 xs.length) := by rw [e, b2, b1, R.bytes]
  have hs1 : (splice B (a + 64) (recsB B xs)).length = B.length := splice_len _ _ _ (by omega)
  have h8 : (leB 8 xs.length).length = 8 := leB_length 8 _
  refine ⟨?_, ?_, hbytes, ?_, ?_⟩
  · rw [e]
    unfold wrF
    rw [List.length_append, List.length_append]
    exact like_trans R.like (like_trans l1 l2)
  · unfold wrF
    rw [List.length_append, List.length_append]
    omega
  · rw [hbytes]
    have := splice_at (B := splice B (a + 64) (recsB B xs)) (c := leB 8 xs.length) (at_ := a) (by omega)
    rw [h8] at this
    rw [this]
    exact leV_of (by omega)
  · refine recs_at hB64 (by omega) xs _ hx ?_ (by omega)
    rw [hbytes, splice_out (by omega) (by omega)]
    exact splice_at (by omega)
/-- What is brought back, from behind. -/
def rolS (rs : List (Nat × List Nat)) (B : List Nat) : List Nat := rs.foldl (fun C r => splice C r.1 r.2) B
theorem bck_like {N : Nat} {r : Nat × List Nat} {σ : St} (hN : N ≤ 65536) (h : Bk1 N r) (hok : σ.Ok) (hn : σ.n = N) (hops : σ.ops + 20000000 ≤ 1400000000000) : LikeG σ (acts (bckF r.1 r.2) σ) (bckF r.1 r.2).length ∧ (acts (bckF r.1 r.2) σ).bytes = splice σ.bytes r.1 r.2 ∧ (bckF r.1 r.2).length ≤ 2 * (recB r.1 r.2).length := by
  obtain ⟨h1, h2, h3⟩ := h
  have k := bck_le (xn := r.1) (old := r.2) (by omega)
  have hl := recB_len r.1 r.2
  have hp : padN r.2.length ≤ 8 := by unfold padN; omega
  refine ⟨acts_like (N := N) _ σ ?_ hok hn (by omega), bck_bytes h3 hok (by omega) (by omega), k⟩
  have := rolB_good hN (rs := [r]) (fun q hq => by rw [List.mem_singleton.1 hq]; exact ⟨h1, h2, h3⟩) 1
  simpa [rolB] using this
theorem rol_like {N : Nat} (hN : N ≤ 65536) : ∀ (rs : List (Nat × List Nat)) (σ : St), (∀ r ∈ rs, Bk1 N r) → σ.Ok → σ.n = N → σ.ops + 2 * recsLen rs + 20000000 ≤ 1400000000000 → LikeG σ (acts (rs.flatMap (fun r => bckF r.1 r.2)) σ) (rs.flatMap (fun r => bckF r.1 r.2)).length ∧ (acts (rs.flatMap (fun r => bckF r.1 r.2)) σ).bytes = rolS rs σ.bytes
  | [], σ, _, hok, _, _ => ⟨like_refl hok, rfl⟩
  | r :: t, σ, h, hok, hn, ho => by
    have e : recsLen (r :: t) = (recB r.1 r.2).length + recsLen t := by simp [recsLen]
    obtain ⟨a1, a2, a3⟩ := bck_like hN (h r (by simp)) hok hn (by omega)
    have a4 := a1.ops
    obtain ⟨b1, b2⟩ := rol_like hN t (acts (bckF r.1 r.2) σ) (fun q hq => h q (by simp [hq])) a1.ok (a1.n.trans hn) (by omega)
    rw [List.flatMap_cons, acts_append, List.length_append]
    exact ⟨like_trans a1 b1, by rw [b2, a2]; rfl⟩
theorem rolS_len : ∀ (rs : List (Nat × List Nat)) (B : List Nat), (∀ r ∈ rs, r.1 + r.2.length ≤ B.length) → (rolS rs B).length = B.length
  | [], B, _ => rfl
  | r :: t, B, h => by
    have e := splice_len B r.2 r.1 (h r (by simp))
    show (rolS t (splice B r.1 r.2)).length = _
    rw [rolS_len t _ (fun q hq => by rw [e]; exact h q (by simp [hq])), e]
/-- What a Rollback leaves that all was done. -/
structure RoS (a : Nat) (rs : List (Nat × List Nat)) (σ s : St) : Prop where
  like : LikeG σ s (rolF a rs).length
  few : (rolF a rs).length ≤ 20000000
  bytes : s.bytes = splice (rolS rs.reverse σ.bytes) a (leB 8 0)
  num : leV ((s.bytes.drop a).take 8) = 0
theorem ro_after {a z N : Nat} {rs : List (Nat × List Nat)} {σ : St} (hσ : σ.Ok) (hN : σ.n = N) (ha : 64 ≤ a) (hz : 64 ≤ z) (haz : a + z ≤ 64 * N) (hrs : RecsAt a z N σ.bytes (a + 64) rs) (hops : σ.ops + 50000000 ≤ 1400000000000) : RoS a rs σ (acts (rolF a rs) σ) := by
  have hmx := hσ.max
  have hbk := RecsAt.each haz ha hσ.byte rs _ hrs
  have htot := RecsAt.total rs _ (by omega) hrs
  have hbr : ∀ r ∈ rs.reverse, Bk1 N r := fun r hr => hbk r (List.mem_reverse.1 hr)
  have hN' : N ≤ 65536 := by omega
  have erl : recsLen rs.reverse = recsLen rs := recsLen_rev rs
  obtain ⟨l0, b0⟩ := rol_like hN' rs.reverse σ hbr hσ hN (by omega)
  have f0 := flat_le hN' rs.reverse hbr
  have o0 := l0.ops
  have n0 := l0.n
  rw [← rolB_all] at l0 b0 f0 o0 n0
  have l1 := acts_like (N := N) [fnA] (acts (rolB rs rs.length) σ) (fun f hf => by rw [List.mem_singleton.1 hf]; exact fn_good) l0.ok (n0.trans hN) (by simp; omega)
  have b1 := fn_bytes (acts (rolB rs rs.length) σ)
  have o1 := l1.ops
  have n1 := l1.n
  have hl1 : ([fnA] : List (St → St)).length = 1 := rfl
  have p1 := pub_few (v := 0) (at_ := a) (by omega)
  have l2 := acts_like (N := N) (pubF 0 a) (acts [fnA] (acts (rolB rs rs.length) σ)) (pub_good (by omega) hN') l1.ok (n1.trans (n0.trans hN)) (by omega)
  have b2 := pub_bytes (v := 0) (at_ := a) l1.ok (by rw [n1, n0, hN]; omega) (by omega)
  have e : acts (rolF a rs) σ = acts (pubF 0 a) (acts [fnA] (acts (rolB rs rs.length) σ)) := by
    unfold rolF
    rw [acts_append, acts_append]
  have hbytes : (acts (rolF a rs) σ).bytes = splice (rolS rs.reverse σ.bytes) a (leB 8 0) := by rw [e, b2, b1, b0]
  have h8 : (leB 8 0).length = 8 := leB_length 8 _
  have hrl : (rolS rs.reverse σ.bytes).length = 64 * N := by
    rw [rolS_len _ _ (fun r hr => by rw [hσ.len, hN]; exact (hbr r hr).2.1), hσ.len, hN]
  refine ⟨?_, ?_, hbytes, ?_⟩
  · rw [e]
    unfold rolF
    rw [List.length_append, List.length_append]
    exact like_trans l0 (like_trans l1 l2)
  · unfold rolF
    rw [List.length_append, List.length_append]
    omega
  · rw [hbytes]
    have := splice_at (B := rolS rs.reverse σ.bytes) (c := leB 8 0) (at_ := a) (by omega)
    rw [h8] at this
    rw [this]
    exact leV_of (by omega)
end Go.Proofs.Ytadmekikdaocoaa
