/- Package pmem: operated, where a loss of power waits. -/
import Derived.Test.YtadmekikdaocoaaPDel
import Derived.Deep.Cut
namespace Go.Proofs.Ytadmekikdaocoaa
open Go.RowKit Go.Shelf
set_option linter.unusedVariables false

section
variable {w : World} {b : Nat} {L : Lay} {σ : St}
/-- Where the first loss that waits lies. -/
theorem arm_first {af : Nat} {kp : List Nat} {rest : List (Nat × List Nat)} (h : DevL w b L σ) (harm : σ.arms = (af, kp) :: rest) :
    ∃ g cap kv, L.av = .slice (some ⟨g, 0, none⟩) σ.arms.length cap ∧ 0 < σ.arms.length ∧ ∃ cur : Array Value, w.heap[g]? = some (.cells cur 54 (0, 0)) ∧ cur[0]? = some (.int .i64 (af : Int)) ∧ cur[1]? = some kv ∧ KeepAt w L.KB kv kp := by
  obtain ⟨ks, hl, ho, hk⟩ := h.arms
  rw [harm] at hl ho hk
  rw [harm]
  match ks, hl with
  | k0 :: ks', hl =>
    rcases ho.2 with ⟨e, h0⟩ | ⟨g, cap, cur, e, h1, h2, h3, h4, h5, h6⟩
    · simp at h0
    · refine ⟨g, cap, k0, e, by simp, cur, h2, ?_, ?_, hk 0 k0 (af, kp) rfl rfl⟩
      · have h7 : (cur.toList.take (((af, kp) :: rest).length * 2))[0]? = some (.int .i64 (af : Int)) := by rw [h6]; rfl
        rw [List.getElem?_take, if_pos (by simp)] at h7
        simpa using h7
      · have h7 : (cur.toList.take (((af, kp) :: rest).length * 2))[1]? = some k0 := by rw [h6]; rfl
        rw [List.getElem?_take, if_pos (by simp; omega)] at h7
        simpa using h7
theorem index_arm (g len cap : Nat) (hi : 0 < len) (w : World) : (Instr.indexAt 24 (.slice (some ⟨g, 0, none⟩) len cap) (.int .i64 0)).run Try.prog w = .ok (.pointer (some ⟨g, 0, none⟩)) w := by
  have h := index_at (t := 24) (e := 54) (sz := 2) armSlice (by kernel_rfl) g 0 0 len cap hi w
  rwa [Nat.zero_add, Nat.zero_mul] at h
set_option maxRecDepth 100000 in
set_option maxHeartbeats 400000 in
/-- One operation more; the loss still waits. -/
theorem poper_wait {af : Nat} {kp : List Nat} (h : DevL w b L σ) (hops : σ.ops < 1400000000000) (harm : σ.arms = [(af, kp)]) (hc : σ.cnt + 1 < af) (hcn : σ.cnt < 1400000000000) :
    Calls Try.prog 63 #[.pointer (some ⟨b, 0, none⟩)] w fun e w' => e = .returned (.int .i64 0) ∧ DevL w' b L { σ with ops := σ.ops + 1, cnt := σ.cnt + 1 } ∧ Gr (fun k => k = b) w w' := by
  obtain ⟨g, cap, kv, hav, hn1, cur, hgc, hc0, hc1, hke⟩ := arm_first (rest := []) h harm
  have hal : σ.arms.length = 1 := by rw [harm]; rfl
  rw [hal] at hav hn1
  have hgb : g ≠ b := ne_ty hgc h.dev (by decide)
  have c4 := h.c4
  have c5 := h.c5
  rw [hav] at c5
  have c6 := h.c6
  have f4 := h.fz 4
  have f6 := h.fz 6
  have f5 := h.fz 5
  have hb1 : (w.setCell ⟨b, 4, none⟩ (.int .i64 ((σ.ops : Int) + 1))).heap[b]? = _ := heap_set1 w b 4 _ _ _ h.dev
  have d5 : (w.setCell ⟨b, 4, none⟩ (.int .i64 ((σ.ops : Int) + 1))).cell? ⟨b, 5, none⟩ = some (.slice (some ⟨g, 0, none⟩) 1 cap) := by rw [cell8 hb1, ← hav]; rfl
  have d6 : (w.setCell ⟨b, 4, none⟩ (.int .i64 ((σ.ops : Int) + 1))).cell? ⟨b, 6, none⟩ = some (.int .i64 (σ.cnt : Int)) := by rw [cell8 hb1]; rfl
  have g6 : (w.setCell ⟨b, 4, none⟩ (.int .i64 ((σ.ops : Int) + 1))).frozen? ⟨b, 6, none⟩ = false := froz8 hb1 6
  have hb2 := heap_set1 (w.setCell ⟨b, 4, none⟩ (.int .i64 ((σ.ops : Int) + 1))) b 6 _ _ (.int .i64 ((σ.cnt : Int) + 1)) hb1
  have i5 : ((w.setCell ⟨b, 4, none⟩ (.int .i64 ((σ.ops : Int) + 1))).setCell ⟨b, 6, none⟩ (.int .i64 ((σ.cnt : Int) + 1))).cell? ⟨b, 5, none⟩ = some (.slice (some ⟨g, 0, none⟩) 1 cap) := by rw [cell8 hb2, ← hav]; rfl
  have hg2 : ((w.setCell ⟨b, 4, none⟩ (.int .i64 ((σ.ops : Int) + 1))).setCell ⟨b, 6, none⟩ (.int .i64 ((σ.cnt : Int) + 1))).heap[g]? = some (.cells cur 54 (0, 0)) := ((heap_set_ne _ b 6 g _ hgb).trans (heap_set_ne w b 4 g _ hgb)).trans hgc
  have j0 : ((w.setCell ⟨b, 4, none⟩ (.int .i64 ((σ.ops : Int) + 1))).setCell ⟨b, 6, none⟩ (.int .i64 ((σ.cnt : Int) + 1))).cell? ⟨g, 0, none⟩ = some (.int .i64 (af : Int)) := (cell8 hg2 0).trans hc0
  have j1 : ((w.setCell ⟨b, 4, none⟩ (.int .i64 ((σ.ops : Int) + 1))).setCell ⟨b, 6, none⟩ (.int .i64 ((σ.cnt : Int) + 1))).cell? ⟨g, 1, none⟩ = some kv := (cell8 hg2 1).trans hc1
  have hsz : ((w.setCell ⟨b, 4, none⟩ (.int .i64 ((σ.ops : Int) + 1))).setCell ⟨b, 6, none⟩ (.int .i64 ((σ.cnt : Int) + 1))).heap.size = w.heap.size := by simp
  have hAX : Below ((w.setCell ⟨b, 4, none⟩ (.int .i64 ((σ.ops : Int) + 1))).setCell ⟨b, 6, none⟩ (.int .i64 ((σ.cnt : Int) + 1))).heap.size ((w.setCell ⟨b, 4, none⟩ (.int .i64 ((σ.ops : Int) + 1))).setCell ⟨b, 6, none⟩ (.int .i64 ((σ.cnt : Int) + 1))) (((w.setCell ⟨b, 4, none⟩ (.int .i64 ((σ.ops : Int) + 1))).setCell ⟨b, 6, none⟩ (.int .i64 ((σ.cnt : Int) + 1))).alloc (.cells #[.int .i64 (af : Int), kv] 54)) := (Below.refl _ _).alloc (Nat.le_refl _) _
  have hbX : (((w.setCell ⟨b, 4, none⟩ (.int .i64 ((σ.ops : Int) + 1))).setCell ⟨b, 6, none⟩ (.int .i64 ((σ.cnt : Int) + 1))).alloc (.cells #[.int .i64 (af : Int), kv] 54)).heap[b]? = _ := (hAX.block b (by rw [hsz]; exact h.lt)).trans hb2
  have hgX : (((w.setCell ⟨b, 4, none⟩ (.int .i64 ((σ.ops : Int) + 1))).setCell ⟨b, 6, none⟩ (.int .i64 ((σ.cnt : Int) + 1))).alloc (.cells #[.int .i64 (af : Int), kv] 54)).heap[g]? = some (.cells cur 54 (0, 0)) := (hAX.block g (by rw [hsz]; exact lt_of_heap hgc)).trans hg2
  have hfX : (((w.setCell ⟨b, 4, none⟩ (.int .i64 ((σ.ops : Int) + 1))).setCell ⟨b, 6, none⟩ (.int .i64 ((σ.cnt : Int) + 1))).alloc (.cells #[.int .i64 (af : Int), kv] 54)).heap[w.heap.size]? = some (.cells #[.int .i64 (af : Int), kv] 54 (0, 0)) := by
    have := heap_alloc_new ((w.setCell ⟨b, 4, none⟩ (.int .i64 ((σ.ops : Int) + 1))).setCell ⟨b, 6, none⟩ (.int .i64 ((σ.cnt : Int) + 1))) (.cells #[.int .i64 (af : Int), kv] 54)
    rwa [hsz] at this
  have sx : (((w.setCell ⟨b, 4, none⟩ (.int .i64 ((σ.ops : Int) + 1))).setCell ⟨b, 6, none⟩ (.int .i64 ((σ.cnt : Int) + 1))).alloc (.cells #[.int .i64 (af : Int), kv] 54)).drew.cell? ⟨b, 6, none⟩ = some (.int .i64 ((σ.cnt : Int) + 1)) ∧ (((w.setCell ⟨b, 4, none⟩ (.int .i64 ((σ.ops : Int) + 1))).setCell ⟨b, 6, none⟩ (.int .i64 ((σ.cnt : Int) + 1))).alloc (.cells #[.int .i64 (af : Int), kv] 54)).drew.cell? ⟨w.heap.size, 0, none⟩ = some (.int .i64 (af : Int)) := ⟨by rw [cell8 (w := (((w.setCell ⟨b, 4, none⟩ (.int .i64 ((σ.ops : Int) + 1))).setCell ⟨b, 6, none⟩ (.int .i64 ((σ.cnt : Int) + 1))).alloc (.cells #[.int .i64 (af : Int), kv] 54)).drew) hbX]; rfl, cell8 (w := (((w.setCell ⟨b, 4, none⟩ (.int .i64 ((σ.ops : Int) + 1))).setCell ⟨b, 6, none⟩ (.int .i64 ((σ.cnt : Int) + 1))).alloc (.cells #[.int .i64 (af : Int), kv] 54)).drew) hfX 0⟩
  have SX := hide sx
  have ix := fun Y => index_arm g 1 cap hn1 Y
  obtain ⟨kp0, kl0, kc0, hkv⟩ : ∃ p l c, kv = .slice p l c := by obtain ⟨p, c, e, _⟩ := hke; exact ⟨p, _, c, e⟩
  have hre : DevL (((w.setCell ⟨b, 4, none⟩ (.int .i64 ((σ.ops : Int) + 1))).setCell ⟨b, 6, none⟩ (.int .i64 ((σ.cnt : Int) + 1))).alloc (.cells #[.int .i64 (af : Int), kv] 54)).drew b L { σ with ops := σ.ops + 1, cnt := σ.cnt + 1 } := h.re (ops := σ.ops + 1) (cnt := σ.cnt + 1) (off := σ.off) (by show (((w.setCell ⟨b, 4, none⟩ (.int .i64 ((σ.ops : Int) + 1))).setCell ⟨b, 6, none⟩ (.int .i64 ((σ.cnt : Int) + 1))).alloc (.cells #[.int .i64 (af : Int), kv] 54)).heap[b]? = _; rw [hbX]; rfl) (fun k hk hlt => (hAX.block k (by rw [hsz]; exact hlt)).trans ((heap_set_ne _ b 6 k _ hk).trans (heap_set_ne w b 4 k _ hk)))
  have hgr : Gr (fun k => k = b) w (((w.setCell ⟨b, 4, none⟩ (.int .i64 ((σ.ops : Int) + 1))).setCell ⟨b, 6, none⟩ (.int .i64 ((σ.cnt : Int) + 1))).alloc (.cells #[.int .i64 (af : Int), kv] 54)).drew := ((Gr.set w b 4 _ (X := fun k => k = b) rfl).trans (Gr.set _ b 6 _ (X := fun k => k = b) rfl) (fun i h => .inl h)).trans (Gr.of_below hAX : Gr (fun k => k = b) _ (((w.setCell ⟨b, 4, none⟩ (.int .i64 ((σ.ops : Int) + 1))).setCell ⟨b, 6, none⟩ (.int .i64 ((σ.cnt : Int) + 1))).alloc (.cells #[.int .i64 (af : Int), kv] 54))) (fun i h => .inl h)
  have HR := hide hre
  have HG := hide hgr
  have opI : (σ.ops : Int) < 1400000000000 := by omega
  have cnI : (σ.cnt : Int) + 1 < (af : Int) := by omega
  have ncI : (σ.cnt : Int) < 1400000000000 := by omega
  subst hkv
  clear h harm hre hgr hke hgc hc0 hc1 hbX hgX hfX sx hAX hsz hb1 hb2 hg2 hops hc hcn hav hgb f5 hn1 hal
  generalize σ.ops = no at *
  generalize σ.cnt = nc at *
  go_enter Try.func63, Try.ntmps63
  go_wp2_with (fail)
  refine wp_region_held_drew (S := fun Y => Y.cell? ⟨b, 6, none⟩ = some (.int .i64 ((nc : Int) + 1)) ∧ Y.cell? ⟨w.heap.size, 0, none⟩ = some (.int .i64 (af : Int))) (by kernel_rfl) SX.out (fun hS => ?_)
  refine wpAnyH_take (i := 0) (v := (.pointer (some ⟨b, 0, none⟩))) rfl (by kernel_rfl) (by kernel_rfl) (by kernel_rfl) (fun _ _ _ h => h) (Or.inl ⟨by kernel_rfl, fun w' hw => by (go_simp)⟩) hS ?_
  refine wpAnyH_take (i := 1) (v := (.pointer (some ⟨b, 0, none⟩))) rfl (by kernel_rfl) (by kernel_rfl) (by kernel_rfl) (fun _ _ _ h => h) (Or.inl ⟨by kernel_rfl, fun w' hw => by (go_simp)⟩) hS ?_
  refine wpAnyH_take (i := 2) (v := (.pointer (some ⟨b, 6, none⟩))) rfl (by kernel_rfl) (by kernel_rfl) (by kernel_rfl) (fun _ _ _ h => h) (Or.inl ⟨by kernel_rfl, fun w' hw => by (go_simp)⟩) hS ?_
  refine wpAnyH_take (i := 3) (v := (.int .i64 ((nc : Int) + 1))) rfl (by kernel_rfl) (by kernel_rfl) (by kernel_rfl) (fun _ _ _ h => h) (Or.inl ⟨by kernel_rfl, fun w' hw => by (obtain ⟨z0, z1⟩ := hw; go_simp)⟩) hS ?_
  refine wpAnyH_take (i := 4) (v := (.pointer (some ⟨w.heap.size, 0, none⟩))) rfl (by kernel_rfl) (by kernel_rfl) (by kernel_rfl) (fun _ _ _ h => h) (Or.inl ⟨by kernel_rfl, fun w' hw => by (go_simp)⟩) hS ?_
  refine wpAnyH_take (i := 5) (v := (.int .i64 (af : Int))) rfl (by kernel_rfl) (by kernel_rfl) (by kernel_rfl) (fun _ _ _ h => h) (Or.inl ⟨by kernel_rfl, fun w' hw => by (obtain ⟨z0, z1⟩ := hw; go_simp)⟩) hS ?_
  refine wpAnyH_take (i := 6) (v := (.bool true)) rfl (by kernel_rfl) (by kernel_rfl) (by kernel_rfl) (fun _ _ _ h => h) (Or.inl ⟨by kernel_rfl, fun w' hw => by (go_simp)⟩) hS ?_
  refine wpAnyH_done (by kernel_rfl) ?_ _
  simp only [Act.put, List.getElem_toArray, List.getElem_cons_zero, List.getElem_cons_succ, List.setIfInBounds_toArray, List.set_cons_zero, List.set_cons_succ]
  go_wp2_with (fail)
  go_ret
  exact ⟨rfl, HR.out, HG.out⟩
/-- The losses that wait are gone. -/
theorem DevL.disarm {w' : World} {g cap o : Nat} (h : DevL w b L σ) (hav : L.av = .slice (some ⟨g, 0, none⟩) 1 cap) (hb : w'.heap[b]? = some (.cells (devC b { L with av := .slice (some ⟨g, 0, none⟩) 0 cap } { σ with ops := o, arms := [], cnt := 0 }) 73 (0, 0)))
    (hg : ∃ cur : Array Value, w.heap[g]? = some (.cells cur 54 (0, 0)) ∧ cur.size = cap * 2 ∧ cap ≤ maxLen ∧ ∃ cur' : Array Value, w'.heap[g]? = some (.cells cur' 54 (0, 0)) ∧ cur'.size = cur.size) (hk : ∀ k, k ≠ b → k ≠ g → k < w.heap.size → w'.heap[k]? = w.heap[k]?) :
    DevL w' b { L with av := .slice (some ⟨g, 0, none⟩) 0 cap } { σ with ops := o, arms := [], cnt := 0 } := by
  obtain ⟨cur, hg1, hs1, hm1, cur', hg2, hs2⟩ := hg
  have hs : ∀ (k : Nat) (c : Array Value) t fr, w.heap[k]? = some (Obj.cells c t fr) → t ≠ 73 → t ≠ 54 → w'.heap[k]? = w.heap[k]? := fun k c t fr h1 h2 h3 => hk k (ne_ty h1 h.dev h2) (ne_ty h1 hg1 h3) (lt_of_heap h1)
  obtain ⟨e1, k1, hob⟩ := h.old.block
  obtain ⟨e2, k2, hfb⟩ := h.flm.block
  refine ⟨hb, (hs _ _ _ _ h.seen (by decide) (by decide)).trans h.seen, h.old.of_block (hk _ (ne_map h.dev hob).symm (ne_map hg1 hob).symm (lt_of_heap hob)), h.flm.of_block (hk _ (ne_map h.dev hfb).symm (ne_map hg1 hfb).symm (lt_of_heap hfb)),
    fun i hi => (h.pasts i hi).keep (hs _ _ _ _ (h.pasts i hi).1 (by decide) (by decide)) (fun g' hg' => ?_), h.pne, h.rne, h.mne, ⟨[], rfl, ⟨rfl, .inr ⟨g, cap, cur', rfl, Nat.zero_le _, hg2, Nat.zero_le _, hm1, by rw [hs2, hs1], by simp⟩⟩, fun i k a h => by simp at h⟩, fun k hkb => ?_⟩
  · obtain ⟨c, hc⟩ := (h.pasts i hi).row hg'
    exact hs _ _ _ _ hc (by decide) (by decide)
  · obtain ⟨c, hc⟩ := h.kbt k hkb
    exact ⟨c, (hs _ _ _ _ hc (by decide) (by decide)).trans hc⟩
theorem slN_of {W : World} {KB : Nat → Prop} {p : Option Addr} {c : Nat} {kp : List Nat} (h : KeepAt w KB (.slice p kp.length c) kp) (hkb : ∀ k, KB k → ∃ c, w.heap[k]? = some (.cells c 3 (0, 0))) (hW : ∀ k, KB k → W.heap[k]? = w.heap[k]?) (hb : ∀ x ∈ kp, x < 9223372036854775808) : SlN W p kp := by
  obtain ⟨p', c', e, h1⟩ := h
  cases e
  rcases h1 with ⟨h2, h3⟩ | ⟨g, h2, h3, h4⟩
  · exact ⟨hb, .inl ⟨h2, h3⟩⟩
  · obtain ⟨c2, hc2⟩ := hkb g h3
    exact ⟨hb, .inr ⟨g, 0, c2, (0, 0), h2, (hW g h3).trans hc2, fun j k hj => by rw [Nat.zero_add]; exact (World.cell?_of_block (a := ⟨g, j, none⟩) (hW g h3)).trans (h4 j k hj)⟩⟩
set_option maxRecDepth 100000 in
set_option maxHeartbeats 400000 in
/-- One operation more, behind which the power goes. -/
theorem poper_fire {af : Nat} {kp : List Nat} (h : DevL w b L σ) (hok : ({ σ with ops := σ.ops + 1 } : St).Ok) (hops : σ.ops < 1400000000000) (harm : σ.arms = [(af, kp)]) (hc : af ≤ σ.cnt + 1) (hcn : σ.cnt < 1400000000000) (hkb : ∀ x ∈ kp, x < 9223372036854775808) (hkl : kp.length ≤ 1400000000000) :
    Calls Try.prog 63 #[.pointer (some ⟨b, 0, none⟩)] w fun e w' => e = .returned (.int .i64 5) ∧ ∃ L' σ', Lost { σ with ops := σ.ops + 1, arms := [], cnt := 0 } kp σ' ∧ DevL w' b L' σ' ∧ (∀ k, Foot b L' σ' k → Foot b L σ k ∨ w.heap.size ≤ k) ∧ Gr (Foot b L σ) w w' ∧ L'.N ≤ L.N ∧ L'.KB = L.KB := by
  obtain ⟨g, cap, kv, hav, hn1, cur, hgc, hc0, hc1, hke⟩ := arm_first (rest := []) h harm
  have hal : σ.arms.length = 1 := by rw [harm]; rfl
  rw [hal] at hav hn1
  have hgb : g ≠ b := ne_ty hgc h.dev (by decide)
  have c4 := h.c4
  have c5 := h.c5
  rw [hav] at c5
  have c6 := h.c6
  have f4 := h.fz 4
  have f6 := h.fz 6
  have f5 := h.fz 5
  have hb1 : (w.setCell ⟨b, 4, none⟩ (.int .i64 ((σ.ops : Int) + 1))).heap[b]? = _ := heap_set1 w b 4 _ _ _ h.dev
  have d5 : (w.setCell ⟨b, 4, none⟩ (.int .i64 ((σ.ops : Int) + 1))).cell? ⟨b, 5, none⟩ = some (.slice (some ⟨g, 0, none⟩) 1 cap) := by rw [cell8 hb1, ← hav]; rfl
  have d6 : (w.setCell ⟨b, 4, none⟩ (.int .i64 ((σ.ops : Int) + 1))).cell? ⟨b, 6, none⟩ = some (.int .i64 (σ.cnt : Int)) := by rw [cell8 hb1]; rfl
  have g6 : (w.setCell ⟨b, 4, none⟩ (.int .i64 ((σ.ops : Int) + 1))).frozen? ⟨b, 6, none⟩ = false := froz8 hb1 6
  have hb2 := heap_set1 (w.setCell ⟨b, 4, none⟩ (.int .i64 ((σ.ops : Int) + 1))) b 6 _ _ (.int .i64 ((σ.cnt : Int) + 1)) hb1
  have i5 : ((w.setCell ⟨b, 4, none⟩ (.int .i64 ((σ.ops : Int) + 1))).setCell ⟨b, 6, none⟩ (.int .i64 ((σ.cnt : Int) + 1))).cell? ⟨b, 5, none⟩ = some (.slice (some ⟨g, 0, none⟩) 1 cap) := by rw [cell8 hb2, ← hav]; rfl
  have hg2 : ((w.setCell ⟨b, 4, none⟩ (.int .i64 ((σ.ops : Int) + 1))).setCell ⟨b, 6, none⟩ (.int .i64 ((σ.cnt : Int) + 1))).heap[g]? = some (.cells cur 54 (0, 0)) := ((heap_set_ne _ b 6 g _ hgb).trans (heap_set_ne w b 4 g _ hgb)).trans hgc
  have j0 : ((w.setCell ⟨b, 4, none⟩ (.int .i64 ((σ.ops : Int) + 1))).setCell ⟨b, 6, none⟩ (.int .i64 ((σ.cnt : Int) + 1))).cell? ⟨g, 0, none⟩ = some (.int .i64 (af : Int)) := (cell8 hg2 0).trans hc0
  have j1 : ((w.setCell ⟨b, 4, none⟩ (.int .i64 ((σ.ops : Int) + 1))).setCell ⟨b, 6, none⟩ (.int .i64 ((σ.cnt : Int) + 1))).cell? ⟨g, 1, none⟩ = some kv := (cell8 hg2 1).trans hc1
  have hsz : ((w.setCell ⟨b, 4, none⟩ (.int .i64 ((σ.ops : Int) + 1))).setCell ⟨b, 6, none⟩ (.int .i64 ((σ.cnt : Int) + 1))).heap.size = w.heap.size := by simp
  have hAX : Below ((w.setCell ⟨b, 4, none⟩ (.int .i64 ((σ.ops : Int) + 1))).setCell ⟨b, 6, none⟩ (.int .i64 ((σ.cnt : Int) + 1))).heap.size ((w.setCell ⟨b, 4, none⟩ (.int .i64 ((σ.ops : Int) + 1))).setCell ⟨b, 6, none⟩ (.int .i64 ((σ.cnt : Int) + 1))) (((w.setCell ⟨b, 4, none⟩ (.int .i64 ((σ.ops : Int) + 1))).setCell ⟨b, 6, none⟩ (.int .i64 ((σ.cnt : Int) + 1))).alloc (.cells #[.int .i64 (af : Int), kv] 54)) := (Below.refl _ _).alloc (Nat.le_refl _) _
  have hbX : (((w.setCell ⟨b, 4, none⟩ (.int .i64 ((σ.ops : Int) + 1))).setCell ⟨b, 6, none⟩ (.int .i64 ((σ.cnt : Int) + 1))).alloc (.cells #[.int .i64 (af : Int), kv] 54)).heap[b]? = _ := (hAX.block b (by rw [hsz]; exact h.lt)).trans hb2
  have hgX : (((w.setCell ⟨b, 4, none⟩ (.int .i64 ((σ.ops : Int) + 1))).setCell ⟨b, 6, none⟩ (.int .i64 ((σ.cnt : Int) + 1))).alloc (.cells #[.int .i64 (af : Int), kv] 54)).heap[g]? = some (.cells cur 54 (0, 0)) := (hAX.block g (by rw [hsz]; exact lt_of_heap hgc)).trans hg2
  have hfX : (((w.setCell ⟨b, 4, none⟩ (.int .i64 ((σ.ops : Int) + 1))).setCell ⟨b, 6, none⟩ (.int .i64 ((σ.cnt : Int) + 1))).alloc (.cells #[.int .i64 (af : Int), kv] 54)).heap[w.heap.size]? = some (.cells #[.int .i64 (af : Int), kv] 54 (0, 0)) := by
    have := heap_alloc_new ((w.setCell ⟨b, 4, none⟩ (.int .i64 ((σ.ops : Int) + 1))).setCell ⟨b, 6, none⟩ (.int .i64 ((σ.cnt : Int) + 1))) (.cells #[.int .i64 (af : Int), kv] 54)
    rwa [hsz] at this
  have sx : (((w.setCell ⟨b, 4, none⟩ (.int .i64 ((σ.ops : Int) + 1))).setCell ⟨b, 6, none⟩ (.int .i64 ((σ.cnt : Int) + 1))).alloc (.cells #[.int .i64 (af : Int), kv] 54)).drew.cell? ⟨b, 6, none⟩ = some (.int .i64 ((σ.cnt : Int) + 1)) ∧ (((w.setCell ⟨b, 4, none⟩ (.int .i64 ((σ.ops : Int) + 1))).setCell ⟨b, 6, none⟩ (.int .i64 ((σ.cnt : Int) + 1))).alloc (.cells #[.int .i64 (af : Int), kv] 54)).drew.cell? ⟨w.heap.size, 0, none⟩ = some (.int .i64 (af : Int)) := ⟨by rw [cell8 (w := (((w.setCell ⟨b, 4, none⟩ (.int .i64 ((σ.ops : Int) + 1))).setCell ⟨b, 6, none⟩ (.int .i64 ((σ.cnt : Int) + 1))).alloc (.cells #[.int .i64 (af : Int), kv] 54)).drew) hbX]; rfl, cell8 (w := (((w.setCell ⟨b, 4, none⟩ (.int .i64 ((σ.ops : Int) + 1))).setCell ⟨b, 6, none⟩ (.int .i64 ((σ.cnt : Int) + 1))).alloc (.cells #[.int .i64 (af : Int), kv] 54)).drew) hfX 0⟩
  have SX := hide sx
  have ix := fun Y => index_arm g 1 cap hn1 Y
  obtain ⟨kp0, kl0, kc0, hkv⟩ : ∃ p l c, kv = .slice p l c := by obtain ⟨p, c, e, _⟩ := hke; exact ⟨p, _, c, e⟩
  have hcs : cur.size = cap * 2 ∧ cap ≤ maxLen ∧ 1 ≤ cap := by
    obtain ⟨ks, hl, ho, _⟩ := h.arms
    rcases ho.2 with ⟨e, _⟩ | ⟨g', cap', cur', e, q1, q2, q3, q4, q5, q6⟩
    · rw [hav] at e; cases e
    · rw [hav, hal] at e
      cases e
      rw [hgc] at q2
      cases q2
      exact ⟨q5, q4, by rw [harm] at q3; simpa using q3⟩
  have kd := pdel_one (((w.setCell ⟨b, 4, none⟩ (.int .i64 ((σ.ops : Int) + 1))).setCell ⟨b, 6, none⟩ (.int .i64 ((σ.cnt : Int) + 1))).alloc (.cells #[.int .i64 (af : Int), kv] 54)).drew g cap cur hgX (by omega) (by omega)
  have hok5 : St.Ok { σ with ops := σ.ops + 1, arms := [], cnt := 0 } := ⟨hok.pos, hok.max, hok.len, hok.byte, hok.out, hok.clen, hok.cbyte, hok.few, hok.flp, hok.opsm⟩
  subst hkv
  have kf : ∀ W5 : World, Gr (fun k => k = g) (((w.setCell ⟨b, 4, none⟩ (.int .i64 ((σ.ops : Int) + 1))).setCell ⟨b, 6, none⟩ (.int .i64 ((σ.cnt : Int) + 1))).alloc (.cells #[.int .i64 (af : Int), .slice kp0 kl0 kc0] 54)).drew W5 → (∃ cur' : Array Value, W5.heap[g]? = some (.cells cur' 54 (0, 0)) ∧ cur'.size = cur.size) →
      W5.frozen? ⟨b, 5, none⟩ = false ∧ (∃ u, W5.cell? ⟨b, 5, none⟩ = some u) ∧ (W5.setCell ⟨b, 5, none⟩ (.slice (some ⟨g, 0, none⟩) 0 cap)).frozen? ⟨b, 6, none⟩ = false ∧ (∃ u, (W5.setCell ⟨b, 5, none⟩ (.slice (some ⟨g, 0, none⟩) 0 cap)).cell? ⟨b, 6, none⟩ = some u) ∧ ((W5.setCell ⟨b, 5, none⟩ (.slice (some ⟨g, 0, none⟩) 0 cap)).setCell ⟨b, 6, none⟩ (.int .i64 0)).cell? ⟨w.heap.size, 1, none⟩ = some (.slice kp0 kl0 kc0) ∧
      Calls Try.prog 67 #[.pointer (some ⟨b, 0, none⟩), .slice kp0 kl0 kc0] ((W5.setCell ⟨b, 5, none⟩ (.slice (some ⟨g, 0, none⟩) 0 cap)).setCell ⟨b, 6, none⟩ (.int .i64 0)) fun e w' => e = .returned (.tuple #[]) ∧ ∃ L' σ', Lost { σ with ops := σ.ops + 1, arms := [], cnt := 0 } kp σ' ∧ DevL w' b L' σ' ∧ (∀ k, Foot b L' σ' k → Foot b L σ k ∨ w.heap.size ≤ k) ∧ Gr (Foot b L σ) w w' ∧ L'.N ≤ L.N ∧ L'.KB = L.KB := fun W5 hg5 hc5 => by
    have q1 : W5.heap[b]? = _ := (hg5.block (k := b) (by show b < (((w.setCell ⟨b, 4, none⟩ (.int .i64 ((σ.ops : Int) + 1))).setCell ⟨b, 6, none⟩ (.int .i64 ((σ.cnt : Int) + 1))).alloc (.cells #[.int .i64 (af : Int), .slice kp0 kl0 kc0] 54)).heap.size; exact lt_of_heap hbX) (fun e => hgb e.symm)).trans hbX
    have q2 := heap_set1 W5 b 5 _ _ (.slice (some ⟨g, 0, none⟩) 0 cap) q1
    have q3 := heap_set1 _ b 6 _ _ (.int .i64 0) q2
    have hwg : w.heap.size ≠ g := fun e => by have := lt_of_heap hgc; omega
    have hwb : w.heap.size ≠ b := fun e => by have := h.lt; omega
    have q4 : ((W5.setCell ⟨b, 5, none⟩ (.slice (some ⟨g, 0, none⟩) 0 cap)).setCell ⟨b, 6, none⟩ (.int .i64 0)).heap[w.heap.size]? = some (.cells #[.int .i64 (af : Int), .slice kp0 kl0 kc0] 54 (0, 0)) := (heap_set_ne _ b 6 _ _ hwb).trans ((heap_set_ne _ b 5 _ _ hwb).trans ((hg5.block (k := w.heap.size) (lt_of_heap hfX) hwg).trans hfX))
    have q5 : ∀ k, k ≠ b → k ≠ g → k < w.heap.size → ((W5.setCell ⟨b, 5, none⟩ (.slice (some ⟨g, 0, none⟩) 0 cap)).setCell ⟨b, 6, none⟩ (.int .i64 0)).heap[k]? = w.heap[k]? := fun k k1 k2 k3 =>
      (heap_set_ne _ b 6 k _ k1).trans ((heap_set_ne _ b 5 k _ k1).trans ((hg5.block (k := k) (by show k < (((w.setCell ⟨b, 4, none⟩ (.int .i64 ((σ.ops : Int) + 1))).setCell ⟨b, 6, none⟩ (.int .i64 ((σ.cnt : Int) + 1))).alloc (.cells #[.int .i64 (af : Int), .slice kp0 kl0 kc0] 54)).heap.size; have := hAX.size; omega) k2).trans ((hAX.block k (by rw [hsz]; exact k3)).trans ((heap_set_ne _ b 6 k _ k1).trans (heap_set_ne w b 4 k _ k1)))))
    obtain ⟨cur', hq, hq2⟩ := hc5
    have q6 : ((W5.setCell ⟨b, 5, none⟩ (.slice (some ⟨g, 0, none⟩) 0 cap)).setCell ⟨b, 6, none⟩ (.int .i64 0)).heap[g]? = some (.cells cur' 54 (0, 0)) := (heap_set_ne _ b 6 g _ hgb).trans ((heap_set_ne _ b 5 g _ hgb).trans hq)
    have hd6 := h.disarm (w' := (W5.setCell ⟨b, 5, none⟩ (.slice (some ⟨g, 0, none⟩) 0 cap)).setCell ⟨b, 6, none⟩ (.int .i64 0)) (o := σ.ops + 1) hav (by rw [q3]; rfl) ⟨cur, hgc, hcs.1, hcs.2.1, cur', q6, hq2⟩ q5
    have gX : Gr (Foot b L σ) w (((w.setCell ⟨b, 4, none⟩ (.int .i64 ((σ.ops : Int) + 1))).setCell ⟨b, 6, none⟩ (.int .i64 ((σ.cnt : Int) + 1))).alloc (.cells #[.int .i64 (af : Int), .slice kp0 kl0 kc0] 54)) := ((Gr.set w b 4 _ (X := Foot b L σ) (.inl rfl)).trans (Gr.set _ b 6 _ (X := Foot b L σ) (.inl rfl)) (fun i h => .inl h)).trans (Gr.of_below hAX : Gr (Foot b L σ) _ (((w.setCell ⟨b, 4, none⟩ (.int .i64 ((σ.ops : Int) + 1))).setCell ⟨b, 6, none⟩ (.int .i64 ((σ.cnt : Int) + 1))).alloc (.cells #[.int .i64 (af : Int), .slice kp0 kl0 kc0] 54))) (fun i h => .inl h)
    have g5 : Gr (Foot b L σ) w W5 := (show Gr (Foot b L σ) w (((w.setCell ⟨b, 4, none⟩ (.int .i64 ((σ.ops : Int) + 1))).setCell ⟨b, 6, none⟩ (.int .i64 ((σ.cnt : Int) + 1))).alloc (.cells #[.int .i64 (af : Int), .slice kp0 kl0 kc0] 54)).drew from gX).trans hg5 (fun i hi => .inl (by rw [hi]; exact .inr (.inr (.inr (.inr (.inr (.inl (by rw [hav]; rfl))))))))
    have g6 : Gr (Foot b L σ) w ((W5.setCell ⟨b, 5, none⟩ (.slice (some ⟨g, 0, none⟩) 0 cap)).setCell ⟨b, 6, none⟩ (.int .i64 0)) := (g5.trans (Gr.set _ b 5 _ (X := Foot b L σ) (.inl rfl)) (fun i h => .inl h)).trans (Gr.set _ b 6 _ (X := Foot b L σ) (.inl rfl)) (fun i h => .inl h)
    have hfo : ∀ k, Foot b { L with av := .slice (some ⟨g, 0, none⟩) 0 cap } { σ with ops := σ.ops + 1, arms := [], cnt := 0 } k → Foot b L σ k := fun k hk => by
      rcases hk with r | r | r | r | r | r | r
      · exact .inl r
      · exact .inr (.inl r)
      · exact .inr (.inr (.inl r))
      · exact .inr (.inr (.inr (.inl r)))
      · exact .inr (.inr (.inr (.inr (.inl r))))
      · exact .inr (.inr (.inr (.inr (.inr (.inl (by rw [hav]; exact r))))))
      · exact .inr (.inr (.inr (.inr (.inr (.inr r)))))
    obtain ⟨p', c', e', _⟩ := id hke
    cases e'
    have hsn : SlN ((W5.setCell ⟨b, 5, none⟩ (.slice (some ⟨g, 0, none⟩) 0 cap)).setCell ⟨b, 6, none⟩ (.int .i64 0)) kp0 kp := slN_of hke h.kbt (fun k hk => by obtain ⟨c2, hc2⟩ := h.kbt k hk; exact q5 k (ne_ty hc2 h.dev (by decide)) (ne_ty hc2 hgc (by decide)) (lt_of_heap hc2)) hkb
    refine ⟨froz8 q1 5, ⟨_, cell8 q1 5⟩, froz8 q2 6, ⟨_, cell8 q2 6⟩, cell8 q4 1, (plose_kb kc0 hd6 hok5 hsn (by omega)).mono ?_⟩
    rintro e w' ⟨rfl, L', σ', l1, l2, l3, l4, l5⟩
    exact ⟨rfl, L', σ', l1, l2, fun k hk => (l3 k hk).imp (hfo k) (fun h5 => Nat.le_trans g6.size h5), g6.trans l4 (fun i hi => .inl (hi.elim (fun e => .inl e) (fun e => .inr (.inl e)))), l5⟩
  have KF := hide kf
  have KD := hide kd
  have opI : (σ.ops : Int) < 1400000000000 := by omega
  have cnI : ¬ (σ.cnt : Int) + 1 < (af : Int) := by omega
  have ncI : (σ.cnt : Int) < 1400000000000 := by omega
  have i5d : (((w.setCell ⟨b, 4, none⟩ (.int .i64 ((σ.ops : Int) + 1))).setCell ⟨b, 6, none⟩ (.int .i64 ((σ.cnt : Int) + 1))).alloc (.cells #[.int .i64 (af : Int), .slice kp0 kl0 kc0] 54)).drew.cell? ⟨b, 5, none⟩ = some (.slice (some ⟨g, 0, none⟩) 1 cap) := by rw [cell8 (w := (((w.setCell ⟨b, 4, none⟩ (.int .i64 ((σ.ops : Int) + 1))).setCell ⟨b, 6, none⟩ (.int .i64 ((σ.cnt : Int) + 1))).alloc (.cells #[.int .i64 (af : Int), .slice kp0 kl0 kc0] 54)).drew) hbX, ← hav]; rfl
  clear h harm hke hgc hc0 hc1 hbX hgX hfX sx hAX hsz hb1 hb2 hg2 hops hc hcn hav hgb f5 hn1 hal hok hok5 hkb hkl kf kd hcs
  generalize hno : σ.ops = no at *
  generalize hnc : σ.cnt = nc at *
  clear hnc
  go_enter Try.func63, Try.ntmps63
  go_wp2_with (fail)
  refine wp_region_held_drew (S := fun Y => Y.cell? ⟨b, 6, none⟩ = some (.int .i64 ((nc : Int) + 1)) ∧ Y.cell? ⟨w.heap.size, 0, none⟩ = some (.int .i64 (af : Int))) (by kernel_rfl) SX.out (fun hS => ?_)
  refine wpAnyH_take (i := 0) (v := (.pointer (some ⟨b, 0, none⟩))) rfl (by kernel_rfl) (by kernel_rfl) (by kernel_rfl) (fun _ _ _ h => h) (Or.inl ⟨by kernel_rfl, fun w' hw => by (go_simp)⟩) hS ?_
  refine wpAnyH_take (i := 1) (v := (.pointer (some ⟨b, 0, none⟩))) rfl (by kernel_rfl) (by kernel_rfl) (by kernel_rfl) (fun _ _ _ h => h) (Or.inl ⟨by kernel_rfl, fun w' hw => by (go_simp)⟩) hS ?_
  refine wpAnyH_take (i := 2) (v := (.pointer (some ⟨b, 6, none⟩))) rfl (by kernel_rfl) (by kernel_rfl) (by kernel_rfl) (fun _ _ _ h => h) (Or.inl ⟨by kernel_rfl, fun w' hw => by (go_simp)⟩) hS ?_
  refine wpAnyH_take (i := 3) (v := (.int .i64 ((nc : Int) + 1))) rfl (by kernel_rfl) (by kernel_rfl) (by kernel_rfl) (fun _ _ _ h => h) (Or.inl ⟨by kernel_rfl, fun w' hw => by (obtain ⟨z0, z1⟩ := hw; go_simp)⟩) hS ?_
  refine wpAnyH_take (i := 4) (v := (.pointer (some ⟨w.heap.size, 0, none⟩))) rfl (by kernel_rfl) (by kernel_rfl) (by kernel_rfl) (fun _ _ _ h => h) (Or.inl ⟨by kernel_rfl, fun w' hw => by (go_simp)⟩) hS ?_
  refine wpAnyH_take (i := 5) (v := (.int .i64 (af : Int))) rfl (by kernel_rfl) (by kernel_rfl) (by kernel_rfl) (fun _ _ _ h => h) (Or.inl ⟨by kernel_rfl, fun w' hw => by (obtain ⟨z0, z1⟩ := hw; go_simp)⟩) hS ?_
  refine wpAnyH_take (i := 6) (v := (.bool false)) rfl (by kernel_rfl) (by kernel_rfl) (by kernel_rfl) (fun _ _ _ h => h) (Or.inl ⟨by kernel_rfl, fun w' hw => by (go_simp)⟩) hS ?_
  refine wpAnyH_done (by kernel_rfl) ?_ _
  simp only [Act.put, List.getElem_toArray, List.getElem_cons_zero, List.getElem_cons_succ, List.setIfInBounds_toArray, List.set_cons_zero, List.set_cons_succ]
  go_wp2_with (first
    | (go_at_call 79; refine (KD.out).mono ?_; rintro e W5 ⟨rfl, hg5, hc5⟩; obtain ⟨x1, ⟨u1, x2⟩, x3, ⟨u2, x4⟩, x5, kl⟩ := KF.out W5 hg5 hc5; have KL := hide kl; clear hg5 hc5 kl)
    | (go_at_call 67; refine (KL.out).mono ?_; rintro e W7 ⟨rfl, hr⟩; have HR := hide hr; clear hr))
  go_ret
  exact ⟨rfl, HR.out⟩
end
end Go.Proofs.Ytadmekikdaocoaa
