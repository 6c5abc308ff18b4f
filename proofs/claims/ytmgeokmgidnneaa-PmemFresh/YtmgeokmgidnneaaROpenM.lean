/- What opening a row of structs leans on. -/
import Derived.Test.YtmgeokmgidnneaaPDel
import Derived.Deep.Cut
import Derived.Test.YtmgeokmgidnneaaPDrp
import Derived.Test.YtmgeokmgidnneaaPPlN
import Derived.Test.YtmgeokmgidnneaaPNew
import Derived.Shelf.SlMaps.Clone
import Derived.Test.YtmgeokmgidnneaaPWr
import Derived.Test.YtmgeokmgidnneaaPSt
import Derived.Test.YtmgeokmgidnneaaPFl
import Derived.Test.YtmgeokmgidnneaaPFnW
import Derived.Test.YtmgeokmgidnneaaBase
import Derived.Test.YtmgeokmgidnneaaEq
import Derived.ProofKit
import Derived.ChangeOld
import Derived.SizedLaws
import Derived.JoinedCond
import Derived.Deep.Slices
namespace Go.Proofs.Ytmgeokmgidnneaa
open Go.RowKit Go.Shelf
set_option linter.unusedVariables false

section
variable {w : World} {b : Nat} {L : Lay} {σ : St}
/-- Where the first loss that waits lies. -/
theorem arm_first {af : Nat} {kp : List Nat} {rest : List (Nat × List Nat)} (h : DevL w b L σ) (harm : σ.arms = (af, kp) :: rest) :
    ∃ g cap kv, L.av = .slice (some ⟨g, 0, none⟩) σ.arms.length cap ∧ 0 < σ.arms.length ∧ ∃ cur : Array Value, w.heap[g]? = some (.cells cur 75 (0, 0)) ∧ cur[0]? = some (.int .i64 (af : Int)) ∧ cur[1]? = some kv ∧ KeepAt w L.KB kv kp := by
  obtain ⟨ks, hl, ho, hk⟩ := h.arms
  rw [harm] at hl ho hk
  rw [harm]
  match ks, hl with
  | k0 :: ks', hl =>
    rcases ho.2 with ⟨e, h0⟩ | ⟨g, cap, cur, e, h1, h2, h3, h4, h5, h6⟩
    · simp at h0
    · refine ⟨g, cap, k0, e, by simp, cur, h2, ?_, ?_, hk 0 k0 (af, kp) rfl rfl⟩
      · have h7 : (cur.toList.take (((af, kp) :: rest).length * 2))[0]? = some (.int .i64 (af : Int)) := by rw [h6]; rfl
        rw [List.getElem?_take, if_pos (by simp)] at h7
        simpa using h7
      · have h7 : (cur.toList.take (((af, kp) :: rest).length * 2))[1]? = some k0 := by rw [h6]; rfl
        rw [List.getElem?_take, if_pos (by simp; omega)] at h7
        simpa using h7
theorem index_arm (g len cap : Nat) (hi : 0 < len) (w : World) : (Instr.indexAt 57 (.slice (some ⟨g, 0, none⟩) len cap) (.int .i64 0)).run Try.prog w = .ok (.pointer (some ⟨g, 0, none⟩)) w := by
  have h := index_at (t := 57) (e := 75) (sz := 2) armSlice (by kernel_rfl) g 0 0 len cap hi w
  rwa [Nat.zero_add, Nat.zero_mul] at h
set_option maxRecDepth 100000 in
set_option maxHeartbeats 400000 in
/-- One operation more; the loss still waits. -/
theorem poper_wait {af : Nat} {kp : List Nat} (h : DevL w b L σ) (hops : σ.ops < 1400000000000) (harm : σ.arms = [(af, kp)]) (hc : σ.cnt + 1 < af) (hcn : σ.cnt < 1400000000000) :
    Calls Try.prog 41 #[.pointer (some ⟨b, 0, none⟩)] w fun e w' => e = .returned (.int .i64 0) ∧ DevL w' b L { σ with ops := σ.ops + 1, cnt := σ.cnt + 1 } ∧ Gr (fun k => k = b) w w' := by
  obtain ⟨g, cap, kv, hav, hn1, cur, hgc, hc0, hc1, hke⟩ := arm_first (rest := []) h harm
  have hal : σ.arms.length = 1 := by rw [harm]; rfl
  rw [hal] at hav hn1
  have hgb : g ≠ b := ne_ty hgc h.dev (by decide)
  have c4 := h.c4
  have c5 := h.c5
  rw [hav] at c5
  have c6 := h.c6
  have f4 := h.fz 4
  have f6 := h.fz 6
  have f5 := h.fz 5
  have hb1 : (w.setCell ⟨b, 4, none⟩ (.int .i64 ((σ.ops : Int) + 1))).heap[b]? = _ := heap_set1 w b 4 _ _ _ h.dev
  have d5 : (w.setCell ⟨b, 4, none⟩ (.int .i64 ((σ.ops : Int) + 1))).cell? ⟨b, 5, none⟩ = some (.slice (some ⟨g, 0, none⟩) 1 cap) := by rw [cell8 hb1, ← hav]; rfl
  have d6 : (w.setCell ⟨b, 4, none⟩ (.int .i64 ((σ.ops : Int) + 1))).cell? ⟨b, 6, none⟩ = some (.int .i64 (σ.cnt : Int)) := by rw [cell8 hb1]; rfl
  have g6 : (w.setCell ⟨b, 4, none⟩ (.int .i64 ((σ.ops : Int) + 1))).frozen? ⟨b, 6, none⟩ = false := froz8 hb1 6
  have hb2 := heap_set1 (w.setCell ⟨b, 4, none⟩ (.int .i64 ((σ.ops : Int) + 1))) b 6 _ _ (.int .i64 ((σ.cnt : Int) + 1)) hb1
  have i5 : ((w.setCell ⟨b, 4, none⟩ (.int .i64 ((σ.ops : Int) + 1))).setCell ⟨b, 6, none⟩ (.int .i64 ((σ.cnt : Int) + 1))).cell? ⟨b, 5, none⟩ = some (.slice (some ⟨g, 0, none⟩) 1 cap) := by rw [cell8 hb2, ← hav]; rfl
  have hg2 : ((w.setCell ⟨b, 4, none⟩ (.int .i64 ((σ.ops : Int) + 1))).setCell ⟨b, 6, none⟩ (.int .i64 ((σ.cnt : Int) + 1))).heap[g]? = some (.cells cur 75 (0, 0)) := ((heap_set_ne _ b 6 g _ hgb).trans (heap_set_ne w b 4 g _ hgb)).trans hgc
  have j0 : ((w.setCell ⟨b, 4, none⟩ (.int .i64 ((σ.ops : Int) + 1))).setCell ⟨b, 6, none⟩ (.int .i64 ((σ.cnt : Int) + 1))).cell? ⟨g, 0, none⟩ = some (.int .i64 (af : Int)) := (cell8 hg2 0).trans hc0
  have j1 : ((w.setCell ⟨b, 4, none⟩ (.int .i64 ((σ.ops : Int) + 1))).setCell ⟨b, 6, none⟩ (.int .i64 ((σ.cnt : Int) + 1))).cell? ⟨g, 1, none⟩ = some kv := (cell8 hg2 1).trans hc1
  have hsz : ((w.setCell ⟨b, 4, none⟩ (.int .i64 ((σ.ops : Int) + 1))).setCell ⟨b, 6, none⟩ (.int .i64 ((σ.cnt : Int) + 1))).heap.size = w.heap.size := by simp
  have hAX : Below ((w.setCell ⟨b, 4, none⟩ (.int .i64 ((σ.ops : Int) + 1))).setCell ⟨b, 6, none⟩ (.int .i64 ((σ.cnt : Int) + 1))).heap.size ((w.setCell ⟨b, 4, none⟩ (.int .i64 ((σ.ops : Int) + 1))).setCell ⟨b, 6, none⟩ (.int .i64 ((σ.cnt : Int) + 1))) (((w.setCell ⟨b, 4, none⟩ (.int .i64 ((σ.ops : Int) + 1))).setCell ⟨b, 6, none⟩ (.int .i64 ((σ.cnt : Int) + 1))).alloc (.cells #[.int .i64 (af : Int), kv] 75)) := (Below.refl _ _).alloc (Nat.le_refl _) _
  have hbX : (((w.setCell ⟨b, 4, none⟩ (.int .i64 ((σ.ops : Int) + 1))).setCell ⟨b, 6, none⟩ (.int .i64 ((σ.cnt : Int) + 1))).alloc (.cells #[.int .i64 (af : Int), kv] 75)).heap[b]? = _ := (hAX.block b (by rw [hsz]; exact h.lt)).trans hb2
  have hgX : (((w.setCell ⟨b, 4, none⟩ (.int .i64 ((σ.ops : Int) + 1))).setCell ⟨b, 6, none⟩ (.int .i64 ((σ.cnt : Int) + 1))).alloc (.cells #[.int .i64 (af : Int), kv] 75)).heap[g]? = some (.cells cur 75 (0, 0)) := (hAX.block g (by rw [hsz]; exact lt_of_heap hgc)).trans hg2
  have hfX : (((w.setCell ⟨b, 4, none⟩ (.int .i64 ((σ.ops : Int) + 1))).setCell ⟨b, 6, none⟩ (.int .i64 ((σ.cnt : Int) + 1))).alloc (.cells #[.int .i64 (af : Int), kv] 75)).heap[w.heap.size]? = some (.cells #[.int .i64 (af : Int), kv] 75 (0, 0)) := by
    have := heap_alloc_new ((w.setCell ⟨b, 4, none⟩ (.int .i64 ((σ.ops : Int) + 1))).setCell ⟨b, 6, none⟩ (.int .i64 ((σ.cnt : Int) + 1))) (.cells #[.int .i64 (af : Int), kv] 75)
    rwa [hsz] at this
  have sx : (((w.setCell ⟨b, 4, none⟩ (.int .i64 ((σ.ops : Int) + 1))).setCell ⟨b, 6, none⟩ (.int .i64 ((σ.cnt : Int) + 1))).alloc (.cells #[.int .i64 (af : Int), kv] 75)).drew.cell? ⟨b, 6, none⟩ = some (.int .i64 ((σ.cnt : Int) + 1)) ∧ (((w.setCell ⟨b, 4, none⟩ (.int .i64 ((σ.ops : Int) + 1))).setCell ⟨b, 6, none⟩ (.int .i64 ((σ.cnt : Int) + 1))).alloc (.cells #[.int .i64 (af : Int), kv] 75)).drew.cell? ⟨w.heap.size, 0, none⟩ = some (.int .i64 (af : Int)) := ⟨by rw [cell8 (w := (((w.setCell ⟨b, 4, none⟩ (.int .i64 ((σ.ops : Int) + 1))).setCell ⟨b, 6, none⟩ (.int .i64 ((σ.cnt : Int) + 1))).alloc (.cells #[.int .i64 (af : Int), kv] 75)).drew) hbX]; rfl, cell8 (w := (((w.setCell ⟨b, 4, none⟩ (.int .i64 ((σ.ops : Int) + 1))).setCell ⟨b, 6, none⟩ (.int .i64 ((σ.cnt : Int) + 1))).alloc (.cells #[.int .i64 (af : Int), kv] 75)).drew) hfX 0⟩
  have SX := hide sx
  have ix := fun Y => index_arm g 1 cap hn1 Y
  obtain ⟨kp0, kl0, kc0, hkv⟩ : ∃ p l c, kv = .slice p l c := by obtain ⟨p, c, e, _⟩ := hke; exact ⟨p, _, c, e⟩
  have hre : DevL (((w.setCell ⟨b, 4, none⟩ (.int .i64 ((σ.ops : Int) + 1))).setCell ⟨b, 6, none⟩ (.int .i64 ((σ.cnt : Int) + 1))).alloc (.cells #[.int .i64 (af : Int), kv] 75)).drew b L { σ with ops := σ.ops + 1, cnt := σ.cnt + 1 } := h.re (ops := σ.ops + 1) (cnt := σ.cnt + 1) (off := σ.off) (by show (((w.setCell ⟨b, 4, none⟩ (.int .i64 ((σ.ops : Int) + 1))).setCell ⟨b, 6, none⟩ (.int .i64 ((σ.cnt : Int) + 1))).alloc (.cells #[.int .i64 (af : Int), kv] 75)).heap[b]? = _; rw [hbX]; rfl) (fun k hk hlt => (hAX.block k (by rw [hsz]; exact hlt)).trans ((heap_set_ne _ b 6 k _ hk).trans (heap_set_ne w b 4 k _ hk)))
  have hgr : Gr (fun k => k = b) w (((w.setCell ⟨b, 4, none⟩ (.int .i64 ((σ.ops : Int) + 1))).setCell ⟨b, 6, none⟩ (.int .i64 ((σ.cnt : Int) + 1))).alloc (.cells #[.int .i64 (af : Int), kv] 75)).drew := ((Gr.set w b 4 _ (X := fun k => k = b) rfl).trans (Gr.set _ b 6 _ (X := fun k => k = b) rfl) (fun i h => .inl h)).trans (Gr.of_below hAX : Gr (fun k => k = b) _ (((w.setCell ⟨b, 4, none⟩ (.int .i64 ((σ.ops : Int) + 1))).setCell ⟨b, 6, none⟩ (.int .i64 ((σ.cnt : Int) + 1))).alloc (.cells #[.int .i64 (af : Int), kv] 75))) (fun i h => .inl h)
  have HR := hide hre
  have HG := hide hgr
  have opI : (σ.ops : Int) < 1400000000000 := by omega
  have cnI : (σ.cnt : Int) + 1 < (af : Int) := by omega
  have ncI : (σ.cnt : Int) < 1400000000000 := by omega
  subst hkv
  clear h harm hre hgr hke hgc hc0 hc1 hbX hgX hfX sx hAX hsz hb1 hb2 hg2 hops hc hcn hav hgb f5 hn1 hal
  generalize σ.ops = no at *
  generalize σ.cnt = nc at *
  go_enter Try.func41, Try.ntmps41
  go_wp2_with (fail)
  refine wp_region_held_drew (S := fun Y => Y.cell? ⟨b, 6, none⟩ = some (.int .i64 ((nc : Int) + 1)) ∧ Y.cell? ⟨w.heap.size, 0, none⟩ = some (.int .i64 (af : Int))) (by kernel_rfl) SX.out (fun hS => ?_)
  refine wpAnyH_take (i := 0) (v := (.pointer (some ⟨b, 0, none⟩))) rfl (by kernel_rfl) (by kernel_rfl) (by kernel_rfl) (fun _ _ _ h => h) (Or.inl ⟨by kernel_rfl, fun w' hw => by (go_simp)⟩) hS ?_
  refine wpAnyH_take (i := 1) (v := (.pointer (some ⟨b, 0, none⟩))) rfl (by kernel_rfl) (by kernel_rfl) (by kernel_rfl) (fun _ _ _ h => h) (Or.inl ⟨by kernel_rfl, fun w' hw => by (go_simp)⟩) hS ?_
  refine wpAnyH_take (i := 2) (v := (.pointer (some ⟨b, 6, none⟩))) rfl (by kernel_rfl) (by kernel_rfl) (by kernel_rfl) (fun _ _ _ h => h) (Or.inl ⟨by kernel_rfl, fun w' hw => by (go_simp)⟩) hS ?_
  refine wpAnyH_take (i := 3) (v := (.int .i64 ((nc : Int) + 1))) rfl (by kernel_rfl) (by kernel_rfl) (by kernel_rfl) (fun _ _ _ h => h) (Or.inl ⟨by kernel_rfl, fun w' hw => by (obtain ⟨z0, z1⟩ := hw; go_simp)⟩) hS ?_
  refine wpAnyH_take (i := 4) (v := (.pointer (some ⟨w.heap.size, 0, none⟩))) rfl (by kernel_rfl) (by kernel_rfl) (by kernel_rfl) (fun _ _ _ h => h) (Or.inl ⟨by kernel_rfl, fun w' hw => by (go_simp)⟩) hS ?_
  refine wpAnyH_take (i := 5) (v := (.int .i64 (af : Int))) rfl (by kernel_rfl) (by kernel_rfl) (by kernel_rfl) (fun _ _ _ h => h) (Or.inl ⟨by kernel_rfl, fun w' hw => by (obtain ⟨z0, z1⟩ := hw; go_simp)⟩) hS ?_
  refine wpAnyH_take (i := 6) (v := (.bool true)) rfl (by kernel_rfl) (by kernel_rfl) (by kernel_rfl) (fun _ _ _ h => h) (Or.inl ⟨by kernel_rfl, fun w' hw => by (go_simp)⟩) hS ?_
  refine wpAnyH_done (by kernel_rfl) ?_ _
  simp only [Act.put, List.getElem_toArray, List.getElem_cons_zero, List.getElem_cons_succ, List.setIfInBounds_toArray, List.set_cons_zero, List.set_cons_succ]
  go_wp2_with (fail)
  go_ret
  exact ⟨rfl, HR.out, HG.out⟩
/-- The losses that wait are gone. -/
theorem DevL.disarm {w' : World} {g cap o : Nat} (h : DevL w b L σ) (hav : L.av = .slice (some ⟨g, 0, none⟩) 1 cap) (hb : w'.heap[b]? = some (.cells (devC b { L with av := .slice (some ⟨g, 0, none⟩) 0 cap } { σ with ops := o, arms := [], cnt := 0 }) 64 (0, 0)))
    (hg : ∃ cur : Array Value, w.heap[g]? = some (.cells cur 75 (0, 0)) ∧ cur.size = cap * 2 ∧ cap ≤ maxLen ∧ ∃ cur' : Array Value, w'.heap[g]? = some (.cells cur' 75 (0, 0)) ∧ cur'.size = cur.size) (hk : ∀ k, k ≠ b → k ≠ g → k < w.heap.size → w'.heap[k]? = w.heap[k]?) :
    DevL w' b { L with av := .slice (some ⟨g, 0, none⟩) 0 cap } { σ with ops := o, arms := [], cnt := 0 } := by
  obtain ⟨cur, hg1, hs1, hm1, cur', hg2, hs2⟩ := hg
  have hs : ∀ (k : Nat) (c : Array Value) t fr, w.heap[k]? = some (Obj.cells c t fr) → t ≠ 64 → t ≠ 75 → w'.heap[k]? = w.heap[k]? := fun k c t fr h1 h2 h3 => hk k (ne_ty h1 h.dev h2) (ne_ty h1 hg1 h3) (lt_of_heap h1)
  obtain ⟨e1, k1, hob⟩ := h.old.block
  obtain ⟨e2, k2, hfb⟩ := h.flm.block
  refine ⟨hb, (hs _ _ _ _ h.seen (by decide) (by decide)).trans h.seen, h.old.of_block (hk _ (ne_map h.dev hob).symm (ne_map hg1 hob).symm (lt_of_heap hob)), h.flm.of_block (hk _ (ne_map h.dev hfb).symm (ne_map hg1 hfb).symm (lt_of_heap hfb)),
    fun i hi => (h.pasts i hi).keep (hs _ _ _ _ (h.pasts i hi).1 (by decide) (by decide)) (fun g' hg' => ?_), h.pne, h.rne, h.mne, ⟨[], rfl, ⟨rfl, .inr ⟨g, cap, cur', rfl, Nat.zero_le _, hg2, Nat.zero_le _, hm1, by rw [hs2, hs1], by simp⟩⟩, fun i k a h => by simp at h⟩, fun k hkb => ?_⟩
  · obtain ⟨c, hc⟩ := (h.pasts i hi).row hg'
    exact hs _ _ _ _ hc (by decide) (by decide)
  · obtain ⟨c, hc⟩ := h.kbt k hkb
    exact ⟨c, (hs _ _ _ _ hc (by decide) (by decide)).trans hc⟩
theorem slN_of {W : World} {KB : Nat → Prop} {p : Option Addr} {c : Nat} {kp : List Nat} (h : KeepAt w KB (.slice p kp.length c) kp) (hkb : ∀ k, KB k → ∃ c, w.heap[k]? = some (.cells c 3 (0, 0))) (hW : ∀ k, KB k → W.heap[k]? = w.heap[k]?) (hb : ∀ x ∈ kp, x < 9223372036854775808) : SlN W p kp := by
  obtain ⟨p', c', e, h1⟩ := h
  cases e
  rcases h1 with ⟨h2, h3⟩ | ⟨g, h2, h3, h4⟩
  · exact ⟨hb, .inl ⟨h2, h3⟩⟩
  · obtain ⟨c2, hc2⟩ := hkb g h3
    exact ⟨hb, .inr ⟨g, 0, c2, (0, 0), h2, (hW g h3).trans hc2, fun j k hj => by rw [Nat.zero_add]; exact (World.cell?_of_block (a := ⟨g, j, none⟩) (hW g h3)).trans (h4 j k hj)⟩⟩
set_option maxRecDepth 100000 in
set_option maxHeartbeats 400000 in
/-- One operation more, behind which the power goes. -/
theorem poper_fire {af : Nat} {kp : List Nat} (h : DevL w b L σ) (hok : ({ σ with ops := σ.ops + 1 } : St).Ok) (hops : σ.ops < 1400000000000) (harm : σ.arms = [(af, kp)]) (hc : af ≤ σ.cnt + 1) (hcn : σ.cnt < 1400000000000) (hkb : ∀ x ∈ kp, x < 9223372036854775808) (hkl : kp.length ≤ 1400000000000) :
    Calls Try.prog 41 #[.pointer (some ⟨b, 0, none⟩)] w fun e w' => e = .returned (.int .i64 5) ∧ ∃ L' σ', Lost { σ with ops := σ.ops + 1, arms := [], cnt := 0 } kp σ' ∧ DevL w' b L' σ' ∧ (∀ k, Foot b L' σ' k → Foot b L σ k ∨ w.heap.size ≤ k) ∧ Gr (Foot b L σ) w w' ∧ L'.N ≤ L.N ∧ L'.KB = L.KB := by
  obtain ⟨g, cap, kv, hav, hn1, cur, hgc, hc0, hc1, hke⟩ := arm_first (rest := []) h harm
  have hal : σ.arms.length = 1 := by rw [harm]; rfl
  rw [hal] at hav hn1
  have hgb : g ≠ b := ne_ty hgc h.dev (by decide)
  have c4 := h.c4
  have c5 := h.c5
  rw [hav] at c5
  have c6 := h.c6
  have f4 := h.fz 4
  have f6 := h.fz 6
  have f5 := h.fz 5
  have hb1 : (w.setCell ⟨b, 4, none⟩ (.int .i64 ((σ.ops : Int) + 1))).heap[b]? = _ := heap_set1 w b 4 _ _ _ h.dev
  have d5 : (w.setCell ⟨b, 4, none⟩ (.int .i64 ((σ.ops : Int) + 1))).cell? ⟨b, 5, none⟩ = some (.slice (some ⟨g, 0, none⟩) 1 cap) := by rw [cell8 hb1, ← hav]; rfl
  have d6 : (w.setCell ⟨b, 4, none⟩ (.int .i64 ((σ.ops : Int) + 1))).cell? ⟨b, 6, none⟩ = some (.int .i64 (σ.cnt : Int)) := by rw [cell8 hb1]; rfl
  have g6 : (w.setCell ⟨b, 4, none⟩ (.int .i64 ((σ.ops : Int) + 1))).frozen? ⟨b, 6, none⟩ = false := froz8 hb1 6
  have hb2 := heap_set1 (w.setCell ⟨b, 4, none⟩ (.int .i64 ((σ.ops : Int) + 1))) b 6 _ _ (.int .i64 ((σ.cnt : Int) + 1)) hb1
  have i5 : ((w.setCell ⟨b, 4, none⟩ (.int .i64 ((σ.ops : Int) + 1))).setCell ⟨b, 6, none⟩ (.int .i64 ((σ.cnt : Int) + 1))).cell? ⟨b, 5, none⟩ = some (.slice (some ⟨g, 0, none⟩) 1 cap) := by rw [cell8 hb2, ← hav]; rfl
  have hg2 : ((w.setCell ⟨b, 4, none⟩ (.int .i64 ((σ.ops : Int) + 1))).setCell ⟨b, 6, none⟩ (.int .i64 ((σ.cnt : Int) + 1))).heap[g]? = some (.cells cur 75 (0, 0)) := ((heap_set_ne _ b 6 g _ hgb).trans (heap_set_ne w b 4 g _ hgb)).trans hgc
  have j0 : ((w.setCell ⟨b, 4, none⟩ (.int .i64 ((σ.ops : Int) + 1))).setCell ⟨b, 6, none⟩ (.int .i64 ((σ.cnt : Int) + 1))).cell? ⟨g, 0, none⟩ = some (.int .i64 (af : Int)) := (cell8 hg2 0).trans hc0
  have j1 : ((w.setCell ⟨b, 4, none⟩ (.int .i64 ((σ.ops : Int) + 1))).setCell ⟨b, 6, none⟩ (.int .i64 ((σ.cnt : Int) + 1))).cell? ⟨g, 1, none⟩ = some kv := (cell8 hg2 1).trans hc1
  have hsz : ((w.setCell ⟨b, 4, none⟩ (.int .i64 ((σ.ops : Int) + 1))).setCell ⟨b, 6, none⟩ (.int .i64 ((σ.cnt : Int) + 1))).heap.size = w.heap.size := by simp
  have hAX : Below ((w.setCell ⟨b, 4, none⟩ (.int .i64 ((σ.ops : Int) + 1))).setCell ⟨b, 6, none⟩ (.int .i64 ((σ.cnt : Int) + 1))).heap.size ((w.setCell ⟨b, 4, none⟩ (.int .i64 ((σ.ops : Int) + 1))).setCell ⟨b, 6, none⟩ (.int .i64 ((σ.cnt : Int) + 1))) (((w.setCell ⟨b, 4, none⟩ (.int .i64 ((σ.ops : Int) + 1))).setCell ⟨b, 6, none⟩ (.int .i64 ((σ.cnt : Int) + 1))).alloc (.cells #[.int .i64 (af : Int), kv] 75)) := (Below.refl _ _).alloc (Nat.le_refl _) _
  have hbX : (((w.setCell ⟨b, 4, none⟩ (.int .i64 ((σ.ops : Int) + 1))).setCell ⟨b, 6, none⟩ (.int .i64 ((σ.cnt : Int) + 1))).alloc (.cells #[.int .i64 (af : Int), kv] 75)).heap[b]? = _ := (hAX.block b (by rw [hsz]; exact h.lt)).trans hb2
  have hgX : (((w.setCell ⟨b, 4, none⟩ (.int .i64 ((σ.ops : Int) + 1))).setCell ⟨b, 6, none⟩ (.int .i64 ((σ.cnt : Int) + 1))).alloc (.cells #[.int .i64 (af : Int), kv] 75)).heap[g]? = some (.cells cur 75 (0, 0)) := (hAX.block g (by rw [hsz]; exact lt_of_heap hgc)).trans hg2
  have hfX : (((w.setCell ⟨b, 4, none⟩ (.int .i64 ((σ.ops : Int) + 1))).setCell ⟨b, 6, none⟩ (.int .i64 ((σ.cnt : Int) + 1))).alloc (.cells #[.int .i64 (af : Int), kv] 75)).heap[w.heap.size]? = some (.cells #[.int .i64 (af : Int), kv] 75 (0, 0)) := by
    have := heap_alloc_new ((w.setCell ⟨b, 4, none⟩ (.int .i64 ((σ.ops : Int) + 1))).setCell ⟨b, 6, none⟩ (.int .i64 ((σ.cnt : Int) + 1))) (.cells #[.int .i64 (af : Int), kv] 75)
    rwa [hsz] at this
  have sx : (((w.setCell ⟨b, 4, none⟩ (.int .i64 ((σ.ops : Int) + 1))).setCell ⟨b, 6, none⟩ (.int .i64 ((σ.cnt : Int) + 1))).alloc (.cells #[.int .i64 (af : Int), kv] 75)).drew.cell? ⟨b, 6, none⟩ = some (.int .i64 ((σ.cnt : Int) + 1)) ∧ (((w.setCell ⟨b, 4, none⟩ (.int .i64 ((σ.ops : Int) + 1))).setCell ⟨b, 6, none⟩ (.int .i64 ((σ.cnt : Int) + 1))).alloc (.cells #[.int .i64 (af : Int), kv] 75)).drew.cell? ⟨w.heap.size, 0, none⟩ = some (.int .i64 (af : Int)) := ⟨by rw [cell8 (w := (((w.setCell ⟨b, 4, none⟩ (.int .i64 ((σ.ops : Int) + 1))).setCell ⟨b, 6, none⟩ (.int .i64 ((σ.cnt : Int) + 1))).alloc (.cells #[.int .i64 (af : Int), kv] 75)).drew) hbX]; rfl, cell8 (w := (((w.setCell ⟨b, 4, none⟩ (.int .i64 ((σ.ops : Int) + 1))).setCell ⟨b, 6, none⟩ (.int .i64 ((σ.cnt : Int) + 1))).alloc (.cells #[.int .i64 (af : Int), kv] 75)).drew) hfX 0⟩
  have SX := hide sx
  have ix := fun Y => index_arm g 1 cap hn1 Y
  obtain ⟨kp0, kl0, kc0, hkv⟩ : ∃ p l c, kv = .slice p l c := by obtain ⟨p, c, e, _⟩ := hke; exact ⟨p, _, c, e⟩
  have hcs : cur.size = cap * 2 ∧ cap ≤ maxLen ∧ 1 ≤ cap := by
    obtain ⟨ks, hl, ho, _⟩ := h.arms
    rcases ho.2 with ⟨e, _⟩ | ⟨g', cap', cur', e, q1, q2, q3, q4, q5, q6⟩
    · rw [hav] at e; cases e
    · rw [hav, hal] at e
      cases e
      rw [hgc] at q2
      cases q2
      exact ⟨q5, q4, by rw [harm] at q3; simpa using q3⟩
  have kd := pdel_one (((w.setCell ⟨b, 4, none⟩ (.int .i64 ((σ.ops : Int) + 1))).setCell ⟨b, 6, none⟩ (.int .i64 ((σ.cnt : Int) + 1))).alloc (.cells #[.int .i64 (af : Int), kv] 75)).drew g cap cur hgX (by omega) (by omega)
  have hok5 : St.Ok { σ with ops := σ.ops + 1, arms := [], cnt := 0 } := ⟨hok.pos, hok.max, hok.len, hok.byte, hok.out, hok.clen, hok.cbyte, hok.few, hok.flp, hok.opsm⟩
  subst hkv
  have kf : ∀ W5 : World, Gr (fun k => k = g) (((w.setCell ⟨b, 4, none⟩ (.int .i64 ((σ.ops : Int) + 1))).setCell ⟨b, 6, none⟩ (.int .i64 ((σ.cnt : Int) + 1))).alloc (.cells #[.int .i64 (af : Int), .slice kp0 kl0 kc0] 75)).drew W5 → (∃ cur' : Array Value, W5.heap[g]? = some (.cells cur' 75 (0, 0)) ∧ cur'.size = cur.size) →
      W5.frozen? ⟨b, 5, none⟩ = false ∧ (∃ u, W5.cell? ⟨b, 5, none⟩ = some u) ∧ (W5.setCell ⟨b, 5, none⟩ (.slice (some ⟨g, 0, none⟩) 0 cap)).frozen? ⟨b, 6, none⟩ = false ∧ (∃ u, (W5.setCell ⟨b, 5, none⟩ (.slice (some ⟨g, 0, none⟩) 0 cap)).cell? ⟨b, 6, none⟩ = some u) ∧ ((W5.setCell ⟨b, 5, none⟩ (.slice (some ⟨g, 0, none⟩) 0 cap)).setCell ⟨b, 6, none⟩ (.int .i64 0)).cell? ⟨w.heap.size, 1, none⟩ = some (.slice kp0 kl0 kc0) ∧
      Calls Try.prog 44 #[.pointer (some ⟨b, 0, none⟩), .slice kp0 kl0 kc0] ((W5.setCell ⟨b, 5, none⟩ (.slice (some ⟨g, 0, none⟩) 0 cap)).setCell ⟨b, 6, none⟩ (.int .i64 0)) fun e w' => e = .returned (.tuple #[]) ∧ ∃ L' σ', Lost { σ with ops := σ.ops + 1, arms := [], cnt := 0 } kp σ' ∧ DevL w' b L' σ' ∧ (∀ k, Foot b L' σ' k → Foot b L σ k ∨ w.heap.size ≤ k) ∧ Gr (Foot b L σ) w w' ∧ L'.N ≤ L.N ∧ L'.KB = L.KB := fun W5 hg5 hc5 => by
    have q1 : W5.heap[b]? = _ := (hg5.block (k := b) (by show b < (((w.setCell ⟨b, 4, none⟩ (.int .i64 ((σ.ops : Int) + 1))).setCell ⟨b, 6, none⟩ (.int .i64 ((σ.cnt : Int) + 1))).alloc (.cells #[.int .i64 (af : Int), .slice kp0 kl0 kc0] 75)).heap.size; exact lt_of_heap hbX) (fun e => hgb e.symm)).trans hbX
    have q2 := heap_set1 W5 b 5 _ _ (.slice (some ⟨g, 0, none⟩) 0 cap) q1
    have q3 := heap_set1 _ b 6 _ _ (.int .i64 0) q2
    have hwg : w.heap.size ≠ g := fun e => by have := lt_of_heap hgc; omega
    have hwb : w.heap.size ≠ b := fun e => by have := h.lt; omega
    have q4 : ((W5.setCell ⟨b, 5, none⟩ (.slice (some ⟨g, 0, none⟩) 0 cap)).setCell ⟨b, 6, none⟩ (.int .i64 0)).heap[w.heap.size]? = some (.cells #[.int .i64 (af : Int), .slice kp0 kl0 kc0] 75 (0, 0)) := (heap_set_ne _ b 6 _ _ hwb).trans ((heap_set_ne _ b 5 _ _ hwb).trans ((hg5.block (k := w.heap.size) (lt_of_heap hfX) hwg).trans hfX))
    have q5 : ∀ k, k ≠ b → k ≠ g → k < w.heap.size → ((W5.setCell ⟨b, 5, none⟩ (.slice (some ⟨g, 0, none⟩) 0 cap)).setCell ⟨b, 6, none⟩ (.int .i64 0)).heap[k]? = w.heap[k]? := fun k k1 k2 k3 =>
      (heap_set_ne _ b 6 k _ k1).trans ((heap_set_ne _ b 5 k _ k1).trans ((hg5.block (k := k) (by show k < (((w.setCell ⟨b, 4, none⟩ (.int .i64 ((σ.ops : Int) + 1))).setCell ⟨b, 6, none⟩ (.int .i64 ((σ.cnt : Int) + 1))).alloc (.cells #[.int .i64 (af : Int), .slice kp0 kl0 kc0] 75)).heap.size; have := hAX.size; omega) k2).trans ((hAX.block k (by rw [hsz]; exact k3)).trans ((heap_set_ne _ b 6 k _ k1).trans (heap_set_ne w b 4 k _ k1)))))
    obtain ⟨cur', hq, hq2⟩ := hc5
    have q6 : ((W5.setCell ⟨b, 5, none⟩ (.slice (some ⟨g, 0, none⟩) 0 cap)).setCell ⟨b, 6, none⟩ (.int .i64 0)).heap[g]? = some (.cells cur' 75 (0, 0)) := (heap_set_ne _ b 6 g _ hgb).trans ((heap_set_ne _ b 5 g _ hgb).trans hq)
    have hd6 := h.disarm (w' := (W5.setCell ⟨b, 5, none⟩ (.slice (some ⟨g, 0, none⟩) 0 cap)).setCell ⟨b, 6, none⟩ (.int .i64 0)) (o := σ.ops + 1) hav (by rw [q3]; rfl) ⟨cur, hgc, hcs.1, hcs.2.1, cur', q6, hq2⟩ q5
    have gX : Gr (Foot b L σ) w (((w.setCell ⟨b, 4, none⟩ (.int .i64 ((σ.ops : Int) + 1))).setCell ⟨b, 6, none⟩ (.int .i64 ((σ.cnt : Int) + 1))).alloc (.cells #[.int .i64 (af : Int), .slice kp0 kl0 kc0] 75)) := ((Gr.set w b 4 _ (X := Foot b L σ) (.inl rfl)).trans (Gr.set _ b 6 _ (X := Foot b L σ) (.inl rfl)) (fun i h => .inl h)).trans (Gr.of_below hAX : Gr (Foot b L σ) _ (((w.setCell ⟨b, 4, none⟩ (.int .i64 ((σ.ops : Int) + 1))).setCell ⟨b, 6, none⟩ (.int .i64 ((σ.cnt : Int) + 1))).alloc (.cells #[.int .i64 (af : Int), .slice kp0 kl0 kc0] 75))) (fun i h => .inl h)
    have g5 : Gr (Foot b L σ) w W5 := (show Gr (Foot b L σ) w (((w.setCell ⟨b, 4, none⟩ (.int .i64 ((σ.ops : Int) + 1))).setCell ⟨b, 6, none⟩ (.int .i64 ((σ.cnt : Int) + 1))).alloc (.cells #[.int .i64 (af : Int), .slice kp0 kl0 kc0] 75)).drew from gX).trans hg5 (fun i hi => .inl (by rw [hi]; exact .inr (.inr (.inr (.inr (.inr (.inl (by rw [hav]; rfl))))))))
    have g6 : Gr (Foot b L σ) w ((W5.setCell ⟨b, 5, none⟩ (.slice (some ⟨g, 0, none⟩) 0 cap)).setCell ⟨b, 6, none⟩ (.int .i64 0)) := (g5.trans (Gr.set _ b 5 _ (X := Foot b L σ) (.inl rfl)) (fun i h => .inl h)).trans (Gr.set _ b 6 _ (X := Foot b L σ) (.inl rfl)) (fun i h => .inl h)
    have hfo : ∀ k, Foot b { L with av := .slice (some ⟨g, 0, none⟩) 0 cap } { σ with ops := σ.ops + 1, arms := [], cnt := 0 } k → Foot b L σ k := fun k hk => by
      rcases hk with r | r | r | r | r | r | r
      · exact .inl r
      · exact .inr (.inl r)
      · exact .inr (.inr (.inl r))
      · exact .inr (.inr (.inr (.inl r)))
      · exact .inr (.inr (.inr (.inr (.inl r))))
      · exact .inr (.inr (.inr (.inr (.inr (.inl (by rw [hav]; exact r))))))
      · exact .inr (.inr (.inr (.inr (.inr (.inr r)))))
    obtain ⟨p', c', e', _⟩ := id hke
    cases e'
    have hsn : SlN ((W5.setCell ⟨b, 5, none⟩ (.slice (some ⟨g, 0, none⟩) 0 cap)).setCell ⟨b, 6, none⟩ (.int .i64 0)) kp0 kp := slN_of hke h.kbt (fun k hk => by obtain ⟨c2, hc2⟩ := h.kbt k hk; exact q5 k (ne_ty hc2 h.dev (by decide)) (ne_ty hc2 hgc (by decide)) (lt_of_heap hc2)) hkb
    refine ⟨froz8 q1 5, ⟨_, cell8 q1 5⟩, froz8 q2 6, ⟨_, cell8 q2 6⟩, cell8 q4 1, (plose_kb kc0 hd6 hok5 hsn (by omega)).mono ?_⟩
    rintro e w' ⟨rfl, L', σ', l1, l2, l3, l4, l5⟩
    exact ⟨rfl, L', σ', l1, l2, fun k hk => (l3 k hk).imp (hfo k) (fun h5 => Nat.le_trans g6.size h5), g6.trans l4 (fun i hi => .inl (hi.elim (fun e => .inl e) (fun e => .inr (.inl e)))), l5⟩
  have KF := hide kf
  have KD := hide kd
  have opI : (σ.ops : Int) < 1400000000000 := by omega
  have cnI : ¬ (σ.cnt : Int) + 1 < (af : Int) := by omega
  have ncI : (σ.cnt : Int) < 1400000000000 := by omega
  have i5d : (((w.setCell ⟨b, 4, none⟩ (.int .i64 ((σ.ops : Int) + 1))).setCell ⟨b, 6, none⟩ (.int .i64 ((σ.cnt : Int) + 1))).alloc (.cells #[.int .i64 (af : Int), .slice kp0 kl0 kc0] 75)).drew.cell? ⟨b, 5, none⟩ = some (.slice (some ⟨g, 0, none⟩) 1 cap) := by rw [cell8 (w := (((w.setCell ⟨b, 4, none⟩ (.int .i64 ((σ.ops : Int) + 1))).setCell ⟨b, 6, none⟩ (.int .i64 ((σ.cnt : Int) + 1))).alloc (.cells #[.int .i64 (af : Int), .slice kp0 kl0 kc0] 75)).drew) hbX, ← hav]; rfl
  clear h harm hke hgc hc0 hc1 hbX hgX hfX sx hAX hsz hb1 hb2 hg2 hops hc hcn hav hgb f5 hn1 hal hok hok5 hkb hkl kf kd hcs
  generalize hno : σ.ops = no at *
  generalize hnc : σ.cnt = nc at *
  clear hnc
  go_enter Try.func41, Try.ntmps41
  go_wp2_with (fail)
  refine wp_region_held_drew (S := fun Y => Y.cell? ⟨b, 6, none⟩ = some (.int .i64 ((nc : Int) + 1)) ∧ Y.cell? ⟨w.heap.size, 0, none⟩ = some (.int .i64 (af : Int))) (by kernel_rfl) SX.out (fun hS => ?_)
  refine wpAnyH_take (i := 0) (v := (.pointer (some ⟨b, 0, none⟩))) rfl (by kernel_rfl) (by kernel_rfl) (by kernel_rfl) (fun _ _ _ h => h) (Or.inl ⟨by kernel_rfl, fun w' hw => by (go_simp)⟩) hS ?_
  refine wpAnyH_take (i := 1) (v := (.pointer (some ⟨b, 0, none⟩))) rfl (by kernel_rfl) (by kernel_rfl) (by kernel_rfl) (fun _ _ _ h => h) (Or.inl ⟨by kernel_rfl, fun w' hw => by (go_simp)⟩) hS ?_
  refine wpAnyH_take (i := 2) (v := (.pointer (some ⟨b, 6, none⟩))) rfl (by kernel_rfl) (by kernel_rfl) (by kernel_rfl) (fun _ _ _ h => h) (Or.inl ⟨by kernel_rfl, fun w' hw => by (go_simp)⟩) hS ?_
  refine wpAnyH_take (i := 3) (v := (.int .i64 ((nc : Int) + 1))) rfl (by kernel_rfl) (by kernel_rfl) (by kernel_rfl) (fun _ _ _ h => h) (Or.inl ⟨by kernel_rfl, fun w' hw => by (obtain ⟨z0, z1⟩ := hw; go_simp)⟩) hS ?_
  refine wpAnyH_take (i := 4) (v := (.pointer (some ⟨w.heap.size, 0, none⟩))) rfl (by kernel_rfl) (by kernel_rfl) (by kernel_rfl) (fun _ _ _ h => h) (Or.inl ⟨by kernel_rfl, fun w' hw => by (go_simp)⟩) hS ?_
  refine wpAnyH_take (i := 5) (v := (.int .i64 (af : Int))) rfl (by kernel_rfl) (by kernel_rfl) (by kernel_rfl) (fun _ _ _ h => h) (Or.inl ⟨by kernel_rfl, fun w' hw => by (obtain ⟨z0, z1⟩ := hw; go_simp)⟩) hS ?_
  refine wpAnyH_take (i := 6) (v := (.bool false)) rfl (by kernel_rfl) (by kernel_rfl) (by kernel_rfl) (fun _ _ _ h => h) (Or.inl ⟨by kernel_rfl, fun w' hw => by (go_simp)⟩) hS ?_
  refine wpAnyH_done (by kernel_rfl) ?_ _
  simp only [Act.put, List.getElem_toArray, List.getElem_cons_zero, List.getElem_cons_succ, List.setIfInBounds_toArray, List.set_cons_zero, List.set_cons_succ]
  go_wp2_with (first
    | (go_at_call 51; refine (KD.out).mono ?_; rintro e W5 ⟨rfl, hg5, hc5⟩; obtain ⟨x1, ⟨u1, x2⟩, x3, ⟨u2, x4⟩, x5, kl⟩ := KF.out W5 hg5 hc5; have KL := hide kl; clear hg5 hc5 kl)
    | (go_at_call 44; refine (KL.out).mono ?_; rintro e W7 ⟨rfl, hr⟩; have HR := hide hr; clear hr))
  go_ret
  exact ⟨rfl, HR.out⟩
end
end Go.Proofs.Ytmgeokmgidnneaa
namespace Go.Proofs.Ytmgeokmgidnneaa
open Go.RowKit Go.Shelf
set_option linter.unusedVariables false

/-- What one operation more leaves, and what is answered. -/
def Opd (σ : St) (c : Int) (σ' : St) : Prop :=
  (σ.arms = [] ∧ c = 0 ∧ σ' = { σ with ops := σ.ops + 1 }) ∨
  (∃ af kp, σ.arms = [(af, kp)] ∧ ((σ.cnt + 1 < af ∧ c = 0 ∧ σ' = { σ with ops := σ.ops + 1, cnt := σ.cnt + 1 }) ∨ (af ≤ σ.cnt + 1 ∧ c = 5 ∧ Lost { σ with ops := σ.ops + 1, arms := [], cnt := 0 } kp σ')))
/-- At most one loss of power waits. -/
structure Few (σ : St) : Prop where
  one : σ.arms = [] ∨ ∃ af kp, σ.arms = [(af, kp)] ∧ (∀ x ∈ kp, x < 9223372036854775808) ∧ kp.length ≤ 1400000000000
  cnt : σ.cnt < 1400000000000
theorem Opd.code {σ σ' : St} {c : Int} (h : Opd σ c σ') : c = 0 ∨ c = 5 := by
  rcases h with ⟨_, h, _⟩ | ⟨_, _, _, ⟨_, h, _⟩ | ⟨_, h, _⟩⟩
  · exact .inl h
  · exact .inl h
  · exact .inr h
/-- One operation more, behind which the power stays. -/
def tick (σ : St) : St := { σ with ops := σ.ops + 1, cnt := if σ.arms = [] then σ.cnt else σ.cnt + 1 }
/-- The next operation is the last one ahead of the loss. -/
def fires (σ : St) : Prop := ∃ af kp, σ.arms = [(af, kp)] ∧ af ≤ σ.cnt + 1
theorem Opd.no {σ σ' : St} {c : Int} (h : Opd σ c σ') (hf : ¬ fires σ) : c = 0 ∧ σ' = tick σ := by
  rcases h with ⟨h1, h2, h3⟩ | ⟨af, kp, h1, ⟨h0, h2, h3⟩ | ⟨h0, h2, h3⟩⟩
  · exact ⟨h2, by rw [h3]; unfold tick; rw [if_pos h1]⟩
  · exact ⟨h2, by rw [h3]; unfold tick; rw [if_neg (by rw [h1]; simp)]⟩
  · exact absurd ⟨af, kp, h1, h0⟩ hf
theorem Opd.yes {σ σ' : St} {c : Int} (h : Opd σ c σ') (hf : fires σ) : c = 5 := by
  obtain ⟨af', kp', e1, e2⟩ := hf
  rcases h with ⟨h1, h2, h3⟩ | ⟨af, kp, h1, ⟨h0, h2, h3⟩ | ⟨h0, h2, h3⟩⟩
  · rw [h1] at e1; cases e1
  · rw [h1] at e1; cases e1; omega
  · exact h2
theorem tick_ok {σ : St} (h : ({ σ with ops := σ.ops + 1 } : St).Ok) : (tick σ).Ok := ⟨h.pos, h.max, h.len, h.byte, h.out, h.clen, h.cbyte, h.few, h.flp, h.opsm⟩
theorem ok_more {σ : St} (h : σ.Ok) (hops : σ.ops < 1400000000000) : ({ σ with ops := σ.ops + 1 } : St).Ok := ⟨h.pos, h.max, h.len, h.byte, h.out, h.clen, h.cbyte, fun i => Nat.le_trans (h.few i) (Nat.le_succ _), h.flp, by show σ.ops + 1 ≤ _; omega⟩
section
variable {w : World} {b : Nat} {L : Lay} {σ : St}
theorem poper_gen (h : DevL w b L σ) (hok : ({ σ with ops := σ.ops + 1 } : St).Ok) (hf : Few σ) (hops : σ.ops < 1400000000000) :
    Calls Try.prog 41 #[.pointer (some ⟨b, 0, none⟩)] w fun e w' => ∃ c σ' L', e = .returned (.int .i64 c) ∧ Opd σ c σ' ∧ DevL w' b L' σ' ∧ (∀ k, Foot b L' σ' k → Foot b L σ k ∨ w.heap.size ≤ k) ∧ Gr (Foot b L σ) w w' ∧ L'.N ≤ L.N ∧ L'.KB = L.KB ∧ (c = 0 → L' = L) := by
  rcases hf.one with ha | ⟨af, kp, ha, hk, hl⟩
  · refine (poper_any h hops ha).mono ?_
    rintro e w' ⟨rfl, hw, hd⟩
    exact ⟨0, _, L, rfl, .inl ⟨ha, rfl, rfl⟩, hd, fun k hk => .inl hk, by rw [hw]; exact Gr.set w b 4 _ (.inl rfl), Nat.le_refl _, rfl, fun _ => rfl⟩
  · by_cases hc : σ.cnt + 1 < af
    · refine (poper_wait h hops ha hc hf.cnt).mono ?_
      rintro e w' ⟨rfl, hd, hg⟩
      exact ⟨0, _, L, rfl, .inr ⟨af, kp, ha, .inl ⟨hc, rfl, rfl⟩⟩, hd, fun k hk => .inl hk, hg.mono (fun k h => .inl h), Nat.le_refl _, rfl, fun _ => rfl⟩
    · refine (poper_fire h hok hops ha (by omega) hf.cnt hk hl).mono ?_
      rintro e w' ⟨rfl, L', σ', h1, h2, h3, h4, h5, h6⟩
      exact ⟨5, σ', L', rfl, .inr ⟨af, kp, ha, .inr ⟨by omega, rfl, h1⟩⟩, h2, h3, h4, h5, h6, fun h => by cases h⟩
theorem poper_no (h : DevL w b L σ) (hok : ({ σ with ops := σ.ops + 1 } : St).Ok) (hf : Few σ) (hops : σ.ops < 1400000000000) (hn : ¬ fires σ) :
    Calls Try.prog 41 #[.pointer (some ⟨b, 0, none⟩)] w fun e w' => e = .returned (.int .i64 0) ∧ DevL w' b L (tick σ) ∧ Gr (Foot b L σ) w w' := by
  refine (poper_gen h hok hf hops).mono ?_
  rintro e w' ⟨c, σ', L', rfl, h1, h2, h3, h4, h5, h6, h7⟩
  obtain ⟨rfl, rfl⟩ := h1.no hn
  obtain rfl := h7 rfl
  exact ⟨rfl, h2, h4⟩
theorem poper_yes (h : DevL w b L σ) (hok : ({ σ with ops := σ.ops + 1 } : St).Ok) (hf : Few σ) (hops : σ.ops < 1400000000000) (hn : fires σ) :
    Calls Try.prog 41 #[.pointer (some ⟨b, 0, none⟩)] w fun e w' => e = .returned (.int .i64 5) ∧ ∃ σ' L', Opd σ 5 σ' ∧ DevL w' b L' σ' ∧ (∀ k, Foot b L' σ' k → Foot b L σ k ∨ w.heap.size ≤ k) ∧ Gr (Foot b L σ) w w' ∧ L'.N ≤ L.N ∧ L'.KB = L.KB := by
  refine (poper_gen h hok hf hops).mono ?_
  rintro e w' ⟨c, σ', L', rfl, h1, h2, h3, h4, h5, h6, h7⟩
  obtain rfl := h1.yes hn
  exact ⟨rfl, σ', L', h1, h2, h3, h4, h5, h6⟩
end
end Go.Proofs.Ytmgeokmgidnneaa
namespace Go.Proofs.Ytmgeokmgidnneaa
open Go.RowKit Go.Shelf
set_option linter.unusedVariables false

section
variable {w : World} {b : Nat} {L : Lay} {σ : St}
theorem infoArm2 : ∃ i, Try.prog.info? 75 = some i ∧ i.zero = some (.agg #[.int .i64 0, .slice none 0 0]) ∧ i.size = 2 ∧ i.bytes = 32 := by
  have h : (Try.prog.info? 75).map (fun i => (i.zero, i.size, i.bytes)) = some (some (.agg #[.int .i64 0, .slice none 0 0]), 2, 32) := by kernel_rfl
  obtain ⟨i, h1, h2⟩ := Option.map_eq_some_iff.1 h
  simp only [Prod.mk.injEq] at h2
  exact ⟨i, h1, h2.1, h2.2.1, h2.2.2⟩
theorem infoInt2 : ∃ i, Try.prog.info? 3 = some i ∧ i.zero = some (.int .i64 0) ∧ i.size = 1 ∧ i.bytes = 8 := by
  have h : (Try.prog.info? 3).map (fun i => (i.zero, i.size, i.bytes)) = some (some (.int .i64 0), 1, 8) := by kernel_rfl
  obtain ⟨i, h1, h2⟩ := Option.map_eq_some_iff.1 h
  simp only [Prod.mk.injEq] at h2
  exact ⟨i, h1, h2.1, h2.2.1, h2.2.2⟩
theorem cut_ints (g m cap : Nat) (hm : m ≤ cap) (w : World) : (Instr.sliceAt 32 (.slice (some ⟨g, 0, none⟩) m cap) none (some (.int .i64 (m : Int))) none).run Try.prog w = .ok (.slice (some ⟨g, 0, none⟩) m cap) w := by
  obtain ⟨i, h1, _⟩ := infoInt2
  simp [Instr.sliceAt, Instr.slice, Sem.run_bind, run_underlying Try.underlying32, Instr.sliceBounds, Instr.sliceBound, asIntOf, sizeOf, typeInfo, h1, Addr.add_mid, hm]
theorem slice_arm (X : List Value) (w : World) (hx : X.length = 2) : (Instr.buildSlice 57 1 #[(0, .agg X.toArray)]).run Try.prog w = .ok (.slice (some ⟨w.heap.size, 0, none⟩) 1 1) (w.alloc (.cells X.toArray 75)) := by
  obtain ⟨it, hi, hz, h2, _⟩ := infoArm2
  refine run_buildSlice w _ 75 1 _ X.toArray it (.agg #[.int .i64 0, .slice none 0 0]) armSlice hi hz (by rw [h2]; decide) (by rw [h2]; decide) ?_
  rw [h2]
  have := Great.fill_whole (s := 2) (by decide) [.agg X.toArray] ((Array.range (1 * 2)).map ((Value.agg #[.int .i64 0, .slice none 0 0]).cells[· % (Value.agg #[.int .i64 0, .slice none 0 0]).cells.size]!)) (by simp [Value.cells, hx]) (by simp)
  simpa [Value.cells] using this
theorem wp_slice_arm {o : Oper} {a : Act} {w : World} {K : Act → World → Prop} {Q : Exit → Act → World → Prop} (x : Operand) (ho : o.op = .buildSlice 57 1 #[(0, x)]) (X : List Value) (hx : a.eval x = .agg X.toArray) (hl : X.length = 2)
    (h : K (a.put o.dst (.slice (some ⟨w.heap.size, 0, none⟩) 1 1)) (w.alloc (.cells X.toArray 75))) : o.wp Try.prog a w K Q := by
  have hr := slice_arm X w hl
  unfold Oper.wp execOp
  simp only [ho, Sem.run_bind, List.map_toArray, List.map_cons, List.map_nil, hx, hr, Result.andThen_ok]
  exact h
/-- A loss waits. -/
theorem DevL.armed {w' : World} {v8 kv : Value} {gk af : Nat} {kp : List Nat} (h : DevL w b L σ) (hb : w'.heap[b]? = some (.cells (devC b { L with av := v8 } { σ with arms := [(af, kp)] }) 64 (0, 0))) (hrow : w'.ownsRow 0 75 2 v8 1 [.int .i64 (af : Int), kv])
    (hkeep : KeepAt w' (fun k => k = gk) kv kp) (hgk : ∃ c, w'.heap[gk]? = some (.cells c 3 (0, 0))) (hk : ∀ k, k < w.heap.size → k ≠ b → L.av.ownBlock ≠ some k → w'.heap[k]? = w.heap[k]?) :
    DevL w' b { L with av := v8, KB := fun k => k = gk } { σ with arms := [(af, kp)] } := by
  have hs : ∀ (k : Nat) (c : Array Value) t fr, w.heap[k]? = some (Obj.cells c t fr) → t ≠ 64 → t ≠ 75 → w'.heap[k]? = w.heap[k]? := fun k c t fr h1 h2 h3 => hk k (lt_of_heap h1) (ne_ty h1 h.dev h2) (fun e => by obtain ⟨c', hc'⟩ := h.av_row e; exact ne_ty h1 hc' h3 rfl)
  have hm : ∀ (k : Nat) es q, w.heap[k]? = some (Obj.map es q) → w'.heap[k]? = w.heap[k]? := fun k es q h1 => hk k (lt_of_heap h1) (ne_map h.dev h1).symm (fun e => by obtain ⟨c', hc'⟩ := h.av_row e; exact ne_map hc' h1 rfl)
  obtain ⟨e1, k1, hob⟩ := h.old.block
  obtain ⟨e2, k2, hfb⟩ := h.flm.block
  refine ⟨hb, (hs _ _ _ _ h.seen (by decide) (by decide)).trans h.seen, h.old.of_block (hm _ _ _ hob), h.flm.of_block (hm _ _ _ hfb),
    fun i hi => (h.pasts i hi).keep (hs _ _ _ _ (h.pasts i hi).1 (by decide) (by decide)) (fun g' hg' => ?_), h.pne, h.rne, h.mne, ⟨[kv], rfl, hrow, fun i k a h1 h2 => ?_⟩, fun k hkb => ?_⟩
  · obtain ⟨c, hc⟩ := (h.pasts i hi).row hg'
    exact hs _ _ _ _ hc (by decide) (by decide)
  · cases i with
    | zero => cases h1; cases h2; exact hkeep
    | succ i => simp at h1
  · subst hkb; exact hgk
end
end Go.Proofs.Ytmgeokmgidnneaa
namespace Go.Proofs.Ytmgeokmgidnneaa
open Go.RowKit Go.Shelf
set_option linter.unusedVariables false

theorem infoU : ∃ i, Try.prog.info? 47 = some i ∧ i.zero = some (.int .u64 0) ∧ i.size = 1 ∧ i.bytes = 8 := by
  have h : (Try.prog.info? 47).map (fun i => (i.zero, i.size, i.bytes)) = some (some (.int .u64 0), 1, 8) := by kernel_rfl
  obtain ⟨i, h1, h2⟩ := Option.map_eq_some_iff.1 h
  simp only [Prod.mk.injEq] at h2
  exact ⟨i, h1, h2.1, h2.2.1, h2.2.2⟩
theorem cell_oneP (W : World) (x : Value) (t : TypeId) : ∀ (j : Nat) u, [x][j]? = some u → (W.alloc (.cells #[x] t)).drew.cell? ((⟨W.heap.size, 0, none⟩ : Addr).add j) = some u := fun j u hu => by
  have h := heap_alloc_new W (.cells #[x] t)
  match j, hu with
  | 0, hu =>
    cases hu
    have e : (⟨W.heap.size, 0, none⟩ : Addr).add 0 = ⟨W.heap.size, 0, none⟩ := by simp [Addr.add]
    rw [e]
    exact (cell8 h 0)
  | n + 1, hu => simp at hu
theorem wpAnyH_goS {P : Program} {ops : Array Oper} {Q : Exit → Act → World → Prop} {md : Region.Mode} {S : World → Prop} {i : Nat} {o : Oper} {fuel : Nat} {listed : Array Bool} {a : Act} {w : World} (hr : Region.ready md ops listed = [i]) (ho : ops[i]? = some o) (hw : Region.wanted o (yielded ops a.tmps) = true)
    (h : ∀ K' : Act → World → Prop, Shut (∀ a w, S w → wpAnyH P md ops Q S fuel (listed.setIfInBounds i true) a w → K' a w) → Oper.wp P o a w K' Q) : wpAnyH P md ops Q S (fuel + 1) listed a w := by
  refine wpAnyH_ready (rs := [i]) hr (by simp) (AllReadyH.cons ho (fun K hK => ?_) AllReadyH.nil)
  rw [if_pos hw]
  exact h K (fun a w hs hq => hK a w hs (fun _ => hq))
section
variable {W W' : World} {p b : Nat} {K : Kl} {B : Bk}
theorem PlL.heldAt (h : PlL W p b K B) {w : Nat} {l : List Nat} (hl : B.held[w]? = some l) : ∃ hg hc v0, K.hv = .slice (some ⟨hg, 0, none⟩) B.held.length hc ∧ K.hs[w]? = some v0 ∧ W.cell? ⟨hg, w, none⟩ = some v0 ∧ W.frozen? ⟨hg, w, none⟩ = false ∧ W.ownsRow 0 47 1 v0 l.length (l.map U64) ∧ FootR (rowsOf K B) hg ∧ (∀ g, v0.ownBlock = some g → FootR (rowsOf K B) g ∧ g ≠ hg) := by
  have hlt : w < B.held.length := (List.getElem?_eq_some_iff.1 hl).1
  obtain ⟨v0, hv0⟩ : ∃ v, K.hs[w]? = some v := ⟨_, List.getElem?_eq_getElem (by rw [h.hl]; exact hlt)⟩
  obtain ⟨hg, hc, e, c, f, ff⟩ := h.own.cellAt (k := .held) rfl (j := w) (x := v0) hv0
  have hin : rowsOf K B (.inner w) = some ⟨47, v0, l.map U64⟩ := by
    show innerOf K B w = _
    unfold innerOf
    rw [hv0, hl]
  have hr := h.own.row _ _ hin
  refine ⟨hg, hc, v0, ?_, hv0, c, f w, by simpa using hr, ff, fun g hg2 => ⟨⟨_, _, hin, hg2⟩, fun e2 => ?_⟩⟩
  · rw [← h.hl]; exact e
  · subst e2
    exact h.own.ne (.inner w) .held _ _ g (by simp) hin rfl hg2 (by show K.hv.ownBlock = some g; rw [show K.hv = _ from e]; rfl)
theorem PlL.app_held {W4 : World} {w N hg hc x : Nat} {l : List Nat} {v0 v1 : Value} (h : PlL W p b K B) (hl : B.held[w]? = some l) (hv0 : K.hs[w]? = some v0) (hhv : K.hv = .slice (some ⟨hg, 0, none⟩) N hc) (hN : B.held.length = N) (hgr : W.grownBy W4 v0.ownBlock) (ho : W4.ownsRow 0 47 1 v1 (l.length + 1) (l.map U64 ++ [U64 x])) (hat : v1.ownBlock = v0.ownBlock ∨ v1.ownBlock = some W.heap.size) :
    PlL (W4.setCell ⟨hg, w, none⟩ v1) p b { K with hs := K.hs.set w v1 } { B with held := B.held.set w (l ++ [x]) } ∧ Gr (FootR (rowsOf K B)) W (W4.setCell ⟨hg, w, none⟩ v1) ∧ (∀ k, FootP p { K with hs := K.hs.set w v1 } { B with held := B.held.set w (l ++ [x]) } k → FootP p K B k ∨ W.heap.size ≤ k) := by
  have hlt : w < B.held.length := (List.getElem?_eq_some_iff.1 hl).1
  have hlt2 : w < K.hs.length := by rw [h.hl]; exact hlt
  have hin : rowsOf K B (.inner w) = some ⟨47, v0, l.map U64⟩ := by
    show innerOf K B w = _
    unfold innerOf
    rw [hv0, hl]
  have o1 := h.own.grow hin hgr (v := v1) (ys := (l ++ [x]).map U64) (by rw [List.length_map, List.length_append, List.map_append]; exact ho) hat
  have hk1 : upd (rowsOf K B) (.inner w) ⟨47, v1, (l ++ [x]).map U64⟩ .held = some ⟨29, K.hv, K.hs⟩ := rfl
  have o2 := o1.set (j := w) (u := v1) hk1 hhv (by rw [h.hl]; exact hN)
  have hfh : FootR (rowsOf K B) hg := ⟨.held, _, rfl, by show K.hv.ownBlock = _; rw [hhv]; rfl⟩
  have hpb : W4.heap[p]? = W.heap[p]? := hgr.block p (lt_of_heap h.blk) (fun e => h.ne ⟨_, _, hin, e.symm⟩ rfl)
  have hrow : ∀ q, rowsOf { K with hs := K.hs.set w v1 } { B with held := B.held.set w (l ++ [x]) } q = upd (upd (rowsOf K B) (.inner w) ⟨47, v1, (l ++ [x]).map U64⟩) .held ⟨29, K.hv, K.hs.set w v1⟩ q := fun q => by
    cases q with
    | seen => rfl
    | held => rfl
    | last => rfl
    | sure => rfl
    | marks => rfl
    | inner i =>
      show innerOf { K with hs := K.hs.set w v1 } { B with held := B.held.set w (l ++ [x]) } i = if Key.inner i = Key.held then _ else (if Key.inner i = Key.inner w then _ else innerOf K B i)
      rw [if_neg (by simp)]
      by_cases e : i = w
      · subst e
        rw [if_pos rfl]
        unfold innerOf
        rw [List.getElem?_set_self hlt2, List.getElem?_set_self hlt]
      · rw [if_neg (by simpa using e)]
        unfold innerOf
        rw [List.getElem?_set_ne (Ne.symm e), List.getElem?_set_ne (Ne.symm e)]
  refine ⟨⟨(heap_set_ne W4 hg w p v1 (fun e => h.ne hfh e.symm)).trans (hpb.trans h.blk), o2.congr hrow, by show (K.hs.set w v1).length = (B.held.set w _).length; rw [List.length_set, List.length_set]; exact h.hl⟩, ?_, fun k hk => ?_⟩
  · exact (Gr.of_grown (X := FootR (rowsOf K B)) hgr (fun k hk => .inl ⟨_, _, hin, hk⟩)).trans (Gr.set W4 hg w v1 (X := FootR (rowsOf K B)) hfh) (fun i h => .inl h)
  · rcases hk with hk | hk
    · exact .inl (.inl hk)
    · have e : rowsOf { K with hs := K.hs.set w v1 } { B with held := B.held.set w (l ++ [x]) } = _ := funext hrow
      rw [e] at hk
      rcases FootR.upd_sub (r := ⟨29, K.hv, K.hs.set w v1⟩) (N := W.heap.size) hk1 (.inl rfl) hk with h1 | h1
      · rcases FootR.upd_sub (r := ⟨47, v1, (l ++ [x]).map U64⟩) (N := W.heap.size) hin (hat.imp id (fun h q hq => by rw [h] at hq; cases hq; exact Nat.le_refl _)) h1 with h2 | h2
        · exact .inl (.inr h2)
        · exact .inr h2
      · exact .inr h1
end
set_option maxRecDepth 100000 in
set_option maxHeartbeats 2000000 in
theorem play_store2 (p b N m w : Nat) (a n : Int) (v : Nat) (da : Option Addr) (dl dc : Nat) (ka : Option Addr) (kl kc : Nat) (aa : Option Addr) (al ac : Nat) (W : World) (K : Kl) (B : Bk) (Post : Int → Kl → World → Prop) (kw : ∀ X, Calls Try.prog 6 #[.int .i64 a, .int .i64 (N : Int)] X fun e w' => e = .returned (.int .i64 (w : Int)) ∧ w' = X) (hwN : w < N) (hNm : N = 8 * m) (hm4 : m ≤ 4) (h : PlL W p b K B) (hs : B.seen.length = N) (hh : B.held.length = N) (hl : B.last.length = N) (hu : B.sure.length = N) (hm : B.marks.length = m) (hcap : ∀ l ∈ B.held, l.length ≤ 1399000000000)
    (ks : ∀ X K', PlL X p b K' (bstore B w v) → Gr (FootR (rowsOf K B)) (W.alloc (.cells #[.int .i64 2, .int .i64 a, .int .i64 n, .int .u64 (v : Int), .slice da dl dc, .slice ka kl kc, .slice aa al ac] 59)) X → (∀ k, FootP p K' (bstore B w v) k → FootP p K B k ∨ W.heap.size ≤ k) → Calls Try.prog 14 #[.pointer (some ⟨b, 0, none⟩), .int .i64 (8 * (w : Int)), .int .u64 (v : Int)] X fun e X' => ∃ c, e = .returned (.int .i64 c) ∧ Post c K' X' ∧ X'.cell? ⟨p, 0, none⟩ = X.cell? ⟨p, 0, none⟩ ∧ X'.cell? ⟨W.heap.size, 3, none⟩ = X.cell? ⟨W.heap.size, 3, none⟩) :
    Calls Try.prog 23 #[.pointer (some ⟨p, 0, none⟩), .agg #[.int .i64 2, .int .i64 a, .int .i64 n, .int .u64 (v : Int), .slice da dl dc, .slice ka kl kc, .slice aa al ac]] W fun e W' => ∃ c K', e = .returned (.bool (decide (c = 0))) ∧ Post c K' W' := by
  obtain ⟨i0, hi0, hz0, hz1, hz2⟩ := infoU
  obtain ⟨sg, sc, lg, lc, ug, uc, mg, mc, hlies⟩ := h.lies hs hl hu hm (by omega) (by omega)
  have hB1 : Below W.heap.size W (W.alloc (.cells #[.int .i64 2, .int .i64 a, .int .i64 n, .int .u64 (v : Int), .slice da dl dc, .slice ka kl kc, .slice aa al ac] 59)) := (Below.refl _ _).alloc (Nat.le_refl _) _
  have h1 := h.below hB1
  have hbx := heap_alloc_new W (.cells #[.int .i64 2, .int .i64 a, .int .i64 n, .int .u64 (v : Int), .slice da dl dc, .slice ka kl kc, .slice aa al ac] 59)
  have hsz : (W.alloc (.cells #[.int .i64 2, .int .i64 a, .int .i64 n, .int .u64 (v : Int), .slice da dl dc, .slice ka kl kc, .slice aa al ac] 59)).heap.size = W.heap.size + 1 := by simp
  have d0 := cell8 hbx 0
  have d1 := cell8 hbx 1
  have d3 := cell8 hbx 3
  simp only [List.getElem?_toArray, List.getElem?_cons_zero, List.getElem?_cons_succ] at d0 d1 d3
  obtain ⟨c0, c1, c3, c4, c5⟩ := hlies.cells h1
  have hsne : ∀ k, FootP p K B k → k ≠ W.heap.size := fun k hk e => by have := h.lt hk; omega
  obtain ⟨x0, hx0⟩ : ∃ x, B.seen[w]? = some x := ⟨_, List.getElem?_eq_getElem (by rw [hs]; exact hwN)⟩
  obtain ⟨csw, fsw⟩ := h1.seenC hlies.s hx0
  obtain ⟨l, hld⟩ : ∃ l, B.held[w]? = some l := ⟨_, List.getElem?_eq_getElem (by rw [hh]; exact hwN)⟩
  obtain ⟨x3, hx3⟩ : ∃ x, B.sure[w]? = some x := ⟨_, List.getElem?_eq_getElem (by rw [hu]; exact hwN)⟩
  obtain ⟨mk, hmk⟩ : ∃ x, B.marks[w / 8]? = some x := ⟨_, List.getElem?_eq_getElem (by rw [hm]; omega)⟩
  have h2 := h1.set_seen (j := w) (x := v) hlies.s hs
  have hg2 : Gr (FootR (rowsOf K B)) (W.alloc (.cells #[.int .i64 2, .int .i64 a, .int .i64 n, .int .u64 (v : Int), .slice da dl dc, .slice ka kl kc, .slice aa al ac] 59)) ((W.alloc (.cells #[.int .i64 2, .int .i64 a, .int .i64 n, .int .u64 (v : Int), .slice da dl dc, .slice ka kl kc, .slice aa al ac] 59)).setCell ⟨sg, w, none⟩ (U64 v)) := Gr.set _ sg w _ (X := FootR (rowsOf K B)) hlies.xs
  have hll := hcap l (List.mem_of_getElem? hld)
  have KW := hide kw
  have KS := hide ks
  have HLI := hide hlies
  have H2 := hide h2.drew
  have HG2 := hide hg2.drewR
  have HLD := hide hld
  have HX3 := hide hx3
  have HMK := hide hmk
  have HH := hide hh
  have HU := hide hu
  have HM := hide hm
  have HSN := hide hsne
  have HBX := hide hbx
  have HSZ := hide hsz
  have HPE := hide (fun k (hk : FootP p K B k) => h.lt hk)
  have IX1 := hide (fun X => by have h := index_u64 sg 0 w N sc hwN X; rwa [Nat.zero_add] at h : ∀ X : World, (Instr.indexAt 29 (.slice (some ⟨sg, 0, none⟩) N sc) (.int .i64 (w : Int))).run Try.prog X = .ok (.pointer (some ⟨sg, w, none⟩)) X)
  have wr8 : IntKind.i64.wrap (8 * (w : Int)) = 8 * (w : Int) := by rw [IntKind.wrap_i64]; omega
  have WR8 := hide wr8
  have htd := tdiv8 w
  have wI : (w : Int) < (N : Int) := by omega
  have NI : (N : Int) ≤ 32 := by omega
  have lI : ((w / 8 : Nat) : Int) ≤ 4 := by omega
  have hlm : w / 8 < m := by omega
  have HLM := hide hlm
  unfold U64 at H2 HG2
  clear kw ks h h1 h2 hg2 hlies hB1 hbx hs hl hu hm c0 c3 c4 c5 hNm hsz hsne hx0 hld hx3 hmk hcap hh wr8 hlm
  generalize hl8 : w / 8 = l8 at *
  have HL8 := hide hl8
  clear hl8
  go_enter Try.func23, Try.ntmps23
  go_upto_region 1 with (fail)
  generalize hs1 : W.heap.size = s at *
  clear hs1
  generalize hW1 : (W.alloc (.cells #[.int .i64 2, .int .i64 a, .int .i64 n, .int .u64 (v : Int), .slice da dl dc, .slice ka kl kc, .slice aa al ac] 59)) = W1 at *
  clear hW1
  have s7 : W1.drew.cell? ⟨p, 1, none⟩ = some (.slice (some ⟨sg, 0, none⟩) N sc) ∧ W1.drew.cell? ⟨s, 3, none⟩ = some (.int .u64 (v : Int)) := ⟨c1, d3⟩
  have S7 := hide s7
  clear s7
  go_wp2_with (first
    | (go_at_call 6; refine (KW.out _).mono ?_; rintro e w' ⟨rfl, hw⟩; obtain rfl := hw.symm))
  refine wp_region_early 8 (fun Y => Y.cell? ⟨p, 1, none⟩ = some (.slice (some ⟨sg, 0, none⟩) N sc) ∧ Y.cell? ⟨s, 3, none⟩ = some (.int .u64 (v : Int))) (by kernel_rfl) S7.out (fun hS => ?_)
  refine wpAnyE_take (i := 0) (v := (.pointer (some ⟨p, 0, none⟩))) rfl (by kernel_rfl) (by kernel_rfl) (by kernel_rfl) (by kernel_rfl) (fun _ _ _ h => h) (Or.inl ⟨by kernel_rfl, fun w' hw => by (go_simp)⟩) hS ?_
  refine wpAnyE_take (i := 1) (v := (.pointer (some ⟨p, 0, none⟩))) rfl (by kernel_rfl) (by kernel_rfl) (by kernel_rfl) (by kernel_rfl) (fun _ _ _ h => h) (Or.inl ⟨by kernel_rfl, fun w' hw => by (go_simp)⟩) hS ?_
  refine wpAnyE_take (i := 2) (v := (.pointer (some ⟨p, 1, none⟩))) rfl (by kernel_rfl) (by kernel_rfl) (by kernel_rfl) (by kernel_rfl) (fun _ _ _ h => h) (Or.inl ⟨by kernel_rfl, fun w' hw => by (go_simp)⟩) hS ?_
  refine wpAnyE_take (i := 3) (v := (.slice (some ⟨sg, 0, none⟩) N sc)) rfl (by kernel_rfl) (by kernel_rfl) (by kernel_rfl) (by kernel_rfl) (fun _ _ _ h => h) (Or.inl ⟨by kernel_rfl, fun w' hw => by (obtain ⟨z0, z1⟩ := hw; go_simp)⟩) hS ?_
  refine wpAnyE_take (i := 4) (v := (.int .i64 (w : Int))) rfl (by kernel_rfl) (by kernel_rfl) (by kernel_rfl) (by kernel_rfl) (fun _ _ _ h => h) (Or.inl ⟨by kernel_rfl, fun w' hw => by (go_simp)⟩) hS ?_
  refine wpAnyE_take (i := 5) (v := (.pointer (some ⟨s, 3, none⟩))) rfl (by kernel_rfl) (by kernel_rfl) (by kernel_rfl) (by kernel_rfl) (fun _ _ _ h => h) (Or.inl ⟨by kernel_rfl, fun w' hw => by (go_simp)⟩) hS ?_
  refine wpAnyE_take (i := 6) (v := (.int .u64 (v : Int))) rfl (by kernel_rfl) (by kernel_rfl) (by kernel_rfl) (by kernel_rfl) (fun _ _ _ h => h) (Or.inl ⟨by kernel_rfl, fun w' hw => by (obtain ⟨z0, z1⟩ := hw; go_simp)⟩) hS ?_
  refine wpAnyE_take (i := 7) (v := (.pointer (some ⟨sg, w, none⟩))) rfl (by kernel_rfl) (by kernel_rfl) (by kernel_rfl) (by kernel_rfl) (fun _ _ _ h => h) (Or.inl ⟨by kernel_rfl, fun w' hw => by (have e := IX1.out w'; go_simp)⟩) hS ?_
  refine wpAnyE_do (i := 8) (by kernel_rfl) rfl (by kernel_rfl) (fun K hK => ?_)
  go_simp
  refine hK.out _ _ (fun h => absurd rfl h) ?_
  clear hK K
  refine wpAnyE_done (by kernel_rfl) ?_ _
  try simp only [Act.put, List.getElem_toArray, List.getElem_cons_zero, List.getElem_cons_succ, List.setIfInBounds_toArray, List.set_cons_zero, List.set_cons_succ]
  generalize hW2 : (W1.setCell ⟨sg, w, none⟩ (.int .u64 (v : Int))).drew = W2 at *
  have hbw2 : W2.heap[s]? = some (.cells #[.int .i64 2, .int .i64 a, .int .i64 n, .int .u64 (v : Int), .slice da dl dc, .slice ka kl kc, .slice aa al ac] 59 (0, 0)) := (HG2.out.block (lt_of_heap HBX.out) (fun hf => HSN.out s (.inr hf) rfl)).trans HBX.out
  have hsz2 : W2.heap.size = s + 1 := by rw [← hW2, ← HSZ.out]; simp [World.setCell]
  clear hW2 csw fsw d0 d1 d3 c1 S7
  obtain ⟨hg, hc, v0, ehv, hv0, chw, fhw, hown, ffh, fv0⟩ := H2.out.heldAt (w := w) (l := l) HLD.out
  have ehv : K.hv = .slice (some ⟨hg, 0, none⟩) N hc := by rw [ehv]; show Value.slice _ B.held.length hc = _; rw [HH.out]
  obtain ⟨ia, ic, ev0⟩ := own_slice hown
  subst ev0
  obtain ⟨il, hil⟩ : ∃ il, l.length = il := ⟨_, rfl⟩
  obtain ⟨xs, hxs⟩ : ∃ xs, l.map U64 = xs := ⟨_, rfl⟩
  rw [hil, hxs] at hown
  rw [hil] at chw fv0 hv0
  have hB3 : Below W2.heap.size W2 (W2.alloc (.cells #[(.int .u64 (v : Int))] 47)).drew := ((Below.refl _ _).alloc (Nat.le_refl _) _).drew
  have hpl2 := H2.out
  have hc2 : W2.cell? ⟨p, 2, none⟩ = some (.slice (some ⟨hg, 0, none⟩) N hc) := by rw [← ehv]; exact hpl2.c 2
  have hcs := cell8 hbw2 3
  simp only [List.getElem?_toArray, List.getElem?_cons_zero, List.getElem?_cons_succ] at hcs
  have hp2 : p < W2.heap.size := lt_of_heap hpl2.blk
  have hs2 : s < W2.heap.size := by omega
  have hh2 : hg < W2.heap.size := by obtain ⟨c, t, hc3, _⟩ := hpl2.own.lt ffh; exact lt_of_heap hc3
  have hfB : ∀ g, FootR (rowsOf K { B with seen := B.seen.set w v }) g → FootR (rowsOf K B) g := fun g hf => foot_fB (K := K) (B := B) (B' := { B with seen := B.seen.set w v }) rfl hf
  have hnev : ∀ g, (Value.slice ia il ic).ownBlock = some g → g ≠ p ∧ g ≠ s ∧ g ≠ hg := fun g hg3 => ⟨hpl2.ne (fv0 g hg3).1, HSN.out g (.inr (hfB g (fv0 g hg3).1)), (fv0 g hg3).2⟩
  have a8 : ((W2.alloc (.cells #[(.int .u64 (v : Int))] 47)).drew.cell? ⟨p, 2, none⟩ = some (.slice (some ⟨hg, 0, none⟩) N hc) ∧ (W2.alloc (.cells #[(.int .u64 (v : Int))] 47)).drew.cell? ⟨s, 3, none⟩ = some (.int .u64 (v : Int)) ∧ (W2.alloc (.cells #[(.int .u64 (v : Int))] 47)).drew.cell? ⟨hg, w, none⟩ = some (.slice ia il ic)) ∧ (W2.alloc (.cells #[(.int .u64 (v : Int))] 47)).drew.ownsRow 0 47 1 (.slice ia il ic) il xs ∧ (∀ (j : Nat) u, [(.int .u64 (v : Int))][j]? = some u → (W2.alloc (.cells #[(.int .u64 (v : Int))] 47)).drew.cell? ((⟨W2.heap.size, 0, none⟩ : Addr).add j) = some u) ∧
      ∀ v8 W8, W8.ownsRow 0 47 1 v8 (il + 1) (xs ++ [(.int .u64 (v : Int))]) → (W2.alloc (.cells #[(.int .u64 (v : Int))] 47)).drew.grownBy W8 (Value.slice ia il ic).ownBlock → (v8.ownBlock = (Value.slice ia il ic).ownBlock ∨ v8.ownBlock = some (W2.alloc (.cells #[(.int .u64 (v : Int))] 47)).drew.heap.size) →
        (W8.cell? ⟨p, 2, none⟩ = some (.slice (some ⟨hg, 0, none⟩) N hc) ∧ W8.cell? ⟨s, 3, none⟩ = some (.int .u64 (v : Int)) ∧ W8.cell? ⟨hg, w, none⟩ = some (.slice ia il ic)) ∧ W8.frozen? ⟨hg, w, none⟩ = false ∧
        (PlL (W8.setCell ⟨hg, w, none⟩ v8) p b { K with hs := K.hs.set w v8 } { B with seen := B.seen.set w v, held := B.held.set w (l ++ [v]) } ∧ Gr (FootR (rowsOf K B)) W1 (W8.setCell ⟨hg, w, none⟩ v8) ∧ (∀ k, FootP p { K with hs := K.hs.set w v8 } { B with seen := B.seen.set w v, held := B.held.set w (l ++ [v]) } k → FootP p K B k ∨ s ≤ k) ∧ (W8.setCell ⟨hg, w, none⟩ v8).cell? ⟨s, 3, none⟩ = some (.int .u64 (v : Int))) := by
    have hpl3 := hpl2.below hB3
    refine ⟨⟨(hB3.cell hp2).trans hc2, (hB3.cell hs2).trans hcs, (hB3.cell hh2).trans chw⟩, ownsRow_of_block hown (fun g hg3 => by obtain ⟨c, hc3⟩ := own_type hown hg3; exact hB3.block g (lt_of_heap hc3)), cell_oneP W2 _ _, fun v8 W8 ho8 hg8 hl8 => ?_⟩
    have hsz3 : (W2.alloc (.cells #[(.int .u64 (v : Int))] 47)).drew.heap.size = W2.heap.size + 1 := by show (W2.alloc _).heap.size = _; simp
    have kp : ∀ g, g < W2.heap.size → (∀ q, (Value.slice ia il ic).ownBlock = some q → q ≠ g) → W8.heap[g]? = W2.heap[g]? := fun g h1 h2 => (hg8.block g (by rw [hsz3]; omega) (fun e => h2 g e.symm rfl)).trans (hB3.block g h1)
    have kpp := kp p hp2 (fun q hq => (hnev q hq).1)
    have kps := kp s hs2 (fun q hq => (hnev q hq).2.1)
    have kph := kp hg hh2 (fun q hq => (hnev q hq).2.2)
    obtain ⟨t1, t2, t3⟩ := hpl3.app_held (x := v) HLD.out hv0 ehv (by show B.held.length = N; exact HH.out) hg8 (by rw [hil, hxs]; exact ho8) hl8
    obtain ⟨ch, th, hc3, _⟩ := hpl2.own.lt ffh
    have hshg : s ≠ hg := fun e => HSN.out hg (.inr (hfB hg ffh)) e.symm
    refine ⟨⟨(World.cell?_of_block kpp).trans hc2, (World.cell?_of_block kps).trans hcs, (World.cell?_of_block kph).trans chw⟩, froz8 (kph.trans hc3) w, t1, ?_, fun k hk => ?_, (World.cell?_of_block ((heap_set_ne W8 hg w s v8 hshg).trans kps)).trans hcs⟩
    · exact (HG2.out.trans (Gr.of_below hB3 : Gr (FootR (rowsOf K B)) _ _) (fun i h => .inl h)).trans (t2.mono (fun k hk => hfB k hk)) (fun i h => .inl h)
    · rcases t3 k hk with h4 | h4
      · rcases h4 with h5 | h5
        · exact .inl (.inl h5)
        · exact .inl (.inr (hfB k h5))
      · exact .inr (by rw [hsz3] at h4; omega)
  have s8 : W2.drew.cell? ⟨p, 2, none⟩ = some (.slice (some ⟨hg, 0, none⟩) N hc) ∧ W2.drew.cell? ⟨s, 3, none⟩ = some (.int .u64 (v : Int)) ∧ W2.drew.cell? ⟨hg, w, none⟩ = some (.slice ia il ic) := ⟨hc2, hcs, chw⟩
  have A8 := hide a8
  have S8 := hide s8
  have IX2 := hide (fun X => by have h := index_rows hg 0 w N hc hwN X; rwa [Nat.zero_add] at h : ∀ X : World, (Instr.indexAt 30 (.slice (some ⟨hg, 0, none⟩) N hc) (.int .i64 (w : Int))).run Try.prog X = .ok (.pointer (some ⟨hg, w, none⟩)) X)
  have ilI : (il : Int) ≤ 1399000000000 := by omega
  clear a8 s8 hpl2 hc2 hcs hp2 hs2 hh2 hfB hnev hB3 hown chw fhw fv0 ffh ehv hv0 hbw2 hsz2 H2 HG2 hxs IX1 HBX HSZ
  have HIL := hide hil
  clear hil
  go_wp2_with (fail)
  refine wp_region_early 17 (fun Y => Y.cell? ⟨p, 2, none⟩ = some (.slice (some ⟨hg, 0, none⟩) N hc) ∧ Y.cell? ⟨s, 3, none⟩ = some (.int .u64 (v : Int)) ∧ Y.cell? ⟨hg, w, none⟩ = some (.slice ia il ic)) (by kernel_rfl) S8.out (fun hS => ?_)
  refine wpAnyE_take (i := 0) (v := (.pointer (some ⟨p, 0, none⟩))) rfl (by kernel_rfl) (by kernel_rfl) (by kernel_rfl) (by kernel_rfl) (fun _ _ _ h => h) (Or.inl ⟨by kernel_rfl, fun w' hw => by (go_simp)⟩) hS ?_
  refine wpAnyE_take (i := 1) (v := (.pointer (some ⟨p, 0, none⟩))) rfl (by kernel_rfl) (by kernel_rfl) (by kernel_rfl) (by kernel_rfl) (fun _ _ _ h => h) (Or.inl ⟨by kernel_rfl, fun w' hw => by (go_simp)⟩) hS ?_
  refine wpAnyE_take (i := 2) (v := (.pointer (some ⟨p, 2, none⟩))) rfl (by kernel_rfl) (by kernel_rfl) (by kernel_rfl) (by kernel_rfl) (fun _ _ _ h => h) (Or.inl ⟨by kernel_rfl, fun w' hw => by (go_simp)⟩) hS ?_
  refine wpAnyE_take (i := 3) (v := (.slice (some ⟨hg, 0, none⟩) N hc)) rfl (by kernel_rfl) (by kernel_rfl) (by kernel_rfl) (by kernel_rfl) (fun _ _ _ h => h) (Or.inl ⟨by kernel_rfl, fun w' hw => by (obtain ⟨z0, z1, z2⟩ := hw; go_simp)⟩) hS ?_
  refine wpAnyE_take (i := 4) (v := (.int .i64 (w : Int))) rfl (by kernel_rfl) (by kernel_rfl) (by kernel_rfl) (by kernel_rfl) (fun _ _ _ h => h) (Or.inl ⟨by kernel_rfl, fun w' hw => by (go_simp)⟩) hS ?_
  refine wpAnyE_take (i := 5) (v := (.pointer (some ⟨p, 0, none⟩))) rfl (by kernel_rfl) (by kernel_rfl) (by kernel_rfl) (by kernel_rfl) (fun _ _ _ h => h) (Or.inl ⟨by kernel_rfl, fun w' hw => by (go_simp)⟩) hS ?_
  refine wpAnyE_take (i := 6) (v := (.pointer (some ⟨p, 0, none⟩))) rfl (by kernel_rfl) (by kernel_rfl) (by kernel_rfl) (by kernel_rfl) (fun _ _ _ h => h) (Or.inl ⟨by kernel_rfl, fun w' hw => by (go_simp)⟩) hS ?_
  refine wpAnyE_take (i := 7) (v := (.pointer (some ⟨p, 2, none⟩))) rfl (by kernel_rfl) (by kernel_rfl) (by kernel_rfl) (by kernel_rfl) (fun _ _ _ h => h) (Or.inl ⟨by kernel_rfl, fun w' hw => by (go_simp)⟩) hS ?_
  refine wpAnyE_take (i := 8) (v := (.slice (some ⟨hg, 0, none⟩) N hc)) rfl (by kernel_rfl) (by kernel_rfl) (by kernel_rfl) (by kernel_rfl) (fun _ _ _ h => h) (Or.inl ⟨by kernel_rfl, fun w' hw => by (obtain ⟨z0, z1, z2⟩ := hw; go_simp)⟩) hS ?_
  refine wpAnyE_take (i := 9) (v := (.int .i64 (w : Int))) rfl (by kernel_rfl) (by kernel_rfl) (by kernel_rfl) (by kernel_rfl) (fun _ _ _ h => h) (Or.inl ⟨by kernel_rfl, fun w' hw => by (go_simp)⟩) hS ?_
  refine wpAnyE_take (i := 10) (v := (.pointer (some ⟨hg, w, none⟩))) rfl (by kernel_rfl) (by kernel_rfl) (by kernel_rfl) (by kernel_rfl) (fun _ _ _ h => h) (Or.inl ⟨by kernel_rfl, fun w' hw => by (have e := IX2.out w'; go_simp)⟩) hS ?_
  refine wpAnyE_take (i := 11) (v := (.slice ia il ic)) rfl (by kernel_rfl) (by kernel_rfl) (by kernel_rfl) (by kernel_rfl) (fun _ _ _ h => h) (Or.inl ⟨by kernel_rfl, fun w' hw => by (obtain ⟨z0, z1, z2⟩ := hw; go_simp)⟩) hS ?_
  refine wpAnyE_take (i := 12) (v := (.pointer (some ⟨s, 3, none⟩))) rfl (by kernel_rfl) (by kernel_rfl) (by kernel_rfl) (by kernel_rfl) (fun _ _ _ h => h) (Or.inl ⟨by kernel_rfl, fun w' hw => by (go_simp)⟩) hS ?_
  refine wpAnyE_take (i := 13) (v := (.int .u64 (v : Int))) rfl (by kernel_rfl) (by kernel_rfl) (by kernel_rfl) (by kernel_rfl) (fun _ _ _ h => h) (Or.inl ⟨by kernel_rfl, fun w' hw => by (obtain ⟨z0, z1, z2⟩ := hw; go_simp)⟩) hS ?_
  refine wpAnyE_do (i := 14) (by kernel_rfl) rfl (by kernel_rfl) (fun K hK => ?_)
  go_simp
  refine hK.out _ _ (fun _ => A8.out.1) ?_
  clear hK K
  refine wpAnyE_do (i := 15) (by kernel_rfl) rfl (by kernel_rfl) (fun K hK => ?_)
  refine wp_append_at (.tmp 45) (.tmp 48) 29 (by kernel_rfl) 0 47 i0 (.int .u64 0) 1 8 Try.underlying29 hi0 hz0 hz1 hz2 (by rfl) (by decide) (.slice ia il ic) il xs (by kernel_rfl) A8.out.2.1 ⟨W2.heap.size, 0, none⟩ 1 1 [(.int .u64 (v : Int))] (by kernel_rfl) (by simp) A8.out.2.2.1 (by simp [Value.oneCell']) (by unfold maxLen; omega) (by omega) (Nat.zero_le _) ?_
  intro v8 W8 ho8 hg8 _ hl8
  obtain ⟨r0, rf, rp⟩ := A8.out.2.2.2 v8 W8 ho8 hg8 hl8
  obtain ⟨a8, c8, rfl⟩ := own_slice ho8
  have RP := hide rp
  clear ho8 hg8 hl8 rp
  obtain ⟨q0, q1, q2⟩ := r0
  refine hK.out _ _ (fun _ => ⟨q0, q1, q2⟩) ?_
  clear hK K
  refine wpAnyE_take (i := 16) (v := (.pointer (some ⟨hg, w, none⟩))) rfl (by kernel_rfl) (by kernel_rfl) (by kernel_rfl) (by kernel_rfl) (fun _ _ _ h => h) (Or.inl ⟨by kernel_rfl, fun w' hw => by (have e := IX2.out w'; go_simp)⟩) ⟨q0, q1, q2⟩ ?_
  refine wpAnyE_do (i := 17) (by kernel_rfl) rfl (by kernel_rfl) (fun K hK => ?_)
  go_simp
  refine hK.out _ _ (fun h => absurd rfl h) ?_
  clear hK K
  refine wpAnyE_done (by kernel_rfl) ?_ _
  try simp only [Act.put, List.getElem_toArray, List.getElem_cons_zero, List.getElem_cons_succ, List.setIfInBounds_toArray, List.set_cons_zero, List.set_cons_succ]
  obtain ⟨hpl5, hgr5, hft5, hcs5⟩ := RP.out
  have hfo5 : ∀ k, FootP p { K with hs := K.hs.set w (.slice a8 (il + 1) c8) } (bstore B w v) k → FootP p K B k ∨ s ≤ k := fun k hk => by
    refine hft5 k ?_
    rcases hk with h1 | h1
    · exact .inl h1
    · refine .inr (foot_fB (B := { B with seen := B.seen.set w v, held := B.held.set w (l ++ [v]) }) (B' := bstore B w v) ?_ h1)
      show B.held.set w (B.held.getD w [] ++ [v]) = B.held.set w (l ++ [v])
      rw [List.getD_eq_getElem?_getD, HLD.out]
      rfl
  have hu2 : ({ K with hs := K.hs.set w (.slice a8 (il + 1) c8) } : Kl).uv = .slice (some ⟨ug, 0, none⟩) N uc := HLI.out.u
  have hm2 : ({ K with hs := K.hs.set w (.slice a8 (il + 1) c8) } : Kl).mv = .slice (some ⟨mg, 0, none⟩) m mc := HLI.out.m
  generalize ({ K with hs := K.hs.set w (.slice a8 (il + 1) c8) } : Kl) = K2 at *
  generalize W8.setCell ⟨hg, w, none⟩ (.slice a8 (il + 1) c8) = W5 at *
  have hgo : B.held.getD w [] = l := by rw [List.getD_eq_getElem?_getD, HLD.out]; rfl
  clear RP rf q0 q1 q2 hft5 A8 S8 IX2
  obtain ⟨cu, fu⟩ := hpl5.sureC hu2 HX3.out
  have e4 : W5.cell? ⟨p, 4, none⟩ = some (.slice (some ⟨ug, 0, none⟩) N uc) := by rw [← hu2]; exact hpl5.c 4
  have hpl6 := hpl5.set_sure (j := w) (x := false) hu2 HU.out
  have hsu : s ≠ ug := fun e => HSN.out ug (.inr HLI.out.xu) e.symm
  have hsm : s ≠ mg := fun e => HSN.out mg (.inr HLI.out.xm) e.symm
  have e5 : (W5.setCell ⟨ug, w, none⟩ (.bool false)).cell? ⟨p, 5, none⟩ = some (.slice (some ⟨mg, 0, none⟩) m mc) := by rw [← hm2]; exact hpl6.c 5
  obtain ⟨cm, fm⟩ := hpl6.markC hm2 HMK.out
  have hcs6 : (W5.setCell ⟨ug, w, none⟩ (.bool false)).cell? ⟨s, 3, none⟩ = some (.int .u64 (v : Int)) := (World.cell?_of_block (heap_set_ne W5 ug w s _ hsu)).trans hcs5
  have hgr6 : Gr (FootR (rowsOf K B)) W1 (W5.setCell ⟨ug, w, none⟩ (.bool false)) := hgr5.trans (Gr.set _ ug w _ (X := FootR (rowsOf K B)) HLI.out.xu) (fun i h => .inl h)
  have ixu := fun X => index_bool ug 0 w N uc hwN X
  have ixm := fun X => index_ints mg 0 l8 m mc HLM.out X
  simp only [Nat.zero_add] at ixu ixm
  by_cases hone : mk = 1
  · subst hone
    have hpl7 := hpl6.set_mark (j := l8) (x := 2) hm2 HM.out
    have hcs7 : ((W5.setCell ⟨ug, w, none⟩ (.bool false)).setCell ⟨mg, l8, none⟩ (MI 2)).cell? ⟨s, 3, none⟩ = some (.int .u64 (v : Int)) := (World.cell?_of_block (heap_set_ne _ mg l8 s _ hsm)).trans hcs6
    have hgr7 : Gr (FootR (rowsOf K B)) W1 ((W5.setCell ⟨ug, w, none⟩ (.bool false)).setCell ⟨mg, l8, none⟩ (MI 2)) := hgr6.trans (Gr.set _ mg l8 _ (X := FootR (rowsOf K B)) HLI.out.xm) (fun i h => .inl h)
    have hpl8 : PlL ((W5.setCell ⟨ug, w, none⟩ (.bool false)).setCell ⟨mg, l8, none⟩ (MI 2)) p b K2 (bstore B w v) := by
      have e : bstore B w v = { seen := B.seen.set w v, held := B.held.set w (l ++ [v]), last := B.last, sure := B.sure.set w false, marks := B.marks.set l8 2 } := by
        unfold bstore
        rw [hgo, HL8.out, if_pos HMK.out]
      rw [e]
      exact hpl7
    have s12 : ((W5.setCell ⟨ug, w, none⟩ (.bool false)).setCell ⟨mg, l8, none⟩ (MI 2)).drew.cell? ⟨p, 0, none⟩ = some (.pointer (some ⟨b, 0, none⟩)) ∧ ((W5.setCell ⟨ug, w, none⟩ (.bool false)).setCell ⟨mg, l8, none⟩ (MI 2)).drew.cell? ⟨s, 3, none⟩ = some (.int .u64 (v : Int)) := ⟨hpl8.c 0, hcs7⟩
    have k12 := KS.out _ K2 hpl8.drew hgr7.drewR hfo5
    rw [s12.1, s12.2] at k12
    have K12 := hide k12
    have S12 := hide s12
    unfold MI at K12 S12
    clear k12 s12 hpl5 hgr5 hcs5 hfo5 hpl6 hcs6 hgr6 hpl7 hcs7 hgr7 hpl8 hgo HSN HLI KS
    go_wp2_with (fail)
    refine wp_region_held_drew (S := fun Y => Y.cell? ⟨p, 0, none⟩ = some (.pointer (some ⟨b, 0, none⟩)) ∧ Y.cell? ⟨s, 3, none⟩ = some (.int .u64 (v : Int))) (by kernel_rfl) S12.out (fun hS => ?_)
    refine wpAnyH_take (i := 0) (v := (.pointer (some ⟨p, 0, none⟩))) rfl (by kernel_rfl) (by kernel_rfl) (by kernel_rfl) (fun _ _ _ h => h) (Or.inl ⟨by kernel_rfl, fun w' hw => by (go_simp)⟩) hS ?_
    refine wpAnyH_take (i := 1) (v := (.pointer (some ⟨p, 0, none⟩))) rfl (by kernel_rfl) (by kernel_rfl) (by kernel_rfl) (fun _ _ _ h => h) (Or.inl ⟨by kernel_rfl, fun w' hw => by (go_simp)⟩) hS ?_
    refine wpAnyH_take (i := 2) (v := (.pointer (some ⟨p, 0, none⟩))) rfl (by kernel_rfl) (by kernel_rfl) (by kernel_rfl) (fun _ _ _ h => h) (Or.inl ⟨by kernel_rfl, fun w' hw => by (go_simp)⟩) hS ?_
    refine wpAnyH_take (i := 3) (v := (.pointer (some ⟨b, 0, none⟩))) rfl (by kernel_rfl) (by kernel_rfl) (by kernel_rfl) (fun _ _ _ h => h) (Or.inl ⟨by kernel_rfl, fun w' hw => by (obtain ⟨z0, z1⟩ := hw; go_simp)⟩) hS ?_
    refine wpAnyH_take (i := 4) (v := (.int .i64 (w : Int))) rfl (by kernel_rfl) (by kernel_rfl) (by kernel_rfl) (fun _ _ _ h => h) (Or.inl ⟨by kernel_rfl, fun w' hw => by (go_simp)⟩) hS ?_
    refine wpAnyH_take (i := 5) (v := (.int .i64 (8 * (w : Int)))) rfl (by kernel_rfl) (by kernel_rfl) (by kernel_rfl) (fun _ _ _ h => h) (Or.inl ⟨by kernel_rfl, fun w' hw => by (have wr8 := WR8.out; go_simp)⟩) hS ?_
    refine wpAnyH_take (i := 6) (v := (.pointer (some ⟨s, 3, none⟩))) rfl (by kernel_rfl) (by kernel_rfl) (by kernel_rfl) (fun _ _ _ h => h) (Or.inl ⟨by kernel_rfl, fun w' hw => by (go_simp)⟩) hS ?_
    refine wpAnyH_take (i := 7) (v := (.int .u64 (v : Int))) rfl (by kernel_rfl) (by kernel_rfl) (by kernel_rfl) (fun _ _ _ h => h) (Or.inl ⟨by kernel_rfl, fun w' hw => by (obtain ⟨z0, z1⟩ := hw; go_simp)⟩) hS ?_
    refine wpAnyH_goS (i := 8) (by kernel_rfl) rfl (by kernel_rfl) (fun K hK => ?_)
    go_wp2_with (go_at_call 14; refine (K12.out).mono ?_; rintro e WB ⟨c, rfl, hr, hp0, hs3⟩; have HR := hide hr; clear hr)
    refine hK.out _ _ ⟨hp0, hs3⟩ ?_
    clear hK K
    refine wpAnyH_take (i := 9) (v := (.bool (decide (c = 0)))) rfl (by kernel_rfl) (by kernel_rfl) (by kernel_rfl) (fun _ _ _ h => h) (Or.inl ⟨by kernel_rfl, fun w' hw => by (go_simp; rfl)⟩) ⟨hp0, hs3⟩ ?_
    refine wpAnyH_take (i := 10) (v := (.bool (decide (c = 0)))) rfl (by kernel_rfl) (by kernel_rfl) (by kernel_rfl) (fun _ _ _ h => h) (Or.inl ⟨by kernel_rfl, fun w' hw => by (go_simp)⟩) ⟨hp0, hs3⟩ ?_
    refine wpAnyH_done (by kernel_rfl) ?_ _
    simp only [Act.put, List.getElem_toArray, List.getElem_cons_zero, List.getElem_cons_succ, List.setIfInBounds_toArray, List.set_cons_zero, List.set_cons_succ]
    go_wp2_with (fail)
    go_ret
    exact ⟨c, _, rfl, HR.out⟩
  · have mkI : ¬ (mk : Int) = 1 := by omega
    have hpl8 : PlL (W5.setCell ⟨ug, w, none⟩ (.bool false)) p b K2 (bstore B w v) := by
      have e : bstore B w v = { seen := B.seen.set w v, held := B.held.set w (l ++ [v]), last := B.last, sure := B.sure.set w false, marks := B.marks } := by
        unfold bstore
        rw [hgo, HL8.out, if_neg (by rw [HMK.out]; simpa using hone)]
      rw [e]
      exact hpl6
    have s12 : (W5.setCell ⟨ug, w, none⟩ (.bool false)).drew.cell? ⟨p, 0, none⟩ = some (.pointer (some ⟨b, 0, none⟩)) ∧ (W5.setCell ⟨ug, w, none⟩ (.bool false)).drew.cell? ⟨s, 3, none⟩ = some (.int .u64 (v : Int)) := ⟨hpl8.c 0, hcs6⟩
    have k12 := KS.out _ K2 hpl8.drew hgr6.drewR hfo5
    rw [s12.1, s12.2] at k12
    have K12 := hide k12
    have S12 := hide s12
    clear k12 s12 hpl5 hgr5 hcs5 hfo5 hpl6 hcs6 hgr6 hpl8 hgo HSN HLI KS
    go_wp2_with (fail)
    refine wp_region_held_drew (S := fun Y => Y.cell? ⟨p, 0, none⟩ = some (.pointer (some ⟨b, 0, none⟩)) ∧ Y.cell? ⟨s, 3, none⟩ = some (.int .u64 (v : Int))) (by kernel_rfl) S12.out (fun hS => ?_)
    refine wpAnyH_take (i := 0) (v := (.pointer (some ⟨p, 0, none⟩))) rfl (by kernel_rfl) (by kernel_rfl) (by kernel_rfl) (fun _ _ _ h => h) (Or.inl ⟨by kernel_rfl, fun w' hw => by (go_simp)⟩) hS ?_
    refine wpAnyH_take (i := 1) (v := (.pointer (some ⟨p, 0, none⟩))) rfl (by kernel_rfl) (by kernel_rfl) (by kernel_rfl) (fun _ _ _ h => h) (Or.inl ⟨by kernel_rfl, fun w' hw => by (go_simp)⟩) hS ?_
    refine wpAnyH_take (i := 2) (v := (.pointer (some ⟨p, 0, none⟩))) rfl (by kernel_rfl) (by kernel_rfl) (by kernel_rfl) (fun _ _ _ h => h) (Or.inl ⟨by kernel_rfl, fun w' hw => by (go_simp)⟩) hS ?_
    refine wpAnyH_take (i := 3) (v := (.pointer (some ⟨b, 0, none⟩))) rfl (by kernel_rfl) (by kernel_rfl) (by kernel_rfl) (fun _ _ _ h => h) (Or.inl ⟨by kernel_rfl, fun w' hw => by (obtain ⟨z0, z1⟩ := hw; go_simp)⟩) hS ?_
    refine wpAnyH_take (i := 4) (v := (.int .i64 (w : Int))) rfl (by kernel_rfl) (by kernel_rfl) (by kernel_rfl) (fun _ _ _ h => h) (Or.inl ⟨by kernel_rfl, fun w' hw => by (go_simp)⟩) hS ?_
    refine wpAnyH_take (i := 5) (v := (.int .i64 (8 * (w : Int)))) rfl (by kernel_rfl) (by kernel_rfl) (by kernel_rfl) (fun _ _ _ h => h) (Or.inl ⟨by kernel_rfl, fun w' hw => by (have wr8 := WR8.out; go_simp)⟩) hS ?_
    refine wpAnyH_take (i := 6) (v := (.pointer (some ⟨s, 3, none⟩))) rfl (by kernel_rfl) (by kernel_rfl) (by kernel_rfl) (fun _ _ _ h => h) (Or.inl ⟨by kernel_rfl, fun w' hw => by (go_simp)⟩) hS ?_
    refine wpAnyH_take (i := 7) (v := (.int .u64 (v : Int))) rfl (by kernel_rfl) (by kernel_rfl) (by kernel_rfl) (fun _ _ _ h => h) (Or.inl ⟨by kernel_rfl, fun w' hw => by (obtain ⟨z0, z1⟩ := hw; go_simp)⟩) hS ?_
    refine wpAnyH_goS (i := 8) (by kernel_rfl) rfl (by kernel_rfl) (fun K hK => ?_)
    go_wp2_with (go_at_call 14; refine (K12.out).mono ?_; rintro e WB ⟨c, rfl, hr, hp0, hs3⟩; have HR := hide hr; clear hr)
    refine hK.out _ _ ⟨hp0, hs3⟩ ?_
    clear hK K
    refine wpAnyH_take (i := 9) (v := (.bool (decide (c = 0)))) rfl (by kernel_rfl) (by kernel_rfl) (by kernel_rfl) (fun _ _ _ h => h) (Or.inl ⟨by kernel_rfl, fun w' hw => by (go_simp; rfl)⟩) ⟨hp0, hs3⟩ ?_
    refine wpAnyH_take (i := 10) (v := (.bool (decide (c = 0)))) rfl (by kernel_rfl) (by kernel_rfl) (by kernel_rfl) (fun _ _ _ h => h) (Or.inl ⟨by kernel_rfl, fun w' hw => by (go_simp)⟩) ⟨hp0, hs3⟩ ?_
    refine wpAnyH_done (by kernel_rfl) ?_ _
    simp only [Act.put, List.getElem_toArray, List.getElem_cons_zero, List.getElem_cons_succ, List.setIfInBounds_toArray, List.set_cons_zero, List.set_cons_succ]
    go_wp2_with (fail)
    go_ret
    exact ⟨c, _, rfl, HR.out⟩
set_option maxRecDepth 100000 in
set_option maxHeartbeats 2000000 in
theorem play_store3 (p b N m w : Nat) (a n : Int) (v : Nat) (da : Option Addr) (dl dc : Nat) (ka : Option Addr) (kl kc : Nat) (aa : Option Addr) (al ac : Nat) (W : World) (K : Kl) (B : Bk) (Post : Int → Kl → World → Prop) (kw : ∀ X, Calls Try.prog 6 #[.int .i64 a, .int .i64 (N : Int)] X fun e w' => e = .returned (.int .i64 (w : Int)) ∧ w' = X) (hwN : w < N) (hNm : N = 8 * m) (hm4 : m ≤ 4) (h : PlL W p b K B) (hs : B.seen.length = N) (hh : B.held.length = N) (hl : B.last.length = N) (hu : B.sure.length = N) (hm : B.marks.length = m) (hcap : ∀ l ∈ B.held, l.length ≤ 1399000000000)
    (ks : ∀ X K', PlL X p b K' (bstore B w v) → Gr (FootR (rowsOf K B)) (W.alloc (.cells #[.int .i64 3, .int .i64 a, .int .i64 n, .int .u64 (v : Int), .slice da dl dc, .slice ka kl kc, .slice aa al ac] 59)) X → (∀ k, FootP p K' (bstore B w v) k → FootP p K B k ∨ W.heap.size ≤ k) → Calls Try.prog 14 #[.pointer (some ⟨b, 0, none⟩), .int .i64 (8 * (w : Int)), .int .u64 (v : Int)] X fun e X' => ∃ c, e = .returned (.int .i64 c) ∧ Post c K' X' ∧ X'.cell? ⟨p, 0, none⟩ = X.cell? ⟨p, 0, none⟩ ∧ X'.cell? ⟨W.heap.size, 3, none⟩ = X.cell? ⟨W.heap.size, 3, none⟩) :
    Calls Try.prog 23 #[.pointer (some ⟨p, 0, none⟩), .agg #[.int .i64 3, .int .i64 a, .int .i64 n, .int .u64 (v : Int), .slice da dl dc, .slice ka kl kc, .slice aa al ac]] W fun e W' => ∃ c K', e = .returned (.bool (decide (c = 0))) ∧ Post c K' W' := by
  obtain ⟨i0, hi0, hz0, hz1, hz2⟩ := infoU
  obtain ⟨sg, sc, lg, lc, ug, uc, mg, mc, hlies⟩ := h.lies hs hl hu hm (by omega) (by omega)
  have hB1 : Below W.heap.size W (W.alloc (.cells #[.int .i64 3, .int .i64 a, .int .i64 n, .int .u64 (v : Int), .slice da dl dc, .slice ka kl kc, .slice aa al ac] 59)) := (Below.refl _ _).alloc (Nat.le_refl _) _
  have h1 := h.below hB1
  have hbx := heap_alloc_new W (.cells #[.int .i64 3, .int .i64 a, .int .i64 n, .int .u64 (v : Int), .slice da dl dc, .slice ka kl kc, .slice aa al ac] 59)
  have hsz : (W.alloc (.cells #[.int .i64 3, .int .i64 a, .int .i64 n, .int .u64 (v : Int), .slice da dl dc, .slice ka kl kc, .slice aa al ac] 59)).heap.size = W.heap.size + 1 := by simp
  have d0 := cell8 hbx 0
  have d1 := cell8 hbx 1
  have d3 := cell8 hbx 3
  simp only [List.getElem?_toArray, List.getElem?_cons_zero, List.getElem?_cons_succ] at d0 d1 d3
  obtain ⟨c0, c1, c3, c4, c5⟩ := hlies.cells h1
  have hsne : ∀ k, FootP p K B k → k ≠ W.heap.size := fun k hk e => by have := h.lt hk; omega
  obtain ⟨x0, hx0⟩ : ∃ x, B.seen[w]? = some x := ⟨_, List.getElem?_eq_getElem (by rw [hs]; exact hwN)⟩
  obtain ⟨csw, fsw⟩ := h1.seenC hlies.s hx0
  obtain ⟨l, hld⟩ : ∃ l, B.held[w]? = some l := ⟨_, List.getElem?_eq_getElem (by rw [hh]; exact hwN)⟩
  obtain ⟨x3, hx3⟩ : ∃ x, B.sure[w]? = some x := ⟨_, List.getElem?_eq_getElem (by rw [hu]; exact hwN)⟩
  obtain ⟨mk, hmk⟩ : ∃ x, B.marks[w / 8]? = some x := ⟨_, List.getElem?_eq_getElem (by rw [hm]; omega)⟩
  have h2 := h1.set_seen (j := w) (x := v) hlies.s hs
  have hg2 : Gr (FootR (rowsOf K B)) (W.alloc (.cells #[.int .i64 3, .int .i64 a, .int .i64 n, .int .u64 (v : Int), .slice da dl dc, .slice ka kl kc, .slice aa al ac] 59)) ((W.alloc (.cells #[.int .i64 3, .int .i64 a, .int .i64 n, .int .u64 (v : Int), .slice da dl dc, .slice ka kl kc, .slice aa al ac] 59)).setCell ⟨sg, w, none⟩ (U64 v)) := Gr.set _ sg w _ (X := FootR (rowsOf K B)) hlies.xs
  have hll := hcap l (List.mem_of_getElem? hld)
  have KW := hide kw
  have KS := hide ks
  have HLI := hide hlies
  have H2 := hide h2.drew
  have HG2 := hide hg2.drewR
  have HLD := hide hld
  have HX3 := hide hx3
  have HMK := hide hmk
  have HH := hide hh
  have HU := hide hu
  have HM := hide hm
  have HSN := hide hsne
  have HBX := hide hbx
  have HSZ := hide hsz
  have HPE := hide (fun k (hk : FootP p K B k) => h.lt hk)
  have IX1 := hide (fun X => by have h := index_u64 sg 0 w N sc hwN X; rwa [Nat.zero_add] at h : ∀ X : World, (Instr.indexAt 29 (.slice (some ⟨sg, 0, none⟩) N sc) (.int .i64 (w : Int))).run Try.prog X = .ok (.pointer (some ⟨sg, w, none⟩)) X)
  have wr8 : IntKind.i64.wrap (8 * (w : Int)) = 8 * (w : Int) := by rw [IntKind.wrap_i64]; omega
  have WR8 := hide wr8
  have htd := tdiv8 w
  have wI : (w : Int) < (N : Int) := by omega
  have NI : (N : Int) ≤ 32 := by omega
  have lI : ((w / 8 : Nat) : Int) ≤ 4 := by omega
  have hlm : w / 8 < m := by omega
  have HLM := hide hlm
  unfold U64 at H2 HG2
  clear kw ks h h1 h2 hg2 hlies hB1 hbx hs hl hu hm c0 c3 c4 c5 hNm hsz hsne hx0 hld hx3 hmk hcap hh wr8 hlm
  generalize hl8 : w / 8 = l8 at *
  have HL8 := hide hl8
  clear hl8
  go_enter Try.func23, Try.ntmps23
  go_upto_region 1 with (fail)
  generalize hs1 : W.heap.size = s at *
  clear hs1
  generalize hW1 : (W.alloc (.cells #[.int .i64 3, .int .i64 a, .int .i64 n, .int .u64 (v : Int), .slice da dl dc, .slice ka kl kc, .slice aa al ac] 59)) = W1 at *
  clear hW1
  have s7 : W1.drew.cell? ⟨p, 1, none⟩ = some (.slice (some ⟨sg, 0, none⟩) N sc) ∧ W1.drew.cell? ⟨s, 3, none⟩ = some (.int .u64 (v : Int)) := ⟨c1, d3⟩
  have S7 := hide s7
  clear s7
  go_wp2_with (first
    | (go_at_call 6; refine (KW.out _).mono ?_; rintro e w' ⟨rfl, hw⟩; obtain rfl := hw.symm))
  refine wp_region_early 8 (fun Y => Y.cell? ⟨p, 1, none⟩ = some (.slice (some ⟨sg, 0, none⟩) N sc) ∧ Y.cell? ⟨s, 3, none⟩ = some (.int .u64 (v : Int))) (by kernel_rfl) S7.out (fun hS => ?_)
  refine wpAnyE_take (i := 0) (v := (.pointer (some ⟨p, 0, none⟩))) rfl (by kernel_rfl) (by kernel_rfl) (by kernel_rfl) (by kernel_rfl) (fun _ _ _ h => h) (Or.inl ⟨by kernel_rfl, fun w' hw => by (go_simp)⟩) hS ?_
  refine wpAnyE_take (i := 1) (v := (.pointer (some ⟨p, 0, none⟩))) rfl (by kernel_rfl) (by kernel_rfl) (by kernel_rfl) (by kernel_rfl) (fun _ _ _ h => h) (Or.inl ⟨by kernel_rfl, fun w' hw => by (go_simp)⟩) hS ?_
  refine wpAnyE_take (i := 2) (v := (.pointer (some ⟨p, 1, none⟩))) rfl (by kernel_rfl) (by kernel_rfl) (by kernel_rfl) (by kernel_rfl) (fun _ _ _ h => h) (Or.inl ⟨by kernel_rfl, fun w' hw => by (go_simp)⟩) hS ?_
  refine wpAnyE_take (i := 3) (v := (.slice (some ⟨sg, 0, none⟩) N sc)) rfl (by kernel_rfl) (by kernel_rfl) (by kernel_rfl) (by kernel_rfl) (fun _ _ _ h => h) (Or.inl ⟨by kernel_rfl, fun w' hw => by (obtain ⟨z0, z1⟩ := hw; go_simp)⟩) hS ?_
  refine wpAnyE_take (i := 4) (v := (.int .i64 (w : Int))) rfl (by kernel_rfl) (by kernel_rfl) (by kernel_rfl) (by kernel_rfl) (fun _ _ _ h => h) (Or.inl ⟨by kernel_rfl, fun w' hw => by (go_simp)⟩) hS ?_
  refine wpAnyE_take (i := 5) (v := (.pointer (some ⟨s, 3, none⟩))) rfl (by kernel_rfl) (by kernel_rfl) (by kernel_rfl) (by kernel_rfl) (fun _ _ _ h => h) (Or.inl ⟨by kernel_rfl, fun w' hw => by (go_simp)⟩) hS ?_
  refine wpAnyE_take (i := 6) (v := (.int .u64 (v : Int))) rfl (by kernel_rfl) (by kernel_rfl) (by kernel_rfl) (by kernel_rfl) (fun _ _ _ h => h) (Or.inl ⟨by kernel_rfl, fun w' hw => by (obtain ⟨z0, z1⟩ := hw; go_simp)⟩) hS ?_
  refine wpAnyE_take (i := 7) (v := (.pointer (some ⟨sg, w, none⟩))) rfl (by kernel_rfl) (by kernel_rfl) (by kernel_rfl) (by kernel_rfl) (fun _ _ _ h => h) (Or.inl ⟨by kernel_rfl, fun w' hw => by (have e := IX1.out w'; go_simp)⟩) hS ?_
  refine wpAnyE_do (i := 8) (by kernel_rfl) rfl (by kernel_rfl) (fun K hK => ?_)
  go_simp
  refine hK.out _ _ (fun h => absurd rfl h) ?_
  clear hK K
  refine wpAnyE_done (by kernel_rfl) ?_ _
  try simp only [Act.put, List.getElem_toArray, List.getElem_cons_zero, List.getElem_cons_succ, List.setIfInBounds_toArray, List.set_cons_zero, List.set_cons_succ]
  generalize hW2 : (W1.setCell ⟨sg, w, none⟩ (.int .u64 (v : Int))).drew = W2 at *
  have hbw2 : W2.heap[s]? = some (.cells #[.int .i64 3, .int .i64 a, .int .i64 n, .int .u64 (v : Int), .slice da dl dc, .slice ka kl kc, .slice aa al ac] 59 (0, 0)) := (HG2.out.block (lt_of_heap HBX.out) (fun hf => HSN.out s (.inr hf) rfl)).trans HBX.out
  have hsz2 : W2.heap.size = s + 1 := by rw [← hW2, ← HSZ.out]; simp [World.setCell]
  clear hW2 csw fsw d0 d1 d3 c1 S7
  obtain ⟨hg, hc, v0, ehv, hv0, chw, fhw, hown, ffh, fv0⟩ := H2.out.heldAt (w := w) (l := l) HLD.out
  have ehv : K.hv = .slice (some ⟨hg, 0, none⟩) N hc := by rw [ehv]; show Value.slice _ B.held.length hc = _; rw [HH.out]
  obtain ⟨ia, ic, ev0⟩ := own_slice hown
  subst ev0
  obtain ⟨il, hil⟩ : ∃ il, l.length = il := ⟨_, rfl⟩
  obtain ⟨xs, hxs⟩ : ∃ xs, l.map U64 = xs := ⟨_, rfl⟩
  rw [hil, hxs] at hown
  rw [hil] at chw fv0 hv0
  have hB3 : Below W2.heap.size W2 (W2.alloc (.cells #[(.int .u64 (v : Int))] 47)).drew := ((Below.refl _ _).alloc (Nat.le_refl _) _).drew
  have hpl2 := H2.out
  have hc2 : W2.cell? ⟨p, 2, none⟩ = some (.slice (some ⟨hg, 0, none⟩) N hc) := by rw [← ehv]; exact hpl2.c 2
  have hcs := cell8 hbw2 3
  simp only [List.getElem?_toArray, List.getElem?_cons_zero, List.getElem?_cons_succ] at hcs
  have hp2 : p < W2.heap.size := lt_of_heap hpl2.blk
  have hs2 : s < W2.heap.size := by omega
  have hh2 : hg < W2.heap.size := by obtain ⟨c, t, hc3, _⟩ := hpl2.own.lt ffh; exact lt_of_heap hc3
  have hfB : ∀ g, FootR (rowsOf K { B with seen := B.seen.set w v }) g → FootR (rowsOf K B) g := fun g hf => foot_fB (K := K) (B := B) (B' := { B with seen := B.seen.set w v }) rfl hf
  have hnev : ∀ g, (Value.slice ia il ic).ownBlock = some g → g ≠ p ∧ g ≠ s ∧ g ≠ hg := fun g hg3 => ⟨hpl2.ne (fv0 g hg3).1, HSN.out g (.inr (hfB g (fv0 g hg3).1)), (fv0 g hg3).2⟩
  have a8 : ((W2.alloc (.cells #[(.int .u64 (v : Int))] 47)).drew.cell? ⟨p, 2, none⟩ = some (.slice (some ⟨hg, 0, none⟩) N hc) ∧ (W2.alloc (.cells #[(.int .u64 (v : Int))] 47)).drew.cell? ⟨s, 3, none⟩ = some (.int .u64 (v : Int)) ∧ (W2.alloc (.cells #[(.int .u64 (v : Int))] 47)).drew.cell? ⟨hg, w, none⟩ = some (.slice ia il ic)) ∧ (W2.alloc (.cells #[(.int .u64 (v : Int))] 47)).drew.ownsRow 0 47 1 (.slice ia il ic) il xs ∧ (∀ (j : Nat) u, [(.int .u64 (v : Int))][j]? = some u → (W2.alloc (.cells #[(.int .u64 (v : Int))] 47)).drew.cell? ((⟨W2.heap.size, 0, none⟩ : Addr).add j) = some u) ∧
      ∀ v8 W8, W8.ownsRow 0 47 1 v8 (il + 1) (xs ++ [(.int .u64 (v : Int))]) → (W2.alloc (.cells #[(.int .u64 (v : Int))] 47)).drew.grownBy W8 (Value.slice ia il ic).ownBlock → (v8.ownBlock = (Value.slice ia il ic).ownBlock ∨ v8.ownBlock = some (W2.alloc (.cells #[(.int .u64 (v : Int))] 47)).drew.heap.size) →
        (W8.cell? ⟨p, 2, none⟩ = some (.slice (some ⟨hg, 0, none⟩) N hc) ∧ W8.cell? ⟨s, 3, none⟩ = some (.int .u64 (v : Int)) ∧ W8.cell? ⟨hg, w, none⟩ = some (.slice ia il ic)) ∧ W8.frozen? ⟨hg, w, none⟩ = false ∧
        (PlL (W8.setCell ⟨hg, w, none⟩ v8) p b { K with hs := K.hs.set w v8 } { B with seen := B.seen.set w v, held := B.held.set w (l ++ [v]) } ∧ Gr (FootR (rowsOf K B)) W1 (W8.setCell ⟨hg, w, none⟩ v8) ∧ (∀ k, FootP p { K with hs := K.hs.set w v8 } { B with seen := B.seen.set w v, held := B.held.set w (l ++ [v]) } k → FootP p K B k ∨ s ≤ k) ∧ (W8.setCell ⟨hg, w, none⟩ v8).cell? ⟨s, 3, none⟩ = some (.int .u64 (v : Int))) := by
    have hpl3 := hpl2.below hB3
    refine ⟨⟨(hB3.cell hp2).trans hc2, (hB3.cell hs2).trans hcs, (hB3.cell hh2).trans chw⟩, ownsRow_of_block hown (fun g hg3 => by obtain ⟨c, hc3⟩ := own_type hown hg3; exact hB3.block g (lt_of_heap hc3)), cell_oneP W2 _ _, fun v8 W8 ho8 hg8 hl8 => ?_⟩
    have hsz3 : (W2.alloc (.cells #[(.int .u64 (v : Int))] 47)).drew.heap.size = W2.heap.size + 1 := by show (W2.alloc _).heap.size = _; simp
    have kp : ∀ g, g < W2.heap.size → (∀ q, (Value.slice ia il ic).ownBlock = some q → q ≠ g) → W8.heap[g]? = W2.heap[g]? := fun g h1 h2 => (hg8.block g (by rw [hsz3]; omega) (fun e => h2 g e.symm rfl)).trans (hB3.block g h1)
    have kpp := kp p hp2 (fun q hq => (hnev q hq).1)
    have kps := kp s hs2 (fun q hq => (hnev q hq).2.1)
    have kph := kp hg hh2 (fun q hq => (hnev q hq).2.2)
    obtain ⟨t1, t2, t3⟩ := hpl3.app_held (x := v) HLD.out hv0 ehv (by show B.held.length = N; exact HH.out) hg8 (by rw [hil, hxs]; exact ho8) hl8
    obtain ⟨ch, th, hc3, _⟩ := hpl2.own.lt ffh
    have hshg : s ≠ hg := fun e => HSN.out hg (.inr (hfB hg ffh)) e.symm
    refine ⟨⟨(World.cell?_of_block kpp).trans hc2, (World.cell?_of_block kps).trans hcs, (World.cell?_of_block kph).trans chw⟩, froz8 (kph.trans hc3) w, t1, ?_, fun k hk => ?_, (World.cell?_of_block ((heap_set_ne W8 hg w s v8 hshg).trans kps)).trans hcs⟩
    · exact (HG2.out.trans (Gr.of_below hB3 : Gr (FootR (rowsOf K B)) _ _) (fun i h => .inl h)).trans (t2.mono (fun k hk => hfB k hk)) (fun i h => .inl h)
    · rcases t3 k hk with h4 | h4
      · rcases h4 with h5 | h5
        · exact .inl (.inl h5)
        · exact .inl (.inr (hfB k h5))
      · exact .inr (by rw [hsz3] at h4; omega)
  have s8 : W2.drew.cell? ⟨p, 2, none⟩ = some (.slice (some ⟨hg, 0, none⟩) N hc) ∧ W2.drew.cell? ⟨s, 3, none⟩ = some (.int .u64 (v : Int)) ∧ W2.drew.cell? ⟨hg, w, none⟩ = some (.slice ia il ic) := ⟨hc2, hcs, chw⟩
  have A8 := hide a8
  have S8 := hide s8
  have IX2 := hide (fun X => by have h := index_rows hg 0 w N hc hwN X; rwa [Nat.zero_add] at h : ∀ X : World, (Instr.indexAt 30 (.slice (some ⟨hg, 0, none⟩) N hc) (.int .i64 (w : Int))).run Try.prog X = .ok (.pointer (some ⟨hg, w, none⟩)) X)
  have ilI : (il : Int) ≤ 1399000000000 := by omega
  clear a8 s8 hpl2 hc2 hcs hp2 hs2 hh2 hfB hnev hB3 hown chw fhw fv0 ffh ehv hv0 hbw2 hsz2 H2 HG2 hxs IX1 HBX HSZ
  have HIL := hide hil
  clear hil
  go_wp2_with (fail)
  refine wp_region_early 17 (fun Y => Y.cell? ⟨p, 2, none⟩ = some (.slice (some ⟨hg, 0, none⟩) N hc) ∧ Y.cell? ⟨s, 3, none⟩ = some (.int .u64 (v : Int)) ∧ Y.cell? ⟨hg, w, none⟩ = some (.slice ia il ic)) (by kernel_rfl) S8.out (fun hS => ?_)
  refine wpAnyE_take (i := 0) (v := (.pointer (some ⟨p, 0, none⟩))) rfl (by kernel_rfl) (by kernel_rfl) (by kernel_rfl) (by kernel_rfl) (fun _ _ _ h => h) (Or.inl ⟨by kernel_rfl, fun w' hw => by (go_simp)⟩) hS ?_
  refine wpAnyE_take (i := 1) (v := (.pointer (some ⟨p, 0, none⟩))) rfl (by kernel_rfl) (by kernel_rfl) (by kernel_rfl) (by kernel_rfl) (fun _ _ _ h => h) (Or.inl ⟨by kernel_rfl, fun w' hw => by (go_simp)⟩) hS ?_
  refine wpAnyE_take (i := 2) (v := (.pointer (some ⟨p, 2, none⟩))) rfl (by kernel_rfl) (by kernel_rfl) (by kernel_rfl) (by kernel_rfl) (fun _ _ _ h => h) (Or.inl ⟨by kernel_rfl, fun w' hw => by (go_simp)⟩) hS ?_
  refine wpAnyE_take (i := 3) (v := (.slice (some ⟨hg, 0, none⟩) N hc)) rfl (by kernel_rfl) (by kernel_rfl) (by kernel_rfl) (by kernel_rfl) (fun _ _ _ h => h) (Or.inl ⟨by kernel_rfl, fun w' hw => by (obtain ⟨z0, z1, z2⟩ := hw; go_simp)⟩) hS ?_
  refine wpAnyE_take (i := 4) (v := (.int .i64 (w : Int))) rfl (by kernel_rfl) (by kernel_rfl) (by kernel_rfl) (by kernel_rfl) (fun _ _ _ h => h) (Or.inl ⟨by kernel_rfl, fun w' hw => by (go_simp)⟩) hS ?_
  refine wpAnyE_take (i := 5) (v := (.pointer (some ⟨p, 0, none⟩))) rfl (by kernel_rfl) (by kernel_rfl) (by kernel_rfl) (by kernel_rfl) (fun _ _ _ h => h) (Or.inl ⟨by kernel_rfl, fun w' hw => by (go_simp)⟩) hS ?_
  refine wpAnyE_take (i := 6) (v := (.pointer (some ⟨p, 0, none⟩))) rfl (by kernel_rfl) (by kernel_rfl) (by kernel_rfl) (by kernel_rfl) (fun _ _ _ h => h) (Or.inl ⟨by kernel_rfl, fun w' hw => by (go_simp)⟩) hS ?_
  refine wpAnyE_take (i := 7) (v := (.pointer (some ⟨p, 2, none⟩))) rfl (by kernel_rfl) (by kernel_rfl) (by kernel_rfl) (by kernel_rfl) (fun _ _ _ h => h) (Or.inl ⟨by kernel_rfl, fun w' hw => by (go_simp)⟩) hS ?_
  refine wpAnyE_take (i := 8) (v := (.slice (some ⟨hg, 0, none⟩) N hc)) rfl (by kernel_rfl) (by kernel_rfl) (by kernel_rfl) (by kernel_rfl) (fun _ _ _ h => h) (Or.inl ⟨by kernel_rfl, fun w' hw => by (obtain ⟨z0, z1, z2⟩ := hw; go_simp)⟩) hS ?_
  refine wpAnyE_take (i := 9) (v := (.int .i64 (w : Int))) rfl (by kernel_rfl) (by kernel_rfl) (by kernel_rfl) (by kernel_rfl) (fun _ _ _ h => h) (Or.inl ⟨by kernel_rfl, fun w' hw => by (go_simp)⟩) hS ?_
  refine wpAnyE_take (i := 10) (v := (.pointer (some ⟨hg, w, none⟩))) rfl (by kernel_rfl) (by kernel_rfl) (by kernel_rfl) (by kernel_rfl) (fun _ _ _ h => h) (Or.inl ⟨by kernel_rfl, fun w' hw => by (have e := IX2.out w'; go_simp)⟩) hS ?_
  refine wpAnyE_take (i := 11) (v := (.slice ia il ic)) rfl (by kernel_rfl) (by kernel_rfl) (by kernel_rfl) (by kernel_rfl) (fun _ _ _ h => h) (Or.inl ⟨by kernel_rfl, fun w' hw => by (obtain ⟨z0, z1, z2⟩ := hw; go_simp)⟩) hS ?_
  refine wpAnyE_take (i := 12) (v := (.pointer (some ⟨s, 3, none⟩))) rfl (by kernel_rfl) (by kernel_rfl) (by kernel_rfl) (by kernel_rfl) (fun _ _ _ h => h) (Or.inl ⟨by kernel_rfl, fun w' hw => by (go_simp)⟩) hS ?_
  refine wpAnyE_take (i := 13) (v := (.int .u64 (v : Int))) rfl (by kernel_rfl) (by kernel_rfl) (by kernel_rfl) (by kernel_rfl) (fun _ _ _ h => h) (Or.inl ⟨by kernel_rfl, fun w' hw => by (obtain ⟨z0, z1, z2⟩ := hw; go_simp)⟩) hS ?_
  refine wpAnyE_do (i := 14) (by kernel_rfl) rfl (by kernel_rfl) (fun K hK => ?_)
  go_simp
  refine hK.out _ _ (fun _ => A8.out.1) ?_
  clear hK K
  refine wpAnyE_do (i := 15) (by kernel_rfl) rfl (by kernel_rfl) (fun K hK => ?_)
  refine wp_append_at (.tmp 45) (.tmp 48) 29 (by kernel_rfl) 0 47 i0 (.int .u64 0) 1 8 Try.underlying29 hi0 hz0 hz1 hz2 (by rfl) (by decide) (.slice ia il ic) il xs (by kernel_rfl) A8.out.2.1 ⟨W2.heap.size, 0, none⟩ 1 1 [(.int .u64 (v : Int))] (by kernel_rfl) (by simp) A8.out.2.2.1 (by simp [Value.oneCell']) (by unfold maxLen; omega) (by omega) (Nat.zero_le _) ?_
  intro v8 W8 ho8 hg8 _ hl8
  obtain ⟨r0, rf, rp⟩ := A8.out.2.2.2 v8 W8 ho8 hg8 hl8
  obtain ⟨a8, c8, rfl⟩ := own_slice ho8
  have RP := hide rp
  clear ho8 hg8 hl8 rp
  obtain ⟨q0, q1, q2⟩ := r0
  refine hK.out _ _ (fun _ => ⟨q0, q1, q2⟩) ?_
  clear hK K
  refine wpAnyE_take (i := 16) (v := (.pointer (some ⟨hg, w, none⟩))) rfl (by kernel_rfl) (by kernel_rfl) (by kernel_rfl) (by kernel_rfl) (fun _ _ _ h => h) (Or.inl ⟨by kernel_rfl, fun w' hw => by (have e := IX2.out w'; go_simp)⟩) ⟨q0, q1, q2⟩ ?_
  refine wpAnyE_do (i := 17) (by kernel_rfl) rfl (by kernel_rfl) (fun K hK => ?_)
  go_simp
  refine hK.out _ _ (fun h => absurd rfl h) ?_
  clear hK K
  refine wpAnyE_done (by kernel_rfl) ?_ _
  try simp only [Act.put, List.getElem_toArray, List.getElem_cons_zero, List.getElem_cons_succ, List.setIfInBounds_toArray, List.set_cons_zero, List.set_cons_succ]
  obtain ⟨hpl5, hgr5, hft5, hcs5⟩ := RP.out
  have hfo5 : ∀ k, FootP p { K with hs := K.hs.set w (.slice a8 (il + 1) c8) } (bstore B w v) k → FootP p K B k ∨ s ≤ k := fun k hk => by
    refine hft5 k ?_
    rcases hk with h1 | h1
    · exact .inl h1
    · refine .inr (foot_fB (B := { B with seen := B.seen.set w v, held := B.held.set w (l ++ [v]) }) (B' := bstore B w v) ?_ h1)
      show B.held.set w (B.held.getD w [] ++ [v]) = B.held.set w (l ++ [v])
      rw [List.getD_eq_getElem?_getD, HLD.out]
      rfl
  have hu2 : ({ K with hs := K.hs.set w (.slice a8 (il + 1) c8) } : Kl).uv = .slice (some ⟨ug, 0, none⟩) N uc := HLI.out.u
  have hm2 : ({ K with hs := K.hs.set w (.slice a8 (il + 1) c8) } : Kl).mv = .slice (some ⟨mg, 0, none⟩) m mc := HLI.out.m
  generalize ({ K with hs := K.hs.set w (.slice a8 (il + 1) c8) } : Kl) = K2 at *
  generalize W8.setCell ⟨hg, w, none⟩ (.slice a8 (il + 1) c8) = W5 at *
  have hgo : B.held.getD w [] = l := by rw [List.getD_eq_getElem?_getD, HLD.out]; rfl
  clear RP rf q0 q1 q2 hft5 A8 S8 IX2
  obtain ⟨cu, fu⟩ := hpl5.sureC hu2 HX3.out
  have e4 : W5.cell? ⟨p, 4, none⟩ = some (.slice (some ⟨ug, 0, none⟩) N uc) := by rw [← hu2]; exact hpl5.c 4
  have hpl6 := hpl5.set_sure (j := w) (x := false) hu2 HU.out
  have hsu : s ≠ ug := fun e => HSN.out ug (.inr HLI.out.xu) e.symm
  have hsm : s ≠ mg := fun e => HSN.out mg (.inr HLI.out.xm) e.symm
  have e5 : (W5.setCell ⟨ug, w, none⟩ (.bool false)).cell? ⟨p, 5, none⟩ = some (.slice (some ⟨mg, 0, none⟩) m mc) := by rw [← hm2]; exact hpl6.c 5
  obtain ⟨cm, fm⟩ := hpl6.markC hm2 HMK.out
  have hcs6 : (W5.setCell ⟨ug, w, none⟩ (.bool false)).cell? ⟨s, 3, none⟩ = some (.int .u64 (v : Int)) := (World.cell?_of_block (heap_set_ne W5 ug w s _ hsu)).trans hcs5
  have hgr6 : Gr (FootR (rowsOf K B)) W1 (W5.setCell ⟨ug, w, none⟩ (.bool false)) := hgr5.trans (Gr.set _ ug w _ (X := FootR (rowsOf K B)) HLI.out.xu) (fun i h => .inl h)
  have ixu := fun X => index_bool ug 0 w N uc hwN X
  have ixm := fun X => index_ints mg 0 l8 m mc HLM.out X
  simp only [Nat.zero_add] at ixu ixm
  by_cases hone : mk = 1
  · subst hone
    have hpl7 := hpl6.set_mark (j := l8) (x := 2) hm2 HM.out
    have hcs7 : ((W5.setCell ⟨ug, w, none⟩ (.bool false)).setCell ⟨mg, l8, none⟩ (MI 2)).cell? ⟨s, 3, none⟩ = some (.int .u64 (v : Int)) := (World.cell?_of_block (heap_set_ne _ mg l8 s _ hsm)).trans hcs6
    have hgr7 : Gr (FootR (rowsOf K B)) W1 ((W5.setCell ⟨ug, w, none⟩ (.bool false)).setCell ⟨mg, l8, none⟩ (MI 2)) := hgr6.trans (Gr.set _ mg l8 _ (X := FootR (rowsOf K B)) HLI.out.xm) (fun i h => .inl h)
    have hpl8 : PlL ((W5.setCell ⟨ug, w, none⟩ (.bool false)).setCell ⟨mg, l8, none⟩ (MI 2)) p b K2 (bstore B w v) := by
      have e : bstore B w v = { seen := B.seen.set w v, held := B.held.set w (l ++ [v]), last := B.last, sure := B.sure.set w false, marks := B.marks.set l8 2 } := by
        unfold bstore
        rw [hgo, HL8.out, if_pos HMK.out]
      rw [e]
      exact hpl7
    have s12 : ((W5.setCell ⟨ug, w, none⟩ (.bool false)).setCell ⟨mg, l8, none⟩ (MI 2)).drew.cell? ⟨p, 0, none⟩ = some (.pointer (some ⟨b, 0, none⟩)) ∧ ((W5.setCell ⟨ug, w, none⟩ (.bool false)).setCell ⟨mg, l8, none⟩ (MI 2)).drew.cell? ⟨s, 3, none⟩ = some (.int .u64 (v : Int)) := ⟨hpl8.c 0, hcs7⟩
    have k12 := KS.out _ K2 hpl8.drew hgr7.drewR hfo5
    rw [s12.1, s12.2] at k12
    have K12 := hide k12
    have S12 := hide s12
    unfold MI at K12 S12
    clear k12 s12 hpl5 hgr5 hcs5 hfo5 hpl6 hcs6 hgr6 hpl7 hcs7 hgr7 hpl8 hgo HSN HLI KS
    go_wp2_with (fail)
    refine wp_region_held_drew (S := fun Y => Y.cell? ⟨p, 0, none⟩ = some (.pointer (some ⟨b, 0, none⟩)) ∧ Y.cell? ⟨s, 3, none⟩ = some (.int .u64 (v : Int))) (by kernel_rfl) S12.out (fun hS => ?_)
    refine wpAnyH_take (i := 0) (v := (.pointer (some ⟨p, 0, none⟩))) rfl (by kernel_rfl) (by kernel_rfl) (by kernel_rfl) (fun _ _ _ h => h) (Or.inl ⟨by kernel_rfl, fun w' hw => by (go_simp)⟩) hS ?_
    refine wpAnyH_take (i := 1) (v := (.pointer (some ⟨p, 0, none⟩))) rfl (by kernel_rfl) (by kernel_rfl) (by kernel_rfl) (fun _ _ _ h => h) (Or.inl ⟨by kernel_rfl, fun w' hw => by (go_simp)⟩) hS ?_
    refine wpAnyH_take (i := 2) (v := (.pointer (some ⟨p, 0, none⟩))) rfl (by kernel_rfl) (by kernel_rfl) (by kernel_rfl) (fun _ _ _ h => h) (Or.inl ⟨by kernel_rfl, fun w' hw => by (go_simp)⟩) hS ?_
    refine wpAnyH_take (i := 3) (v := (.pointer (some ⟨b, 0, none⟩))) rfl (by kernel_rfl) (by kernel_rfl) (by kernel_rfl) (fun _ _ _ h => h) (Or.inl ⟨by kernel_rfl, fun w' hw => by (obtain ⟨z0, z1⟩ := hw; go_simp)⟩) hS ?_
    refine wpAnyH_take (i := 4) (v := (.int .i64 (w : Int))) rfl (by kernel_rfl) (by kernel_rfl) (by kernel_rfl) (fun _ _ _ h => h) (Or.inl ⟨by kernel_rfl, fun w' hw => by (go_simp)⟩) hS ?_
    refine wpAnyH_take (i := 5) (v := (.int .i64 (8 * (w : Int)))) rfl (by kernel_rfl) (by kernel_rfl) (by kernel_rfl) (fun _ _ _ h => h) (Or.inl ⟨by kernel_rfl, fun w' hw => by (have wr8 := WR8.out; go_simp)⟩) hS ?_
    refine wpAnyH_take (i := 6) (v := (.pointer (some ⟨s, 3, none⟩))) rfl (by kernel_rfl) (by kernel_rfl) (by kernel_rfl) (fun _ _ _ h => h) (Or.inl ⟨by kernel_rfl, fun w' hw => by (go_simp)⟩) hS ?_
    refine wpAnyH_take (i := 7) (v := (.int .u64 (v : Int))) rfl (by kernel_rfl) (by kernel_rfl) (by kernel_rfl) (fun _ _ _ h => h) (Or.inl ⟨by kernel_rfl, fun w' hw => by (obtain ⟨z0, z1⟩ := hw; go_simp)⟩) hS ?_
    refine wpAnyH_goS (i := 8) (by kernel_rfl) rfl (by kernel_rfl) (fun K hK => ?_)
    go_wp2_with (go_at_call 14; refine (K12.out).mono ?_; rintro e WB ⟨c, rfl, hr, hp0, hs3⟩; have HR := hide hr; clear hr)
    refine hK.out _ _ ⟨hp0, hs3⟩ ?_
    clear hK K
    refine wpAnyH_take (i := 9) (v := (.bool (decide (c = 0)))) rfl (by kernel_rfl) (by kernel_rfl) (by kernel_rfl) (fun _ _ _ h => h) (Or.inl ⟨by kernel_rfl, fun w' hw => by (go_simp; rfl)⟩) ⟨hp0, hs3⟩ ?_
    refine wpAnyH_take (i := 10) (v := (.bool (decide (c = 0)))) rfl (by kernel_rfl) (by kernel_rfl) (by kernel_rfl) (fun _ _ _ h => h) (Or.inl ⟨by kernel_rfl, fun w' hw => by (go_simp)⟩) ⟨hp0, hs3⟩ ?_
    refine wpAnyH_done (by kernel_rfl) ?_ _
    simp only [Act.put, List.getElem_toArray, List.getElem_cons_zero, List.getElem_cons_succ, List.setIfInBounds_toArray, List.set_cons_zero, List.set_cons_succ]
    go_wp2_with (fail)
    go_ret
    exact ⟨c, _, rfl, HR.out⟩
  · have mkI : ¬ (mk : Int) = 1 := by omega
    have hpl8 : PlL (W5.setCell ⟨ug, w, none⟩ (.bool false)) p b K2 (bstore B w v) := by
      have e : bstore B w v = { seen := B.seen.set w v, held := B.held.set w (l ++ [v]), last := B.last, sure := B.sure.set w false, marks := B.marks } := by
        unfold bstore
        rw [hgo, HL8.out, if_neg (by rw [HMK.out]; simpa using hone)]
      rw [e]
      exact hpl6
    have s12 : (W5.setCell ⟨ug, w, none⟩ (.bool false)).drew.cell? ⟨p, 0, none⟩ = some (.pointer (some ⟨b, 0, none⟩)) ∧ (W5.setCell ⟨ug, w, none⟩ (.bool false)).drew.cell? ⟨s, 3, none⟩ = some (.int .u64 (v : Int)) := ⟨hpl8.c 0, hcs6⟩
    have k12 := KS.out _ K2 hpl8.drew hgr6.drewR hfo5
    rw [s12.1, s12.2] at k12
    have K12 := hide k12
    have S12 := hide s12
    clear k12 s12 hpl5 hgr5 hcs5 hfo5 hpl6 hcs6 hgr6 hpl8 hgo HSN HLI KS
    go_wp2_with (fail)
    refine wp_region_held_drew (S := fun Y => Y.cell? ⟨p, 0, none⟩ = some (.pointer (some ⟨b, 0, none⟩)) ∧ Y.cell? ⟨s, 3, none⟩ = some (.int .u64 (v : Int))) (by kernel_rfl) S12.out (fun hS => ?_)
    refine wpAnyH_take (i := 0) (v := (.pointer (some ⟨p, 0, none⟩))) rfl (by kernel_rfl) (by kernel_rfl) (by kernel_rfl) (fun _ _ _ h => h) (Or.inl ⟨by kernel_rfl, fun w' hw => by (go_simp)⟩) hS ?_
    refine wpAnyH_take (i := 1) (v := (.pointer (some ⟨p, 0, none⟩))) rfl (by kernel_rfl) (by kernel_rfl) (by kernel_rfl) (fun _ _ _ h => h) (Or.inl ⟨by kernel_rfl, fun w' hw => by (go_simp)⟩) hS ?_
    refine wpAnyH_take (i := 2) (v := (.pointer (some ⟨p, 0, none⟩))) rfl (by kernel_rfl) (by kernel_rfl) (by kernel_rfl) (fun _ _ _ h => h) (Or.inl ⟨by kernel_rfl, fun w' hw => by (go_simp)⟩) hS ?_
    refine wpAnyH_take (i := 3) (v := (.pointer (some ⟨b, 0, none⟩))) rfl (by kernel_rfl) (by kernel_rfl) (by kernel_rfl) (fun _ _ _ h => h) (Or.inl ⟨by kernel_rfl, fun w' hw => by (obtain ⟨z0, z1⟩ := hw; go_simp)⟩) hS ?_
    refine wpAnyH_take (i := 4) (v := (.int .i64 (w : Int))) rfl (by kernel_rfl) (by kernel_rfl) (by kernel_rfl) (fun _ _ _ h => h) (Or.inl ⟨by kernel_rfl, fun w' hw => by (go_simp)⟩) hS ?_
    refine wpAnyH_take (i := 5) (v := (.int .i64 (8 * (w : Int)))) rfl (by kernel_rfl) (by kernel_rfl) (by kernel_rfl) (fun _ _ _ h => h) (Or.inl ⟨by kernel_rfl, fun w' hw => by (have wr8 := WR8.out; go_simp)⟩) hS ?_
    refine wpAnyH_take (i := 6) (v := (.pointer (some ⟨s, 3, none⟩))) rfl (by kernel_rfl) (by kernel_rfl) (by kernel_rfl) (fun _ _ _ h => h) (Or.inl ⟨by kernel_rfl, fun w' hw => by (go_simp)⟩) hS ?_
    refine wpAnyH_take (i := 7) (v := (.int .u64 (v : Int))) rfl (by kernel_rfl) (by kernel_rfl) (by kernel_rfl) (fun _ _ _ h => h) (Or.inl ⟨by kernel_rfl, fun w' hw => by (obtain ⟨z0, z1⟩ := hw; go_simp)⟩) hS ?_
    refine wpAnyH_goS (i := 8) (by kernel_rfl) rfl (by kernel_rfl) (fun K hK => ?_)
    go_wp2_with (go_at_call 14; refine (K12.out).mono ?_; rintro e WB ⟨c, rfl, hr, hp0, hs3⟩; have HR := hide hr; clear hr)
    refine hK.out _ _ ⟨hp0, hs3⟩ ?_
    clear hK K
    refine wpAnyH_take (i := 9) (v := (.bool (decide (c = 0)))) rfl (by kernel_rfl) (by kernel_rfl) (by kernel_rfl) (fun _ _ _ h => h) (Or.inl ⟨by kernel_rfl, fun w' hw => by (go_simp; rfl)⟩) ⟨hp0, hs3⟩ ?_
    refine wpAnyH_take (i := 10) (v := (.bool (decide (c = 0)))) rfl (by kernel_rfl) (by kernel_rfl) (by kernel_rfl) (fun _ _ _ h => h) (Or.inl ⟨by kernel_rfl, fun w' hw => by (go_simp)⟩) ⟨hp0, hs3⟩ ?_
    refine wpAnyH_done (by kernel_rfl) ?_ _
    simp only [Act.put, List.getElem_toArray, List.getElem_cons_zero, List.getElem_cons_succ, List.setIfInBounds_toArray, List.set_cons_zero, List.set_cons_succ]
    go_wp2_with (fail)
    go_ret
    exact ⟨c, _, rfl, HR.out⟩
end Go.Proofs.Ytmgeokmgidnneaa
namespace Go.Proofs.Ytmgeokmgidnneaa
open Go.RowKit Go.Shelf
set_option linter.unusedVariables false

/-- The lines of a device, as a row of their own. -/
def SeenAt (w : World) (g n cp : Nat) (tl : List Value) (bs : List Nat) : Prop := w.heap[g]? = some (.cells (bs.map B8 ++ tl).toArray 69 (0, 0))
set_option maxRecDepth 100000 in
theorem pcloneC {w : World} {b : Nat} {L : Lay} {σ : St} (h : DevL w b L σ) (hok : σ.Ok) :
    Calls Try.prog 25 #[.slice (some ⟨L.sb, 0, none⟩) σ.n L.cp] w fun e w' => ∃ g cp tl, e = .returned (.slice (some ⟨g, 0, none⟩) σ.n cp) ∧ SeenAt w' g σ.n cp tl σ.bytes ∧ w.heap.size ≤ g ∧ Below w.heap.size w w' := by
  have hI : (Try.prog.info? 69).map (fun i => (i.zero.map (·.cells), i.size, i.bytes)) = some (some (Array.replicate 64 (Value.int .u8 0)), 64, 64) := by kernel_rfl
  obtain ⟨it, hit, hz'⟩ := Option.map_eq_some_iff.1 hI
  simp only [Prod.mk.injEq] at hz'
  obtain ⟨hz1, h64, hb64⟩ := hz'
  obtain ⟨z, hz, hzc⟩ := Option.map_eq_some_iff.1 hz1
  have hzs : z.cells.size = 64 := by rw [hzc]; simp
  have hA : Below w.heap.size w (w.alloc (.cells #[] 69)) := (Below.refl _ w).alloc (Nat.le_refl _) _
  have ho : (w.alloc (.cells #[] 69)).ownsRow w.heap.size 69 64 (.slice (some ⟨w.heap.size, 0, none⟩) 0 0) 0 [] := ⟨rfl, .inr ⟨w.heap.size, 0, #[], rfl, Nat.le_refl _, heapNew w _, Nat.le_refl _, Nat.zero_le _, rfl, rfl⟩⟩
  have hl : (σ.bytes.map B8).length = σ.n * 64 := by rw [List.length_map, hok.len, Nat.mul_comm]
  have hn' : ∀ j u, (σ.bytes.map B8)[j]? = some u → (w.alloc (.cells #[] 69)).cell? ((⟨L.sb, 0, none⟩ : Addr).add j) = some u := fun j u hu => by
    have hj := (List.getElem?_eq_some_iff.1 hu).1
    have h5 : w.cell? ((⟨L.sb, 0, none⟩ : Addr).add j) = some u := by
      rw [Addr.add_mid, Nat.zero_add]
      refine (cell8 h.seen j).trans ?_
      rw [List.getElem?_toArray, List.getElem?_append_left hj]
      exact hu
    exact (hA.cell (World.block_lt_of_cell? _ _ h5)).trans h5
  have hbs : (Instr.buildSlice 60 0 #[]).run Try.prog w = .ok (.slice (some ⟨w.heap.size, 0, none⟩) 0 0) (w.alloc (.cells #[] 69)) := by
    simp [Instr.buildSlice, run_underlying Try.underlying60, sizeOf, typeInfo, hit, Instr.fill, newRow]
    rw [show Array.map (fun (_ : Nat) => (default : Value)) (Array.range 0) = #[] from Array.eq_empty_of_size_eq_zero (by simp)]
  have hq : (binOp .eql 60 (.slice (some ⟨L.sb, 0, none⟩) σ.n L.cp) (.slice none 0 0)).run Try.prog w = .ok (.bool false) w := by
    have h : ∀ d : Nat, (Op.equalIn (d + 1) 60 (.slice (some ⟨L.sb, 0, none⟩) σ.n L.cp) (.slice none 0 0)).run Try.prog w = .ok false w := fun d => by
      simp [Op.equalIn, run_underlying Try.underlying60]
    simp only [binOp]
    simp [Op.equal, Op.maxDepth, h 9999]
  have hmx := hok.max
  have h1 := B8_cell σ.bytes
  have HA := hide hA
  have HO := hide ho
  have HN := hide hn'
  clear hA ho hn' hz1 h hok
  go_enter Try.func25, Try.ntmps25
  go_wp2_with (at_builtin; refine wpList_append_own_at _ rfl _ _ 60 rfl w.heap.size 69 it z 64 64 Try.underlying60 hit hz h64 hb64 hzs (by decide) (.slice (some ⟨w.heap.size, 0, none⟩) 0 0) 0 [] rfl HO.out ⟨L.sb, 0, none⟩ σ.n L.cp (σ.bytes.map B8) rfl hl HN.out h1 (by unfold maxLen; omega) (by omega) (by simp) ?_; intro v1 x1 ho2 hg2 hnn hat; clear hnn)
  go_ret
  rw [Nat.zero_add, List.nil_append] at ho2
  have hBx : Below w.heap.size w x1 := ⟨hg2.os.trans HA.out.os, hg2.tape.trans HA.out.tape, hg2.output.trans HA.out.output, Nat.le_trans HA.out.size hg2.size, fun k hk => (hg2.block k (Nat.lt_of_lt_of_le hk HA.out.size) (fun e => by simp [Value.ownBlock] at e; omega)).trans (HA.out.block k hk)⟩
  rcases ho2.2 with ⟨e, _⟩ | ⟨g, cap, cur, rfl, hbg, hg, hnc, hcm, hcs, htk⟩
  · subst e
    rcases hat with e | e <;> simp [Value.ownBlock] at e
  · refine ⟨g, cap, cur.toList.drop (σ.n * 64), rfl, ?_, hbg, hBx⟩
    unfold SeenAt
    rw [hg, ← htk, List.take_append_drop]
set_option maxRecDepth 100000 in
/-- Of no losses that wait a list of its own. -/
theorem pcloneA {w : World} {KB : Nat → Prop} {av : Value} (h : ArmsR w KB av []) :
    Calls Try.prog 28 #[av] w fun e w' => ∃ v', e = .returned v' ∧ ArmsR w' (fun _ => False) v' [] ∧ (∀ g, v'.ownBlock = some g → w.heap.size ≤ g) ∧ Below w.heap.size w w' := by
  have hI : (Try.prog.info? 75).map (fun i => (i.zero.map (·.cells.size), i.size, i.bytes)) = some (some 2, 2, 32) := by kernel_rfl
  obtain ⟨it, hit, hz'⟩ := Option.map_eq_some_iff.1 hI
  simp only [Prod.mk.injEq] at hz'
  obtain ⟨hz1, h2, hb2⟩ := hz'
  obtain ⟨z, hz, hzs⟩ := Option.map_eq_some_iff.1 hz1
  obtain ⟨ks, hkl, ho, _⟩ := h
  have hav : av = .slice none 0 0 ∨ ∃ g cap, av = .slice (some ⟨g, 0, none⟩) 0 cap := by
    rcases ho.2 with ⟨e, _⟩ | ⟨g, cap, cur, e, _⟩
    · exact .inl e
    · exact .inr ⟨g, cap, e⟩
  clear ho hkl
  rcases hav with rfl | ⟨g, cap, rfl⟩
  · have hq : (binOp .eql 57 (.slice none 0 0) (.slice none 0 0)).run Try.prog w = .ok (.bool true) w := by
      have h : ∀ d : Nat, (Op.equalIn (d + 1) 57 (.slice none 0 0) (.slice none 0 0)).run Try.prog w = .ok true w := fun d => by
        simp [Op.equalIn, run_underlying Try.underlying57]
      simp only [binOp]
      simp [Op.equal, Op.maxDepth, h 9999]
    go_enter Try.func28, Try.ntmps28
    go_wp2
    go_ret
    exact ⟨.slice none 0 0, rfl, ArmsR.none _ _, fun g hg => (by cases hg), Below.refl _ _⟩
  · have hq : (binOp .eql 57 (.slice (some ⟨g, 0, none⟩) 0 cap) (.slice none 0 0)).run Try.prog w = .ok (.bool false) w := by
      have h : ∀ d : Nat, (Op.equalIn (d + 1) 57 (.slice (some ⟨g, 0, none⟩) 0 cap) (.slice none 0 0)).run Try.prog w = .ok false w := fun d => by
        simp [Op.equalIn, run_underlying Try.underlying57]
      simp only [binOp]
      simp [Op.equal, Op.maxDepth, h 9999]
    have hA : Below w.heap.size w (w.alloc (.cells #[] 75)) := (Below.refl _ w).alloc (Nat.le_refl _) _
    have ho : (w.alloc (.cells #[] 75)).ownsRow 0 75 2 (.slice (some ⟨w.heap.size, 0, none⟩) 0 0) 0 [] := ⟨rfl, .inr ⟨w.heap.size, 0, #[], rfl, Nat.zero_le _, heapNew w _, Nat.le_refl _, Nat.zero_le _, rfl, rfl⟩⟩
    have hbs : (Instr.buildSlice 57 0 #[]).run Try.prog w = .ok (.slice (some ⟨w.heap.size, 0, none⟩) 0 0) (w.alloc (.cells #[] 75)) := by
      simp [Instr.buildSlice, run_underlying Try.underlying57, sizeOf, typeInfo, hit, Instr.fill, newRow]
      rw [show Array.map (fun (_ : Nat) => (default : Value)) (Array.range 0) = #[] from Array.eq_empty_of_size_eq_zero (by simp)]
    have HA := hide hA
    have HO := hide ho
    clear hA ho hz1
    go_enter Try.func28, Try.ntmps28
    go_wp2_with (at_builtin; refine wpList_append_own_at _ rfl _ _ 57 rfl 0 75 it z 2 32 Try.underlying57 hit hz h2 hb2 hzs (by decide) (.slice (some ⟨w.heap.size, 0, none⟩) 0 0) 0 [] rfl HO.out ⟨g, 0, none⟩ 0 cap [] rfl rfl (fun j u hu => by simp at hu) (by simp) (by unfold maxLen; omega) (by omega) (Nat.zero_le _) ?_; intro v1 x1 ho2 hg2 hnn hat; clear hnn)
    go_ret
    refine ⟨v1, rfl, ⟨[], rfl, ho2, fun i k a h => by simp at h⟩, fun g hg => ?_, ?_⟩
    · rcases hat with e | e <;> (rw [e] at hg; simp [Value.ownBlock] at hg; omega)
    · exact ⟨hg2.os.trans HA.out.os, hg2.tape.trans HA.out.tape, hg2.output.trans HA.out.output, Nat.le_trans HA.out.size hg2.size, fun k hk => (hg2.block k (Nat.lt_of_lt_of_le hk HA.out.size) (fun e => by simp [Value.ownBlock] at e; omega)).trans (HA.out.block k hk)⟩
set_option maxRecDepth 100000 in
set_option maxHeartbeats 1000000 in
/-- A map of its own. -/
theorem pmclone {w : World} {b N : Nat} {f : Int → Option Nat} (h : MapG (plainElem Try.prog 3) numD w b N f) :
    Calls Try.prog 27 #[.map (some b)] w fun e w' => e = .returned (.map (some w.heap.size)) ∧ MapG (plainElem Try.prog 3) numD w' w.heap.size N f ∧ Below w.heap.size w w' := by
  obtain ⟨n, D, hn, hown, hk⟩ := h
  obtain ⟨es, clock, hb, F, hs, hD⟩ := hown
  have hq := fun w => run_eql_map_nil_sl (P := Try.prog) w 62 _ _ (some b) Try.underlying62
  have hB : Below w.heap.size w (w.alloc (.map es clock)) := (Below.refl _ w).alloc (Nat.le_refl _) _
  go_enter Try.func27, Try.ntmps27
  go_wp2
  rw [run_callFunc_extern Try.func46 (by kernel_rfl) (by kernel_rfl) (by kernel_rfl) (e := Extern.MapsClone.clone) (by kernel_rfl), run_maps_clone_sl w 62 hb]
  simp only [Result.andThen]
  rw [Oper.upon_value]
  go_wp2
  rw [run_typeAssert_map_sl _ 62 _ _ _ _ Try.underlying62]
  simp only [Result.andThen]
  rw [Oper.upon_value]
  go_wp2
  go_ret
  exact ⟨rfl, ⟨n, D, hn, ⟨es, clock, (MapKept.heap_alloc w _).1, F, hs, hD⟩, hk⟩, hB⟩
/-- 'm[i] = p', as the last operation of a region whose order is drawn. -/
theorem wp_put_ptr {w : World} {o : Oper} {a : Act} {K : Act → World → Prop} {Q : Exit → Act → World → Prop} (m x v : Operand) (hop : o.op = Op.mapUpdate 61 m x v) (b N : Nat) (f : Int → Option Nat) (hm : a.eval m = .map (some b)) (h : MapG ptrE DataW.held w b N f) (hN : N < maxLen)
    (i : Int) (hx : a.eval x = .int .i64 i) (hi : (Lit.int .i64 i).wf = true) (p : Nat) (hv : a.eval v = .pointer (some ⟨p, 0, none⟩))
    (hK : ∀ w', MapG ptrE DataW.held w' b (N + 1) (fun y => if y = i then some p else f y) → w.grownBy w' (some b) → K (a.put o.dst undef) w') : Oper.wp Try.prog o a w K Q := by
  obtain ⟨n, D, hn, ho, hk⟩ := h
  obtain ⟨w', hrun, r1, r2⟩ := ho.update keyedI Try.underlying61 (by omega) (val := .pointer (some ⟨p, 0, none⟩)) (Maps.keyOf_int_mk Try.underlying3 hi) (d := .held p) (ps := []) rfl
  unfold Oper.wp
  simp [execOp, hop, hm, hx, hv, hrun, Result.andThen]
  exact hK w' ⟨n + 1, _, by omega, r1, put_keys ho.isMap hk i p⟩ r2
set_option maxRecDepth 100000 in
set_option maxHeartbeats 1000000 in
/-- A past of its own. -/
theorem ppclone {w : World} {pb : Nat} {v : Value} {cs : List (List Nat)} (h : PastAt w pb v cs) (hne : cs ≠ []) (hle : cs.length ≤ 1400000000000) :
    Calls Try.prog 26 #[.pointer (some ⟨pb, 0, none⟩)] w fun e w' => ∃ pb' v', e = .returned (.pointer (some ⟨pb', 0, none⟩)) ∧ PastAt w' pb' v' cs ∧ w.heap.size ≤ pb' ∧ (∃ g, v'.ownBlock = some g ∧ w.heap.size ≤ g) ∧ Below w.heap.size w w' := by
  obtain ⟨hb, rs, ho, hex, hrs⟩ := h
  have hrl : rs.length ≤ cs.length := by
    rw [← hex]
    exact exR_len rs hrs
  have hr0 : 1 ≤ rs.length := by
    cases rs with
    | nil => exact absurd hex.symm hne
    | cons => simp
  obtain ⟨g, cap, rfl⟩ : ∃ g cap, v = .slice (some ⟨g, 0, none⟩) rs.length cap := by
    rcases ho.2 with ⟨_, e⟩ | ⟨g, cap, cur, e, _⟩
    · omega
    · exact ⟨g, cap, e⟩
  have hcl : ∀ j u, (rs.flatMap runC)[j]? = some u → w.drew.cell? ((⟨g, 0, none⟩ : Addr).add j) = some u := fun j u hu => ho.cells (g := g) rfl j u hu
  have h1 : ∀ u ∈ rs.flatMap runC, u.oneCell' = true := fun u hu => by
    obtain ⟨r, _, h⟩ := List.mem_flatMap.1 hu
    exact runC_cell r u h
  have kc := pclone_any ⟨g, 0, none⟩ rs.length cap (rs.flatMap runC) w.drew ho.1 hcl h1 (by omega)
  have c0 : w.cell? ⟨pb, 0, none⟩ = some (.slice (some ⟨g, 0, none⟩) rs.length cap) := cell8 hb 0
  have c1 : w.cell? ⟨pb, 1, none⟩ = some (.int .i64 (cs.length : Int)) := cell8 hb 1
  have s0 : w.drew.cell? ⟨pb, 0, none⟩ = some (.slice (some ⟨g, 0, none⟩) rs.length cap) ∧ w.drew.cell? ⟨pb, 1, none⟩ = some (.int .i64 (cs.length : Int)) := ⟨c0, c1⟩
  have KC := hide kc
  have S0 := hide s0
  have HB := hide hb
  have HE := hide hex
  have HR := hide hrs
  clear ho hcl h1 kc s0 hb hex hrs hne c0 c1
  generalize hm : rs.length = m at *
  generalize hq : cs.length = q at *
  have HM := hide hm
  have HQ := hide hq
  clear hm hq
  go_enter Try.func26, Try.ntmps26
  go_wp2_with (fail)
  try go_frame
  refine wp_region_held_drew (S := fun Y => Y.cell? ⟨pb, 0, none⟩ = some (.slice (some ⟨g, 0, none⟩) m cap) ∧ Y.cell? ⟨pb, 1, none⟩ = some (.int .i64 (q : Int))) (by kernel_rfl) S0.out (fun hS => ?_)
  refine wpAnyH_take (i := 0) (v := (Value.pointer (some ⟨pb, 0, none⟩))) rfl (by kernel_rfl) (by kernel_rfl) (by kernel_rfl) (fun _ _ _ h => h) (Or.inl ⟨by kernel_rfl, fun w' hw => by (go_simp)⟩) hS ?_
  refine wpAnyH_take (i := 1) (v := (Value.pointer (some ⟨pb, 0, none⟩))) rfl (by kernel_rfl) (by kernel_rfl) (by kernel_rfl) (fun _ _ _ h => h) (Or.inl ⟨by kernel_rfl, fun w' hw => by (go_simp)⟩) hS ?_
  refine wpAnyH_take (i := 2) (v := (Value.pointer (some ⟨pb, 0, none⟩))) rfl (by kernel_rfl) (by kernel_rfl) (by kernel_rfl) (fun _ _ _ h => h) (Or.inl ⟨by kernel_rfl, fun w' hw => by (go_simp)⟩) hS ?_
  refine wpAnyH_take (i := 3) (v := (Value.slice (some ⟨g, 0, none⟩) m cap)) rfl (by kernel_rfl) (by kernel_rfl) (by kernel_rfl) (fun _ _ _ h => h) (Or.inl ⟨by kernel_rfl, fun w' hw => by (obtain ⟨z0, z1⟩ := hw; go_simp)⟩) hS ?_
  refine wpAnyH_take (i := 5) (v := (Value.pointer (some ⟨pb, 0, none⟩))) rfl (by kernel_rfl) (by kernel_rfl) (by kernel_rfl) (fun _ _ _ h => h) (Or.inl ⟨by kernel_rfl, fun w' hw => by (go_simp)⟩) hS ?_
  refine wpAnyH_take (i := 6) (v := (Value.pointer (some ⟨pb, 0, none⟩))) rfl (by kernel_rfl) (by kernel_rfl) (by kernel_rfl) (fun _ _ _ h => h) (Or.inl ⟨by kernel_rfl, fun w' hw => by (go_simp)⟩) hS ?_
  refine wpAnyH_take (i := 7) (v := (Value.pointer (some ⟨pb, 1, none⟩))) rfl (by kernel_rfl) (by kernel_rfl) (by kernel_rfl) (fun _ _ _ h => h) (Or.inl ⟨by kernel_rfl, fun w' hw => by (go_simp)⟩) hS ?_
  refine wpAnyH_take (i := 8) (v := (Value.int .i64 (q : Int))) rfl (by kernel_rfl) (by kernel_rfl) (by kernel_rfl) (fun _ _ _ h => h) (Or.inl ⟨by kernel_rfl, fun w' hw => by (obtain ⟨z0, z1⟩ := hw; go_simp)⟩) hS ?_
  refine wpAnyH_goS (i := 4) (by kernel_rfl) rfl (by kernel_rfl) (fun K hK => ?_)
  go_wp2_with (go_at_call 45; refine (KC.out).mono ?_; rintro e W4 ⟨v', rfl, ho4, hv4, hB4⟩; obtain ⟨va, vc, rfl⟩ := own_slice ho4; have HO4 := hide ho4; have HV4 := hide hv4; have HB4 := hide (bseq (Below.refl _ w).drew hB4 : Below w.heap.size w W4); clear ho4 hv4 hB4)
  have hS4 : W4.cell? ⟨pb, 0, none⟩ = some (.slice (some ⟨g, 0, none⟩) m cap) ∧ W4.cell? ⟨pb, 1, none⟩ = some (.int .i64 (q : Int)) := ⟨(HB4.out.cell (lt_of_heap HB.out)).trans S0.out.1, (HB4.out.cell (lt_of_heap HB.out)).trans S0.out.2⟩
  refine hK.out _ _ hS4 ?_
  clear hK K
  refine wpAnyH_take (i := 9) (v := (Value.agg #[.slice va m vc, .int .i64 (q : Int)])) rfl (by kernel_rfl) (by kernel_rfl) (by kernel_rfl) (fun _ _ _ h => h) (Or.inl ⟨by kernel_rfl, fun w' hw => by (go_simp)⟩) hS4 ?_
  refine wpAnyH_goS (i := 10) (by kernel_rfl) rfl (by kernel_rfl) (fun K hK => ?_)
  go_wp2_with (fail)
  have hB5 : Below W4.heap.size W4 (W4.alloc (.cells #[.slice va m vc, .int .i64 (q : Int)] 90)) := (Below.refl _ W4).alloc (Nat.le_refl _) _
  have HB5 := hide hB5
  have hlt4 : pb < W4.heap.size := Nat.lt_of_lt_of_le (lt_of_heap HB.out) HB4.out.size
  have hS5 : (W4.alloc (.cells #[.slice va m vc, .int .i64 (q : Int)] 90)).cell? ⟨pb, 0, none⟩ = some (.slice (some ⟨g, 0, none⟩) m cap) ∧ (W4.alloc (.cells #[.slice va m vc, .int .i64 (q : Int)] 90)).cell? ⟨pb, 1, none⟩ = some (.int .i64 (q : Int)) := ⟨(hB5.cell hlt4).trans hS4.1, (hB5.cell hlt4).trans hS4.2⟩
  refine hK.out _ _ hS5 ?_
  clear hK K hB5 hlt4
  refine wpAnyH_take (i := 11) (v := (Value.pointer (some ⟨W4.heap.size, 0, none⟩))) rfl (by kernel_rfl) (by kernel_rfl) (by kernel_rfl) (fun _ _ _ h => h) (Or.inl ⟨by kernel_rfl, fun w' hw => by (go_simp)⟩) hS5 ?_
  refine wpAnyH_done (by kernel_rfl) ?_ _
  simp only [Act.put, List.getElem_toArray, List.getElem_cons_zero, List.getElem_cons_succ, List.setIfInBounds_toArray, List.set_cons_zero, List.set_cons_succ]
  go_wp2_with (fail)
  go_ret
  have hB6 := bseq HB4.out HB5.out
  obtain ⟨gv, hgv, hgl⟩ := HV4.out
  have hgt := own_type HO4.out hgv
  obtain ⟨cg, hcg⟩ := hgt
  refine ⟨W4.heap.size, .slice va m vc, rfl, ⟨?_, rs, ?_, HE.out, HR.out⟩, HB4.out.size, ⟨gv, hgv, hgl⟩, hB6⟩
  · rw [HQ.out]
    exact heapNew W4 _
  · rw [HM.out]
    refine ownsRow_of_block HO4.out fun g' hg' => ?_
    rw [hgv] at hg'
    cases hg'
    exact HB5.out.block _ (lt_of_heap hcg)
end Go.Proofs.Ytmgeokmgidnneaa
namespace Go.Proofs.Ytmgeokmgidnneaa
open Go.RowKit Go.Shelf
set_option linter.unusedVariables false

theorem belowSet {B b o : Nat} {a w : World} (hb : B ≤ b) (v : Value) (h : Below B a w) : Below B a (w.setCell ⟨b, o, none⟩ v) :=
  ⟨h.os, h.tape, h.output, by rw [size_set]; exact h.size, fun k hk => (heap_set_ne _ _ _ _ _ (by omega)).trans (h.block k hk)⟩
theorem RanG.left_le {R : Value → Option (DataW Nat × List MemPlace)} {enc : Nat → DataW Nat} {w : World} {b r N : Nat} {f : Int → Option Nat} {left : Int → Bool} (h : RanG R enc w b r N f left) : w.rangeLeft b r ≤ N := by
  obtain ⟨n, D, l, cnt, hn, ⟨es, clock, since, seen, c0, hb, F, hs, hD, hr, rest⟩, hk, hl⟩ := h
  unfold World.rangeLeft
  rw [hb, hr]
  show (leftOf es seen).size ≤ N
  have : (leftOf es seen).size ≤ es.size := by
    unfold leftOf
    exact Array.size_filter_le
  omega
/-- The pasts that were copied, and where they lie. -/
structure CopP (w : World) (σ : St) (left : Int → Bool) (pb : Nat → Nat) (rv : Nat → Value) (wr : World) : Prop where
  past : ∀ i, σ.past i ≠ [] → left (i : Int) = false → PastAt wr (pb i) (rv i) (σ.past i)
  new : ∀ i, σ.past i ≠ [] → left (i : Int) = false → w.heap.size ≤ pb i ∧ ∃ g, (rv i).ownBlock = some g ∧ w.heap.size ≤ g
  pne : ∀ i j, σ.past i ≠ [] → σ.past j ≠ [] → left (i : Int) = false → left (j : Int) = false → i ≠ j → pb i ≠ pb j
  rne : ∀ i j g, σ.past i ≠ [] → σ.past j ≠ [] → left (i : Int) = false → left (j : Int) = false → i ≠ j → (rv i).ownBlock = some g → (rv j).ownBlock ≠ some g
/-- In the midst of Copy. -/
structure CopR (w : World) (L : Lay) (σ : St) (nb g cp mb r : Nat) (tl : List Value) (dv : Array Value) (wr : World) (left : Int → Bool) (pb : Nat → Nat) (rv : Nat → Value) (k : Nat) : Prop where
  ran : RanG ptrE DataW.held wr L.ob r L.N (oldF L σ) left
  dup : wr.heap[nb]? = some (.cells dv 64 (0, 0))
  seen : SeenAt wr g σ.n cp tl σ.bytes
  map : MapG ptrE DataW.held wr mb k (fun x => if left x = true then none else oldF { L with pb := pb } σ x)
  ps : CopP w σ left pb rv wr
  cnt : k + wr.rangeLeft L.ob r ≤ L.N
  bel : Below w.heap.size w wr
theorem CopR.start {w W0 : World} {nb g cp mb r : Nat} {L : Lay} {σ : St} {tl : List Value} {dv : Array Value} (hd : W0.heap[nb]? = some (.cells dv 64 (0, 0))) (hs : SeenAt W0 g σ.n cp tl σ.bytes) (hm : MapG ptrE DataW.held W0 mb 0 (fun _ => none))
    (hr : RanG ptrE DataW.held W0 L.ob r L.N (oldF L σ) (fun x => (oldF L σ x).isSome)) (hB : Below w.heap.size w W0) : CopR w L σ nb g cp mb r tl dv W0 (fun x => (oldF L σ x).isSome) (fun _ => 0) (fun _ => .slice none 0 0) 0 := by
  have hno : ∀ i, σ.past i ≠ [] → ¬ (oldF L σ (i : Int)).isSome = false := fun i hi => by
    unfold oldF
    rw [if_pos ⟨by omega, by simpa using hi⟩]
    simp
  refine ⟨hr, hd, hs, hm.congr (fun x => ?_), ⟨fun i hi h => absurd h (hno i hi), fun i hi h => absurd h (hno i hi), fun i j hi _ h => absurd h (hno i hi), fun i j g hi _ h => absurd h (hno i hi)⟩, by have := hr.left_le; omega, hB⟩
  show none = _
  split
  · rfl
  · rename_i h
    unfold oldF at h ⊢
    by_cases hc : 0 ≤ x ∧ σ.past x.toNat ≠ []
    · rw [if_pos hc] at h
      exact absurd rfl h
    · rw [if_neg hc]
/-- One line more. -/
theorem CopR.step {w wr w1 W4 W5 : World} {nb g cp mb r i q k : Nat} {L : Lay} {σ : St} {tl : List Value} {dv : Array Value} {left : Int → Bool} {pb : Nat → Nat} {rv : Nat → Value} {v' : Value} (h : CopR w L σ nb g cp mb r tl dv wr left pb rv k)
    (hr : w.heap.size ≤ r) (hm : w.heap.size ≤ mb) (hlo : L.ob < w.heap.size) (hg1 : wr.grownBy w1 (some r)) (hrg : RanG ptrE DataW.held w1 L.ob r L.N (oldF L σ) (fun y => left y && !decide (y = (i : Int)))) (hlt : w1.rangeLeft L.ob r < wr.rangeLeft L.ob r) (hB4 : Below w1.heap.size w1 W4) (hp4 : PastAt W4 q v' (σ.past i)) (hq : w1.heap.size ≤ q) (hv : ∃ g, v'.ownBlock = some g ∧ w1.heap.size ≤ g)
    (hm5 : MapG ptrE DataW.held W5 mb (k + 1) (fun y => if y = (i : Int) then some q else (if left y = true then none else oldF { L with pb := pb } σ y))) (hg5 : W4.grownBy W5 (some mb)) (hpi : σ.past i ≠ []) (hli : left (i : Int) = true) :
    CopR w L σ nb g cp mb r tl dv W5 (fun y => left y && !decide (y = (i : Int))) (fun j => if j = i then q else pb j) (fun j => if j = i then v' else rv j) (k + 1) ∧ W5.rangeLeft L.ob r = w1.rangeLeft L.ob r := by
  obtain ⟨s1, s2, s3, hI⟩ := h.ran.blockI
  obtain ⟨s1', s2', s3', hI1⟩ := hrg.blockI
  obtain ⟨em, qm, hmb⟩ := h.map.block
  have hrm : r ≠ mb := fun e => by rw [e, hmb] at hI; cases hI
  -- blocks that are neither the iterator nor the map are kept
  have hk : ∀ j, j < wr.heap.size → j ≠ r → j ≠ mb → W5.heap[j]? = wr.heap[j]? := fun j hj h1 h2 =>
    (hg5.block j (Nat.lt_of_lt_of_le hj (Nat.le_trans hg1.size hB4.size)) (fun e => h2 (Option.some.inj e))).trans ((hB4.block j (Nat.lt_of_lt_of_le hj hg1.size)).trans (hg1.block j hj (fun e => h1 (Option.some.inj e))))
  have hkc : ∀ (j : Nat) (c : Array Value) (t : TypeId) (f : Nat × Nat), wr.heap[j]? = some (.cells c t f) → W5.heap[j]? = wr.heap[j]? := fun j c t f hj => hk j (lt_of_heap hj) (fun e => by rw [e, hI] at hj; cases hj) (fun e => by rw [e, hmb] at hj; cases hj)
  have h45 : ∀ (j : Nat) (c : Array Value) (t : TypeId) (f : Nat × Nat), W4.heap[j]? = some (.cells c t f) → W5.heap[j]? = W4.heap[j]? := fun j c t f hj => hg5.block j (lt_of_heap hj) (fun e => by
    have e := Option.some.inj e
    have h1 : W4.heap[mb]? = wr.heap[mb]? := (hB4.block mb (Nat.lt_of_lt_of_le (lt_of_heap hmb) hg1.size)).trans (hg1.block mb (lt_of_heap hmb) (fun e => hrm (Option.some.inj e).symm))
    rw [e, h1, hmb] at hj
    cases hj)
  have hB5 : Below w.heap.size w W5 := ⟨hg5.os.trans (hB4.os.trans (hg1.os.trans h.bel.os)), hg5.tape.trans (hB4.tape.trans (hg1.tape.trans h.bel.tape)), hg5.output.trans (hB4.output.trans (hg1.output.trans h.bel.output)), Nat.le_trans h.bel.size (Nat.le_trans hg1.size (Nat.le_trans hB4.size hg5.size)), fun j hj => (hk j (Nat.lt_of_lt_of_le hj h.bel.size) (by omega) (by omega)).trans (h.bel.block j hj)⟩
  have hp5 : PastAt W5 q v' (σ.past i) := hp4.keep (h45 _ _ _ _ hp4.1) (fun g' hg' => by
    obtain ⟨c, hc⟩ := hp4.row hg'
    exact h45 _ _ _ _ hc)
  have hpo : ∀ j, σ.past j ≠ [] → left (j : Int) = false → PastAt W5 (pb j) (rv j) (σ.past j) := fun j hj hl => by
    have hp := h.ps.past j hj hl
    refine hp.keep (hkc _ _ _ _ hp.1) (fun g' hg' => ?_)
    obtain ⟨c, hc⟩ := hp.row hg'
    exact hkc _ _ _ _ hc
  have hdone : ∀ j : Nat, (left (j : Int) && !decide ((j : Int) = (i : Int))) = false → j ≠ i → left (j : Int) = false := fun j hl hji => by
    have : ¬ (j : Int) = (i : Int) := by omega
    simpa [this] using hl
  obtain ⟨gv, hgv, hgs⟩ := hv
  have hrb : W5.heap[r]? = w1.heap[r]? := (hg5.block r (Nat.lt_of_lt_of_le (lt_of_heap hI1) hB4.size) (fun e => hrm (Option.some.inj e))).trans (hB4.block r (lt_of_heap hI1))
  have hob : W5.heap[L.ob]? = w1.heap[L.ob]? := by
    have h1 : L.ob < w1.heap.size := Nat.lt_of_lt_of_le hlo (Nat.le_trans h.bel.size hg1.size)
    exact (hg5.block _ (Nat.lt_of_lt_of_le h1 hB4.size) (fun e => by have := Option.some.inj e; omega)).trans (hB4.block _ h1)
  obtain ⟨hk1, hk2⟩ := hrg.kept hob hrb
  refine ⟨⟨hk1, (hkc _ _ _ _ h.dup).trans h.dup, (hkc _ _ _ _ h.seen).trans h.seen, hm5.congr (fun x => ?_), ⟨fun j hj hl => ?_, fun j hj hl => ?_, fun j j2 hj hj2 hl hl2 hne => ?_, fun j j2 g' hj hj2 hl hl2 hne => ?_⟩, ?_, hB5⟩, hk2⟩
  · by_cases e : x = (i : Int)
    · subst e
      simp [oldF, hpi]
    · simp only [if_neg e, decide_eq_false e, Bool.not_false, Bool.and_true]
      split
      · rfl
      · unfold oldF
        by_cases h0 : 0 ≤ x
        · have e' : ¬ x.toNat = i := by omega
          simp [e']
        · simp [h0]
  · by_cases e : j = i
    · subst e
      simp only [if_true]
      exact hp5
    · simp only [if_neg e]
      exact hpo j hj (hdone j hl e)
  · by_cases e : j = i
    · subst e
      simp only [if_true]
      have := Nat.le_trans h.bel.size hg1.size
      exact ⟨by omega, gv, hgv, by omega⟩
    · simp only [if_neg e]
      exact h.ps.new j hj (hdone j hl e)
  · by_cases e : j = i
    · subst e
      have e2 : ¬ j2 = j := fun h => hne h.symm
      simp only [if_true, if_neg e2]
      have := lt_of_heap (h.ps.past j2 hj2 (hdone j2 hl2 e2)).1
      have := hg1.size
      omega
    · by_cases e2 : j2 = i
      · subst e2
        simp only [if_true, if_neg e]
        have := lt_of_heap (h.ps.past j hj (hdone j hl e)).1
        have := hg1.size
        omega
      · simp only [if_neg e, if_neg e2]
        exact h.ps.pne j j2 hj hj2 (hdone j hl e) (hdone j2 hl2 e2) hne
  · by_cases e : j = i
    · subst e
      have e2 : ¬ j2 = j := fun h => hne h.symm
      simp only [if_true, if_neg e2]
      intro h1 h2
      rw [hgv] at h1; cases h1
      obtain ⟨c, hc⟩ := (h.ps.past j2 hj2 (hdone j2 hl2 e2)).row h2
      have := lt_of_heap hc
      have := hg1.size
      omega
    · by_cases e2 : j2 = i
      · subst e2
        simp only [if_true, if_neg e]
        intro h1 h2
        rw [hgv] at h2; cases h2
        obtain ⟨c, hc⟩ := (h.ps.past j hj (hdone j hl e)).row h1
        have := lt_of_heap hc
        have := hg1.size
        omega
      · simp only [if_neg e, if_neg e2]
        exact h.ps.rne j j2 g' hj hj2 (hdone j hl e) (hdone j2 hl2 e2) hne
  · rw [hk2]
    have := h.cnt
    omega
/-- What Copy has made. -/
theorem CopR.fin {w wr W : World} {nb g cp mb r fb k : Nat} {L : Lay} {σ : St} {tl : List Value} {dv : Array Value} {left : Int → Bool} {pb : Nat → Nat} {rv : Nat → Value} {av : Value} (h : CopR w L σ nb g cp mb r tl dv wr left pb rv k) (hl : ∀ x, left x = false)
    (hd : W.heap[nb]? = some (.cells #[.pointer (some ⟨nb, 0, none⟩), .slice (some ⟨g, 0, none⟩) σ.n cp, .map (some mb), .map (some fb), .int .i64 (σ.ops : Int), av, .int .i64 (σ.cnt : Int), .bool σ.off] 64 (0, 0)))
    (hB : ∀ j, j < wr.heap.size → j ≠ nb → W.heap[j]? = wr.heap[j]?) (hf : MapG (plainElem Try.prog 3) numD W fb L.N (flF σ)) (hfn : wr.heap.size ≤ fb) (ha : ArmsR W (fun _ => False) av []) (harm : σ.arms = []) :
    DevL W nb { L with sb := g, ob := mb, fb := fb, av := av, pb := pb, rv := rv, KB := fun _ => False, cp := cp, tl := tl } σ := by
  have kt : ∀ (j : Nat) (c : Array Value) (t : TypeId) (f : Nat × Nat), wr.heap[j]? = some (.cells c t f) → t ≠ 64 → W.heap[j]? = wr.heap[j]? := fun j c t f hj ht => hB j (lt_of_heap hj) (ne_ty hj h.dup ht)
  obtain ⟨em, qm, hmb⟩ := h.map.block
  have hc := h.cnt
  refine ⟨hd, (kt _ _ _ _ h.seen (by decide)).trans h.seen, ((h.map.of_block (hB _ (lt_of_heap hmb) (ne_map h.dup hmb).symm)).mono (N' := L.N) (by omega)).congr (fun x => ?_), hf, fun i hi => ?_, fun i j hi hj => h.ps.pne i j hi hj (hl _) (hl _), fun i j g' hi hj => h.ps.rne i j g' hi hj (hl _) (hl _), ?_, by rw [harm]; exact ha, fun k hk => absurd hk (fun h => h)⟩
  · rw [hl]
    rfl
  · have hp := h.ps.past i hi (hl _)
    refine hp.keep (kt _ _ _ _ hp.1 (by decide)) (fun g' hg' => ?_)
    obtain ⟨c, hc⟩ := hp.row hg'
    exact kt _ _ _ _ hc (by decide)
  · have := lt_of_heap hmb
    show mb ≠ fb
    omega
end Go.Proofs.Ytmgeokmgidnneaa
namespace Go.Proofs.Ytmgeokmgidnneaa
open Go.RowKit Go.Shelf
set_option linter.unusedVariables false

set_option maxRecDepth 100000 in
set_option maxHeartbeats 2000000 in
theorem pcopy_any {w : World} {b : Nat} {L : Lay} {σ : St} (h : DevL w b L σ) (hok : σ.Ok) (harm : σ.arms = []) (hN : L.N ≤ σ.ops) : Calls Try.prog 7 #[.pointer (some ⟨b, 0, none⟩)] w fun e w' =>
    ∃ b' L', e = .returned (.pointer (some ⟨b', 0, none⟩)) ∧ DevL w' b' L' σ ∧ (∀ k, Foot b' L' σ k → w.heap.size ≤ k) ∧ Below w.heap.size w w' ∧ L'.N ≤ L.N := by
  have kn := pnone_any h
  have hlt := lt_of_heap h.dev
  obtain ⟨aa, ac, hav⟩ : ∃ aa ac, L.av = .slice aa 0 ac := by
    obtain ⟨ks, _, ho, _⟩ := h.arms
    obtain ⟨aa, ac, e⟩ := own_slice ho
    rw [harm] at e
    exact ⟨aa, ac, e⟩
  have c0 := h.c0
  have c1 := h.c1
  have c2 := h.c2
  have c3 := h.c3
  have c4 := h.c4
  have c5 := h.c5
  have c6 := h.c6
  have c7 := h.c7
  rw [hav] at c5
  have KN := hide kn
  have HAV := hide hav
  have HD := hide h
  have HOK := hide hok
  have HARM := hide harm
  have HNN := hide hN
  clear kn h hav hok harm hN
  go_enter Try.func7, Try.ntmps7
  go_upto_region 5 with (first | (go_at_call 24; refine (KN.out).mono ?_; rintro e w' ⟨rfl, hw⟩; obtain rfl := hw.symm))
  have hA : Below w.heap.size w (w.alloc (.cells #[.pointer (some ⟨w.heap.size, 0, none⟩), .slice (some ⟨L.sb, 0, none⟩) σ.n L.cp, .map (some L.ob), .map (some L.fb), .int .i64 (σ.ops : Int), .slice aa 0 ac, .int .i64 (σ.cnt : Int), .bool σ.off] 64)) := (Below.refl _ w).alloc (Nat.le_refl _) _
  have hn0 := heapNew w (.cells #[.pointer (some ⟨w.heap.size, 0, none⟩), .slice (some ⟨L.sb, 0, none⟩) σ.n L.cp, .map (some L.ob), .map (some L.fb), .int .i64 (σ.ops : Int), .slice aa 0 ac, .int .i64 (σ.cnt : Int), .bool σ.off] 64)
  generalize w.alloc (.cells #[.pointer (some ⟨w.heap.size, 0, none⟩), .slice (some ⟨L.sb, 0, none⟩) σ.n L.cp, .map (some L.ob), .map (some L.fb), .int .i64 (σ.ops : Int), .slice aa 0 ac, .int .i64 (σ.cnt : Int), .bool σ.off] 64) = X at *
  obtain ⟨nb, hnb⟩ : ∃ nb, w.heap.size = nb := ⟨_, rfl⟩
  have HNB := hide hnb
  rw [hnb] at hn0 ⊢
  have dX := HD.out.below hA
  have x1 := dX.c1
  have hxl : nb < X.heap.size := lt_of_heap hn0
  have hbn : b ≠ nb := by omega
  have KC := hide (pcloneC dX HOK.out)
  have HA := hide hA
  have HN0 := hide hn0
  have DX := hide dX
  clear hA hn0 dX hnb c0 c1 c2 c3 c4 c5 c6 c7 KN hlt
  go_upto_region 6 with (go_at_call 25; refine (KC.out).mono ?_; rintro e W1 ⟨g, cp, tl, rfl, hsn, hgg, hb1⟩; have h1 := (hb1.block nb hxl).trans HN0.out; have w1 : W1.cell? ⟨nb, 1, none⟩ = _ := cell8 h1 1; have f1 := froz8 h1 1; have HSN := hide hsn; have HB1 := hide hb1; have H1 := hide h1; clear hsn hb1 h1)
  have h2 := heap_set1 W1 nb 1 _ _ (.slice (some ⟨g, 0, none⟩) σ.n cp) H1.out
  have hgn : g ≠ nb := by omega
  have hsn2 : SeenAt (W1.setCell ⟨nb, 1, none⟩ (.slice (some ⟨g, 0, none⟩) σ.n cp)) g σ.n cp tl σ.bytes := (heap_set_ne W1 nb 1 g _ hgn).trans HSN.out
  have hB2 : Below w.heap.size w (W1.setCell ⟨nb, 1, none⟩ (.slice (some ⟨g, 0, none⟩) σ.n cp)) := belowSet (by have := HNB.out; omega) _ (bseq HA.out HB1.out)
  have hg0 : w.heap.size ≤ g := Nat.le_trans HA.out.size hgg
  generalize W1.setCell ⟨nb, 1, none⟩ (.slice (some ⟨g, 0, none⟩) σ.n cp) = X2 at *
  have d2 := HD.out.below hB2
  have x2 := d2.c2
  have hnb2 : nb < X2.heap.size := lt_of_heap h2
  have h3 := (((Below.refl _ X2).alloc (Nat.le_refl _) (.map #[] 0)).block nb hnb2).trans h2
  have w2 : (X2.alloc (.map #[] 0)).cell? ⟨nb, 2, none⟩ = some (.map (some L.ob)) := cell8 h3 2
  have f2 := froz8 h3 2
  have hmk : ∀ n : Nat, (Instr.makeMap 61 (some (.int .i64 (n : Int)))).run Try.prog X2 = .ok (.map (some X2.heap.size)) (X2.alloc (.map #[] 0)) := fun n => by
    simp [Instr.makeMap, run_underlying Try.underlying61, asInt, Sem.run_bind, Result.andThen, go_sem]
  obtain ⟨on, oD, hon, hoo, hok2⟩ := d2.old
  have HOO := hide hoo
  have H2 := hide h2
  have H3 := hide h3
  have HSN2 := hide hsn2
  have HB2 := hide hB2
  have D2 := hide d2
  have HGG := hide hg0
  clear h2 h3 hsn2 hB2 d2 hg0 hoo hok2 hon x1 HSN HB1 H1 HN0 HA DX KC w1 f1 hxl hgg hgn
  go_upto_region 7 with (at_len; refine wpList_len_own _ rfl _ 61 rfl 3 70 Try.underlying61 ptrE L.ob on oD rfl HOO.out ?_)
  have hs3 : (X2.setCell ⟨nb, 2, none⟩ (.map (some X2.heap.size))).heap.size = X2.heap.size := size_set _ _ _
  have hA3 : Below X2.heap.size (X2.setCell ⟨nb, 2, none⟩ (.map (some X2.heap.size))) ((X2.setCell ⟨nb, 2, none⟩ (.map (some X2.heap.size))).alloc (.map #[] 0)) := (Below.refl _ _).alloc (Nat.le_of_eq hs3.symm) _
  have hd3 := (hA3.block nb hnb2).trans (heap_set1 X2 nb 2 _ _ (.map (some X2.heap.size)) H2.out)
  have hgn : g ≠ nb := ne_ty HSN2.out H2.out (by decide)
  have hsn3 : SeenAt ((X2.setCell ⟨nb, 2, none⟩ (.map (some X2.heap.size))).alloc (.map #[] 0)) g σ.n cp tl σ.bytes := (hA3.block g (lt_of_heap HSN2.out)).trans ((heap_set_ne X2 nb 2 g _ hgn).trans HSN2.out)
  have hB3 : Below w.heap.size w ((X2.setCell ⟨nb, 2, none⟩ (.map (some X2.heap.size))).alloc (.map #[] 0)) := (belowSet (by have := HNB.out; omega) _ HB2.out).alloc (by rw [hs3]; exact HB2.out.size) _
  have hm3 := MapG.made ptrE DataW.held (X2.setCell ⟨nb, 2, none⟩ (.map (some X2.heap.size)))
  rw [hs3] at hm3
  have hmb : w.heap.size ≤ X2.heap.size := HB2.out.size
  generalize (X2.setCell ⟨nb, 2, none⟩ (.map (some X2.heap.size))).alloc (.map #[] 0) = X3 at *
  obtain ⟨mb, emb⟩ : ∃ mb, X2.heap.size = mb := ⟨_, rfl⟩
  rw [emb] at hd3 hm3 hmb ⊢
  have d3 := HD.out.below hB3
  have x3 := d3.c2
  have HD3 := hide hd3
  have HM3 := hide hm3
  have HMB := hide hmb
  have HSN3 := hide hsn3
  have HB3 := hide hB3
  have D3 := hide d3
  clear hs3 hA3 hd3 hsn3 hB3 hm3 hmb d3 x2 HOO H2 H3 HSN2 HB2 D2 w2 f2 hmk hgn emb hnb2
  go_wp2_with (at_range; refine wpList_range_ptr rfl (.tmp 28) rfl L.ob L.N (oldF L σ) (by kernel_rfl) D3.out.old ?_; intro W0 hrg0 hg0 hs0; have HRG0 := hide hrg0; have HG0 := hide hg0; have HS0 := hide hs0; clear hrg0 hg0 hs0)
  go_frame
  go_loopw [] (fun wr => ∃ left pb rv k, CopR w L σ nb g cp mb X3.heap.size tl #[.pointer (some ⟨nb, 0, none⟩), .slice (some ⟨g, 0, none⟩) σ.n cp, .map (some mb), .map (some L.fb), .int .i64 (σ.ops : Int), .slice aa 0 ac, .int .i64 (σ.cnt : Int), .bool σ.off] wr left pb rv k) (fun wr => wr.rangeLeft L.ob X3.heap.size)
  case atStart =>
    have hg := HG0.out
    have hk : ∀ j, j < X3.heap.size → W0.heap[j]? = X3.heap[j]? := fun j hj => hg.block j hj (by simp)
    refine ⟨_, _, _, _, CopR.start ((hk _ (lt_of_heap HD3.out)).trans HD3.out) ((hk _ (lt_of_heap HSN3.out)).trans HSN3.out) (HM3.out.of_block (hk _ HM3.out.lt)) HRG0.out ⟨hg.os.trans HB3.out.os, hg.tape.trans HB3.out.tape, hg.output.trans HB3.out.output, Nat.le_trans HB3.out.size hg.size, fun k hk' => (hk k (Nat.lt_of_lt_of_le hk' HB3.out.size)).trans (HB3.out.block k hk')⟩⟩
  case round =>
    obtain ⟨left, pb, rv, k, hF⟩ := hrel
    have HF := hide hF
    clear hF x3
    go_wp2_with (at_next; refine wpList_next_g ptrL rfl (.tmp 29) rfl L.ob X3.heap.size L.N (oldF L σ) left (by kernel_rfl) HF.out.ran ?_ ?_)
    · intro hl0
      have dr := HD.out.below HF.out.bel
      have y3 := dr.c3
      have hnl := lt_of_heap HF.out.dup
      have hbl := lt_of_heap HD.out.dev
      have hn9 := HNB.out
      have KM := hide (pmclone dr.flm)
      have DR := hide dr
      have HL0 := hide hl0
      clear dr hl0
      go_upto_region 12 with (go_at_call 27; refine (KM.out).mono ?_; rintro e W6 ⟨rfl, hm6, hb6⟩; have h6 := (hb6.block nb hnl).trans HF.out.dup; have w6 : W6.cell? ⟨nb, 3, none⟩ = _ := cell8 h6 3; have f6 := froz8 h6 3; have HM6 := hide hm6; have HB6 := hide hb6; have H6 := hide h6; clear hm6 hb6 h6)
      have h7 := heap_set1 W6 nb 3 _ _ (.map (some wr.heap.size)) H6.out
      have hB7 : Below w.heap.size w (W6.setCell ⟨nb, 3, none⟩ (.map (some wr.heap.size))) := belowSet (by omega) _ (bseq HF.out.bel HB6.out)
      have hk7 : ∀ j, j < W6.heap.size → j ≠ nb → (W6.setCell ⟨nb, 3, none⟩ (.map (some wr.heap.size))).heap[j]? = W6.heap[j]? := fun j _ hj => heap_set_ne _ _ _ _ _ hj
      have hs7 : (W6.setCell ⟨nb, 3, none⟩ (.map (some wr.heap.size))).heap.size = W6.heap.size := size_set _ _ _
      generalize W6.setCell ⟨nb, 3, none⟩ (.map (some wr.heap.size)) = X7 at *
      have d7 := HD.out.below hB7
      have y5 := d7.c5
      rw [HAV.out] at y5
      have ha7 := d7.arms
      rw [HARM.out, HAV.out] at ha7
      have KA := hide (pcloneA ha7)
      have hnl7 := lt_of_heap h7
      have H7 := hide h7
      have HB7 := hide hB7
      have HK7 := hide hk7
      have HS7 := hide hs7
      clear h7 hB7 hk7 hs7 d7 ha7 y3 w6 f6
      go_wp2_with (go_at_call 28; refine (KA.out).mono ?_; rintro e W8 ⟨v', rfl, ha8, hv8, hb8⟩; have h8 := (hb8.block nb hnl7).trans H7.out; have w8 : W8.cell? ⟨nb, 5, none⟩ = _ := cell8 h8 5; have f8 := froz8 h8 5; have ha9 := ha8; obtain ⟨ks8, _, ho8, _⟩ := ha9; obtain ⟨va, vc, rfl⟩ := own_slice ho8; have HA8 := hide ha8; have HV8 := hide hv8; have HB8 := hide hb8; have H8 := hide h8; clear ha8 hv8 hb8 h8 ho8)
      go_ret
      have h9 := heap_set1 W8 nb 5 _ _ (.slice va 0 vc) H8.out
      have e7 := HS7.out
      have e6 := HB6.out.size
      have k8 : ∀ j, j < W6.heap.size → j ≠ nb → (W8.setCell ⟨nb, 5, none⟩ (.slice va 0 vc)).heap[j]? = W6.heap[j]? := fun j hj hne => (heap_set_ne _ _ _ _ _ hne).trans ((HB8.out.block j (by omega)).trans (HK7.out j hj hne))
      have hsz := HF.out.bel.size
      refine ⟨nb, _, rfl, CopR.fin HF.out HL0.out h9 (fun j hj hne => (k8 j (by omega) hne).trans (HB6.out.block j hj)) (HM6.out.of_block (k8 _ HM6.out.lt (by omega))) (Nat.le_refl _) (HA8.out.keep (fun g' hg' => heap_set_ne _ _ _ _ _ (by have := HV8.out g' hg'; omega)) (fun g' hg' => absurd hg' (fun h => h))) HARM.out, fun k hk => ?_, belowSet (by omega) _ (bseq HB7.out HB8.out), Nat.le_refl _⟩
      rcases hk with h | h | h | h | ⟨i, hi, h | h⟩ | h | h
      · omega
      · rw [h]; exact HGG.out
      · rw [h]; exact HMB.out
      · rw [h]; exact hsz
      · rw [h]; exact (HF.out.ps.new i hi (HL0.out _)).1
      · obtain ⟨g', hg', hgl⟩ := (HF.out.ps.new i hi (HL0.out _)).2
        have h5 : (rv i).ownBlock = some k := h
        rw [hg'] at h5
        cases h5
        exact hgl
      · have h5 := HV8.out k h
        have h6 := HB7.out.size
        omega
      · exact absurd h (fun h => h)
    · intro x p w1 hwx hfx hlx hrg1 hlt hg1 hs1 hen
      obtain ⟨i, rfl, hpi, rfl⟩ : ∃ i : Nat, x = (i : Int) ∧ σ.past i ≠ [] ∧ p = L.pb i := by
        unfold oldF at hfx
        split at hfx
        · rename_i hc
          exact ⟨x.toNat, by omega, hc.2, (Option.some.inj hfx).symm⟩
        · cases hfx
      have hB1 : Below w.heap.size w w1 := by
        have h5 := HF.out.bel
        have h6 := HB3.out.size
        exact ⟨hg1.os.trans h5.os, hg1.tape.trans h5.tape, hg1.output.trans h5.output, Nat.le_trans h5.size hg1.size, fun j hj => (hg1.block j (Nat.lt_of_lt_of_le hj h5.size) (fun e => by have := Option.some.inj e; omega)).trans (h5.block j hj)⟩
      obtain ⟨s1, s2, s3, hI⟩ := HF.out.ran.blockI
      have hr9 : ∀ (j : Nat) (c : Array Value) (t : TypeId) (f : Nat × Nat), wr.heap[j]? = some (.cells c t f) → w1.heap[j]? = wr.heap[j]? := fun j c t f hj => hg1.block j (lt_of_heap hj) (fun e => by rw [Option.some.inj e, hI] at hj; cases hj)
      have hd1 := (hr9 _ _ _ _ HF.out.dup).trans HF.out.dup
      have hm1 : MapG ptrE DataW.held w1 mb k (fun x => if left x = true then none else oldF { L with pb := pb } σ x) := by
        obtain ⟨em, qm, hmb'⟩ := HF.out.map.block
        exact HF.out.map.of_block (hg1.block mb (lt_of_heap hmb') (fun e => by rw [Option.some.inj e, hI] at hmb'; cases hmb'))
      have hd9 := HD.out.below hB1
      have hfew := HOK.out.few i
      have hopm := HOK.out.opsm
      have hnn := HNN.out
      have hcn := HF.out.cnt
      have s0 : w1.drew.cell? ⟨nb, 2, none⟩ = some (.map (some mb)) := cell8 (w := w1.drew) hd1 2
      have kc := ppclone (w := w1.drew) (hd9.below (Below.refl _ w1).drew |>.pasts i hpi) hpi (by omega)
      have hkN : k < maxLen := by unfold maxLen; omega
      have KC := hide kc
      have S0 := hide s0
      have HM1 := hide hm1
      have HD1 := hide hd1
      have HRG1 := hide hrg1
      have HLT := hide hlt
      have HG1 := hide hg1
      have HPI := hide hpi
      have HLX := hide hlx
      have HKN := hide hkN
      clear kc s0 hm1 hd1 hrg1 hlt hg1 hpi hlx hkN hd9 hfew hopm hnn hcn hr9 hI hB1 hfx hs1
      go_wp2_with (fail)
      try go_frame
      refine wp_region_early 5 (fun X => X.cell? ⟨nb, 2, none⟩ = some (.map (some mb))) (by kernel_rfl) S0.out (fun hS => ?_)
      refine wpAnyE_take (i := 0) (v := (Value.pointer (some ⟨nb, 2, none⟩))) rfl (by kernel_rfl) (by kernel_rfl) (by kernel_rfl) (by kernel_rfl) (fun _ _ _ h => h) (Or.inl ⟨by kernel_rfl, fun w' hw => by (go_simp)⟩) hS ?_
      refine wpAnyE_take (i := 1) (v := (Value.map (some mb))) rfl (by kernel_rfl) (by kernel_rfl) (by kernel_rfl) (by kernel_rfl) (fun _ _ _ h => h) (Or.inl ⟨by kernel_rfl, fun w' hw => by (go_simp)⟩) hS ?_
      refine wpAnyE_take (i := 2) (v := (Value.int .i64 (i : Int))) rfl (by kernel_rfl) (by kernel_rfl) (by kernel_rfl) (by kernel_rfl) (fun _ _ _ h => h) (Or.inl ⟨by kernel_rfl, fun w' hw => by (go_simp)⟩) hS ?_
      refine wpAnyE_take (i := 3) (v := (Value.pointer (some ⟨L.pb i, 0, none⟩))) rfl (by kernel_rfl) (by kernel_rfl) (by kernel_rfl) (by kernel_rfl) (fun _ _ _ h => h) (Or.inl ⟨by kernel_rfl, fun w' hw => by (go_simp; rfl)⟩) hS ?_
      refine wpAnyE_do (i := 4) (by kernel_rfl) rfl (by kernel_rfl) (fun K hK => ?_)
      go_wp2_with (go_at_call 26; refine (KC.out).mono ?_; rintro e W4 ⟨q, v', rfl, hp4, hq4, hv4, hB4⟩; have HP4 := hide hp4; have HQ4 := hide hq4; have HV4 := hide hv4; have HB4 := hide (bseq (Below.refl _ w1).drew hB4 : Below w1.heap.size w1 W4); clear hp4 hq4 hv4 hB4)
      have s4 : W4.cell? ⟨nb, 2, none⟩ = some (.map (some mb)) := (HB4.out.cell (lt_of_heap HD1.out)).trans (cell8 HD1.out 2)
      refine hK.out _ _ (fun _ => s4) ?_
      clear hK K
      refine wpAnyE_last (by kernel_rfl) rfl (by kernel_rfl) (by kernel_rfl) (fun K hK => ?_)
      refine wp_put_ptr (.tmp 36) (.tmp 37) (.tmp 39) (by kernel_rfl) mb k _ (by kernel_rfl) (HM1.out.of_block (HB4.out.block mb HM1.out.lt)) HKN.out (i : Int) (by kernel_rfl) hwx q (by kernel_rfl) ?_
      intro W5 hm5 hg5
      have HM5 := hide hm5
      have HG5 := hide hg5
      clear hm5 hg5
      refine hK.out _ _ ?_
      clear hK K
      simp only [Act.put, List.getElem_toArray, List.getElem_cons_zero, List.getElem_cons_succ]
      go_wp2_with (fail)
      go_roundw
      case rel => exact ⟨_, _, _, _, (CopR.step HF.out HB3.out.size HMB.out HD.out.old.lt HG1.out HRG1.out HLT.out HB4.out HP4.out HQ4.out HV4.out HM5.out HG5.out HPI.out HLX.out).1⟩
      case measure =>
        have h9 := (CopR.step HF.out HB3.out.size HMB.out HD.out.old.lt HG1.out HRG1.out HLT.out HB4.out HP4.out HQ4.out HV4.out HM5.out HG5.out HPI.out HLX.out).2
        rw [h9]
        exact HLT.out
end Go.Proofs.Ytmgeokmgidnneaa
namespace Go.Proofs.Ytmgeokmgidnneaa
open Go.RowKit Go.Shelf
set_option linter.unusedVariables false
attribute [local go_sem] Oper.semAt_some

/-- A word is written; the operation is not yet counted. -/
def wordA (bs : List Nat) (at_ : Nat) (σ : St) (no : Nat) : St := { wordDo bs at_ σ no with ops := σ.ops }
def wordG (bs : List Nat) (at_ : Nat) (σ : St) (no : Nat) : St := tick (wordA bs at_ σ no)
def writeG (bs : List Nat) (at_ : Nat) (σ : St) (nos : List Nat) : St := nos.foldl (wordG bs at_) σ
theorem writeG_snoc (bs : List Nat) (at_ : Nat) (σ : St) (nos : List Nat) (no : Nat) : writeG bs at_ σ (nos ++ [no]) = wordG bs at_ (writeG bs at_ σ nos) no := by simp [writeG, List.foldl_append]
/-- What stays as it is while words are written. -/
structure LikeG (σ σ' : St) (k : Nat) : Prop where
  ok : σ'.Ok
  n : σ'.n = σ.n
  ops : σ'.ops = σ.ops + k
  arms : σ'.arms = σ.arms
  off : σ'.off = σ.off
  cnt : σ'.cnt = if σ.arms = [] then σ.cnt else σ.cnt + k
theorem writeG_like {bs : List Nat} {at_ : Nat} (hbs : ∀ x ∈ bs, x < 256) : ∀ (nos : List Nat) (σ : St), σ.Ok → (∀ no ∈ nos, no / 8 < σ.n) → σ.ops + nos.length ≤ 1400000000000 → LikeG σ (writeG bs at_ σ nos) nos.length
  | [], σ, hok, _, _ => ⟨hok, rfl, rfl, rfl, rfl, by show σ.cnt = if σ.arms = [] then σ.cnt else σ.cnt + 0; split <;> rfl⟩
  | no :: nos, σ, hok, hn, hb => by
    rw [List.length_cons] at hb
    have hi := hn no (by simp)
    obtain ⟨h1, h2⟩ := word_part (at_ := at_) hbs hok hi
    have hok' : (wordG bs at_ σ no).Ok := tick_ok (put_ok hok hi h1 h2 (by omega))
    have ih := writeG_like (at_ := at_) hbs nos (wordG bs at_ σ no) hok' (fun x hx => hn x (by simp [hx])) (by show σ.ops + 1 + nos.length ≤ _; omega)
    refine ⟨ih.ok, ih.n, by rw [List.length_cons]; have h := ih.ops; have h2 : (wordG bs at_ σ no).ops = σ.ops + 1 := rfl; show (writeG bs at_ (wordG bs at_ σ no) nos).ops = _; rw [h, h2]; omega, ih.arms, ih.off, ?_⟩
    have h := ih.cnt
    have h2 : (wordG bs at_ σ no).cnt = if σ.arms = [] then σ.cnt else σ.cnt + 1 := rfl
    have h3 : (wordG bs at_ σ no).arms = σ.arms := rfl
    rw [h3, h2] at h
    show (writeG bs at_ (wordG bs at_ σ no) nos).cnt = _
    rw [h, List.length_cons]
    by_cases e : σ.arms = []
    · simp only [if_pos e]
    · simp only [if_neg e]; omega
/-- What a write leaves, and what is answered. -/
def WrD (bs : List Nat) (at_ : Nat) (σ : St) (nos : List Nat) (c : Int) (σ' : St) : Prop :=
  (c = 0 ∧ σ' = writeG bs at_ σ nos ∧ ∀ af kp, σ.arms = [(af, kp)] → nos ≠ [] → σ.cnt + nos.length < af) ∨
  (c = 5 ∧ ∃ pre no, pre ++ [no] <+: nos ∧ Opd (wordA bs at_ (writeG bs at_ σ pre) no) 5 σ')

set_option maxRecDepth 100000 in
set_option maxHeartbeats 2000000 in
theorem pwriteG_in {w : World} {b at_ cap : Nat} {L : Lay} {σ : St} {a : Option Addr} {bs : List Nat} (h : DevL w b L σ) (hok : σ.Ok) (hN : L.N ≤ σ.ops) (hfw : Few σ) (hcn : σ.cnt + 600000 ≤ 1400000000000) (hsl : Sl w a bs) (hcap : bs.length ≤ cap) (hlen : at_ + bs.length ≤ 64 * σ.n) (hops : σ.ops + 600000 ≤ 1400000000000)
    (haf : ∀ ad, a = some ad → ad.block < w.heap.size ∧ ¬ Foot b L σ ad.block) :
    CallsIn Fence.wide 3 Try.prog 38 #[.pointer (some ⟨b, 0, none⟩), .int .i64 (at_ : Int), .slice a bs.length cap] w fun e w' => ∃ c σ' L', e = .returned (.int .i64 c) ∧ WrD bs at_ σ (wordsOf at_ bs.length) c σ' ∧ DevL w' b L' σ' ∧ (∀ k, Foot b L' σ' k → Foot b L σ k ∨ w.heap.size ≤ k) ∧ Gr (Foot b L σ) w w' ∧ L'.N ≤ L.N + (wordsOf at_ bs.length).length ∧ L'.KB = L.KB ∧ (c = 0 → SameL L L') := by
  have hbs := hsl.lt
  have hnm := hok.max
  have hlen2 : at_ + bs.length ≤ 4194304 := by omega
  have hwl := wordsOf_len hlen2
  have hO := h.old_
  refine callsIn_of_wp_marks Try.func38 rfl trivial ?_ rfl
  simp only [Try.ntmps38, List.size_toArray, List.length_cons, List.length_nil, Nat.reduceAdd, Nat.reduceSub, Array.replicate_succ, Array.replicate_zero, List.push_toArray, List.append_toArray, List.nil_append, List.cons_append]
  gi_wp2_with (refine ⟨trivial, ?_⟩; gi_at_call 31; refine (inW (words_in (at_ : Int) (bs.length : Int) _)).mono ?_; rintro e w' ⟨rfl, rfl⟩)
  have hB0 : Below w.heap.size w ((((((w.alloc (.cells #[.pointer (some ⟨b, 0, none⟩)] 28)).alloc (.cells #[.int .i64 (at_ : Int)] 3)).alloc (.cells #[.slice a bs.length cap] 36)).alloc (.cells #[.int .i64 0] 37)).alloc (.cells #[.int .i64 (at_ : Int)] 3)).alloc (.cells #[.int .i64 (bs.length : Int)] 3)) := ((((((Below.refl _ w).alloc (Nat.le_refl _) _).alloc (by simp) _).alloc (by simp; omega) _).alloc (by simp; omega) _).alloc (by simp; omega) _).alloc (by simp; omega) _
  have hsz : ((((((w.alloc (.cells #[.pointer (some ⟨b, 0, none⟩)] 28)).alloc (.cells #[.int .i64 (at_ : Int)] 3)).alloc (.cells #[.slice a bs.length cap] 36)).alloc (.cells #[.int .i64 0] 37)).alloc (.cells #[.int .i64 (at_ : Int)] 3)).alloc (.cells #[.int .i64 (bs.length : Int)] 3)).heap.size = w.heap.size + 6 := by simp
  have b3 : Boxed ((((((w.alloc (.cells #[.pointer (some ⟨b, 0, none⟩)] 28)).alloc (.cells #[.int .i64 (at_ : Int)] 3)).alloc (.cells #[.slice a bs.length cap] 36)).alloc (.cells #[.int .i64 0] 37)).alloc (.cells #[.int .i64 (at_ : Int)] 3)).alloc (.cells #[.int .i64 (bs.length : Int)] 3)) w.heap.size 28 (.pointer (some ⟨b, 0, none⟩)) := (((((Boxed.new w 28 (.pointer (some ⟨b, 0, none⟩))).alloc _).alloc _).alloc _).alloc _).alloc _
  have b4 := ((((Boxed.new (w.alloc (.cells #[.pointer (some ⟨b, 0, none⟩)] 28)) 3 (.int .i64 (at_ : Int))).alloc (.cells #[.slice a bs.length cap] 36)).alloc (.cells #[.int .i64 0] 37)).alloc (.cells #[.int .i64 (at_ : Int)] 3)).alloc (.cells #[.int .i64 (bs.length : Int)] 3)
  have b5 := (((Boxed.new ((w.alloc (.cells #[.pointer (some ⟨b, 0, none⟩)] 28)).alloc (.cells #[.int .i64 (at_ : Int)] 3)) 36 (.slice a bs.length cap)).alloc (.cells #[.int .i64 0] 37)).alloc (.cells #[.int .i64 (at_ : Int)] 3)).alloc (.cells #[.int .i64 (bs.length : Int)] 3)
  have b6 := ((Boxed.new (((w.alloc (.cells #[.pointer (some ⟨b, 0, none⟩)] 28)).alloc (.cells #[.int .i64 (at_ : Int)] 3)).alloc (.cells #[.slice a bs.length cap] 36)) 37 (.int .i64 0)).alloc (.cells #[.int .i64 (at_ : Int)] 3)).alloc (.cells #[.int .i64 (bs.length : Int)] 3)
  have b7 := (Boxed.new ((((w.alloc (.cells #[.pointer (some ⟨b, 0, none⟩)] 28)).alloc (.cells #[.int .i64 (at_ : Int)] 3)).alloc (.cells #[.slice a bs.length cap] 36)).alloc (.cells #[.int .i64 0] 37)) 3 (.int .i64 (at_ : Int))).alloc (.cells #[.int .i64 (bs.length : Int)] 3)
  have b8 := Boxed.new (((((w.alloc (.cells #[.pointer (some ⟨b, 0, none⟩)] 28)).alloc (.cells #[.int .i64 (at_ : Int)] 3)).alloc (.cells #[.slice a bs.length cap] 36)).alloc (.cells #[.int .i64 0] 37)).alloc (.cells #[.int .i64 (at_ : Int)] 3)) 3 (.int .i64 (bs.length : Int))
  simp only [World.size_alloc] at b4 b5 b6 b7 b8
  obtain ⟨W0, hW0⟩ : ∃ W0, ((((((w.alloc (.cells #[.pointer (some ⟨b, 0, none⟩)] 28)).alloc (.cells #[.int .i64 (at_ : Int)] 3)).alloc (.cells #[.slice a bs.length cap] 36)).alloc (.cells #[.int .i64 0] 37)).alloc (.cells #[.int .i64 (at_ : Int)] 3)).alloc (.cells #[.int .i64 (bs.length : Int)] 3)) = W0 := ⟨_, rfl⟩
  rw [hW0] at b3 b4 b5 b6 b7 b8 hB0 hsz ⊢
  clear hW0
  have hd0 := h.below hB0
  have hsl0 := hsl.below hB0
  apply rangeX (gf := 47) (lb := #[.pointer (some ⟨w.heap.size + 1 + 1 + 1 + 1, 0, none⟩), .pointer (some ⟨w.heap.size + 1 + 1 + 1 + 1 + 1, 0, none⟩)]) (encs := encI) rfl (enters_of Try.func47 (by kernel_rfl) rfl)
    (words_x HP (fun k => k = w.heap.size + 1 + 1 + 1 + 1 ∨ k = w.heap.size + 1 + 1 + 1 + 1 + 1) (w.heap.size + 1 + 1 + 1 + 1) (w.heap.size + 1 + 1 + 1 + 1 + 1) (at_ : Int) (bs.length : Int) W0 (fun k hk => by omega) (.inl rfl) (.inr rfl) (by unfold HP; decide) b7.cell b8.cell (by omega) (by omega)) (Below.refl _ _) (fun k hk => by omega) (fun _ => rfl)
    (fun pre W' => ((Boxed W' w.heap.size 28 (.pointer (some ⟨b, 0, none⟩)) ∧ Boxed W' (w.heap.size + 1) 3 (.int .i64 (at_ : Int))) ∧ (Boxed W' (w.heap.size + 1 + 1) 36 (.slice a bs.length cap) ∧ Boxed W' (w.heap.size + 1 + 1 + 1) 37 (.int .i64 0) ∧ (Boxed W' (w.heap.size + 1 + 1 + 1 + 1) 3 (.int .i64 (at_ : Int)) ∧ Boxed W' (w.heap.size + 1 + 1 + 1 + 1 + 1) 3 (.int .i64 (bs.length : Int))))) ∧ ((Sl W' a bs ∧ Gr (Foot b L σ) W0 W') ∧ ∃ L', DevL W' b L' (writeG bs at_ σ (pre.map Int.toNat)) ∧ (SameL L L' ∧ L'.N ≤ L.N + pre.length ∧ (∀ k, Foot b L' (writeG bs at_ σ (pre.map Int.toNat)) k → Foot b L σ k ∨ w.heap.size ≤ k) ∧ ∀ af kp, σ.arms = [(af, kp)] → pre ≠ [] → σ.cnt + pre.length < af)))
    (fun c pre W' => (c = .ret ∧ Boxed W' (w.heap.size + 1 + 1 + 1) 37 (.int .i64 5)) ∧ (Gr (Foot b L σ) w W' ∧ ∃ L' σ', DevL W' b L' σ' ∧ ((L'.KB = L.KB ∧ L'.N ≤ L.N + pre.length) ∧ (∃ pr no, pre.map Int.toNat = pr ++ [no] ∧ Opd (wordA bs at_ (writeG bs at_ σ pr) no) 5 σ') ∧ ∀ k, Foot b L' σ' k → Foot b L σ k ∨ w.heap.size ≤ k)))
    (Stab.and (Stab.and (Stab.and (Stab.box _ _ (by omega)) (Stab.box _ _ (by omega))) (Stab.and (Stab.box _ _ (by omega)) (Stab.and (Stab.box _ _ (by omega)) (Stab.and (Stab.box _ _ (by omega)) (Stab.box _ _ (by omega)))))) (Stab.and (Stab.and (stab_sl a bs (by omega) (fun ad he => (haf ad he).1)) (stab_gr (Nat.le_refl _))) (fun s W W' hJ hs => by obtain ⟨L', h1, h2, h3⟩ := hJ; exact ⟨L', stab_dev (σ := fun _ : Unit => writeG bs at_ σ (s.map Int.toNat)) (hO.same h2) (by omega) () W W' h1 hs, h2, h3⟩)))
    (fun c => Stab.and (Stab.and (Stab.pure _) (Stab.box _ _ (by omega))) (Stab.and (stab_gr (by omega)) (fun s W W' hJ hs => by obtain ⟨L', σ', h1, h2⟩ := hJ; exact ⟨L', σ', dev_sub h1 (fun k hk => by rw [h2.1.1] at hk; have := hO.kb k hk; omega) hs, h2⟩)))
    ⟨⟨⟨b3, b4⟩, b5, b6, b7, b8⟩, ⟨hsl0, Gr.refl _ _⟩, L, hd0, SameL.refl L, by simp, fun k hk => .inl hk, fun _ _ _ h => absurd rfl h⟩
  case hassign =>
    intro l' x W' K hK
    simp only [encI]
    gi_wp2
    exact hK
  case hbody =>
    rintro l' pre x W ⟨⟨⟨h3, h4⟩, h5, h6, h7, h8⟩, ⟨hslW, hgW⟩, L', hdW, hsame, hNL, hfoot, _⟩ hpx
    obtain ⟨no, rfl, hno, hno2, hn1, hmem, hpl⟩ := word_told hlen2 hpx
    have hsub : ∀ y ∈ pre.map Int.toNat, y / 8 < σ.n := fun y hy => wordsOf_lt hlen hnm y (by
      obtain ⟨z, hz, rfl⟩ := List.mem_map.1 hy
      exact List.mem_map.2 ⟨z, hpx.subset (List.mem_append_left _ hz), rfl⟩)
    have hlike := writeG_like (at_ := at_) hbs (pre.map Int.toNat) σ hok hsub (by rw [List.length_map]; omega)
    rw [List.length_map] at hlike
    have hsn : writeG bs at_ σ ((pre ++ [(no : Int)]).map Int.toNat) = wordG bs at_ (writeG bs at_ σ (pre.map Int.toNat)) no := by rw [List.map_append, List.map_cons, List.map_nil, writeG_snoc]; rfl
    generalize hgk : writeG bs at_ σ (pre.map Int.toNat) = σk at *
    have HGK := hide hgk
    clear hgk
    have hi : no / 8 < σk.n := by rw [hlike.n]; omega
    obtain ⟨ab, ao, ha, hab, hseg⟩ : ∃ ab ao, a = some ⟨ab, ao, none⟩ ∧ ab < w.heap.size ∧ Seg W ab ao bs := by
      rcases hslW with h1 | ⟨ab, ao, h1, h2, h3⟩
      · rw [h1] at hn1; simp at hn1
      · exact ⟨ab, ao, h1, (haf _ h1).1, h3⟩
    obtain ⟨fr, hfr⟩ : ∃ fr, fr = max at_ (no * 8) := ⟨_, rfl⟩
    have f1 : at_ ≤ fr := by omega
    have f2 : fr < at_ + bs.length := by omega
    have f3 : no * 8 ≤ fr ∧ fr < no * 8 + 8 := by omega
    obtain ⟨hpt1, hpt2⟩ := word_part (at_ := at_) (no := no) hbs hlike.ok hi
    rw [← hfr] at hpt1 hpt2
    obtain ⟨part, hpart⟩ : ∃ part, part = (bs.drop (fr - at_)).take (8 - fr % 8) := ⟨_, rfl⟩
    rw [← hpart] at hpt1 hpt2
    have hword : wordA bs at_ σk no = σk.put (no / 8) (splice (σk.line (no / 8)) (fr % 64) part) := by subst hpart; subst hfr; rfl
    have hpl2 : part.length = min (bs.length - (fr - at_)) (8 - fr % 8) := by rw [hpart, List.length_take, List.length_drop]; omega
    have hsrc : ∀ X : World, X.heap[ab]? = W.heap[ab]? → ∀ j v, (part.map B8)[j]? = some v → X.cell? ((⟨ab, ao + (fr - at_), none⟩ : Addr).add j) = some v := fun X hX j v hv => by
      rw [List.getElem?_map] at hv
      obtain ⟨x, hx, rfl⟩ := Option.map_eq_some_iff.1 hv
      have hj : j < part.length := (List.getElem?_eq_some_iff.1 hx).1
      rw [hpart, List.getElem?_take, if_pos (by omega), List.getElem?_drop] at hx
      rw [Addr.add_mid, Nat.add_assoc]
      exact (World.cell?_of_block (a := ⟨ab, ao + (fr - at_ + j), none⟩) hX).trans (hseg _ _ hx).1
    have off64 : no % 8 * 8 + fr % 8 = fr % 64 := by omega
    have e0 : ((no % 8 : Nat) : Int) = (no : Int) % 8 := by omega
    have e1 : ((fr % 8 : Nat) : Int) = (fr : Int) % 8 := by omega
    have e2 : ((fr - at_ : Nat) : Int) = (fr : Int) - (at_ : Int) := by omega
    have hll := line_len hlike.ok hi
    have hlr := line_range hdW hlike.ok hi
    have c3 := h3.cell
    have c4 := h4.cell
    have c5 := h5.cell
    have c1 := hdW.c1
    have l0 := fun X => index_line L'.sb (no / 8) σk.n L'.cp hi X
    have hl64 : ((σk.line (no / 8)).map B8).length = 64 := by rw [List.length_map, hll]
    have si : (Try.prog.info? 69).map (·.size) = some ((σk.line (no / 8)).map B8).toArray.size := by rw [List.size_toArray, hl64]; kernel_rfl
    have S1 := hide (all_oneCell_toArray (B8_cell (σk.line (no / 8))))
    have HL64 := hide hl64
    have SI := hide si
    clear hl64
    obtain ⟨Z, hzl, hz⟩ := zero_content
    have HZ := hide hz
    have HZL := hide hzl
    have TH : Hid (∀ X : World, (X.alloc (.cells Z.toArray 69)).there X.heap.size 0 ((σk.line (no / 8)).map B8).toArray.size) := fun X => there_row (heapNew X _) 0 _ (by rw [List.size_toArray, HL64.out, hzl]; omega)
    clear hz hzl
    have kp := fun X => part_any no at_ X (by omega) (by omega)
    rw [← hfr] at kp
    have KP := hide kp
    clear kp
    have HLR := hide hlr
    have HLL := hide hll
    have HD := hide hdW
    have HG := hide hgW
    have HSL := hide hslW
    have HF := hide hfoot
    have HS := hide hsame
    have HK := hide hlike
    have H3 := hide h3
    have H4 := hide h4
    have H5 := hide h5
    have H6 := hide h6
    have H7 := hide h7
    have H8 := hide h8
    have HSN := hide hsn
    have HSRC := hide hsrc
    have HPL2 := hide hpl2
    have HOFF := hide off64
    have HPT1 := hide hpt1
    have HPT2 := hide hpt2
    have HWORD := hide hword
    have HA := hide ha
    have HAB := hide hab
    have HHI := hide hi
    have F1 := hide f1
    have F2 := hide f2
    have F3 := hide f3
    have E0 := hide e0
    have E1 := hide e1
    have E2 := hide e2
    have HC1 := hide c1
    have frI : (fr : Int) ≤ 4194304 := by omega
    have atI : (at_ : Int) ≤ (fr : Int) := by omega
    clear hsrc hpl2 off64 hpt1 hpt2 hword hab hfr hpart f1 f2 f3 e0 e1 e2 hseg
    rw [ha] at c5
    clear ha
    have HNO := hide hno
    have HNO2 := hide hno2
    clear si hlr hll hdW hgW hslW hfoot hsame hlike hpx hsub h3 h4 h5 h6 h7 h8 hsn hmem hno hno2
    gi_wp2_with (first | (refine ⟨trivial, ?_⟩; gi_at_call 32; refine (inR (KP.out _)).mono ?_; rintro e W1 ⟨rfl, rfl⟩) | (refine wpListIn_load_mid rfl 69 (.tmp 30) rfl L'.sb (no / 8 * 64) (by kernel_rfl) ((σk.line (no / 8)).map B8) (.array 8 67) HLR.out (by kernel_rfl) rfl (by rw [List.length_map, HLL.out]; kernel_rfl) ?_) | (refine wpListIn_alloc_row rfl 69 rfl Z (HZ.out _) ?_) | (refine wpListIn_store_mid rfl 69 (.tmp 11) (.tmp 31) rfl W1.heap.size 0 ((σk.line (no / 8)).map B8).toArray (by kernel_rfl) (by kernel_rfl) (TH.out W1) SI.out S1.out ?_; have hnew := new_row (W := W1) (cur := Z) (vs := (σk.line (no / 8)).map B8) (t := 69) (HL64.out.trans HZL.out.symm); have HNEW := hide hnew; clear hnew))
    go_frame
    generalize hX : (W1.alloc (.cells Z.toArray 69)).setCells W1.heap.size 0 ((σk.line (no / 8)).map B8) = X at *
    obtain ⟨hx1, hx2, hx3⟩ := HNEW.out
    clear hX HNEW
    have TM : Hid ((fr : Int).tmod 8 = (fr : Int) % 8) := Int.tmod_eq_emod_of_nonneg (by omega)
    have WR : Hid (IntKind.i64.wrap ((fr : Int) - (at_ : Int)) = (fr : Int) - (at_ : Int)) := by show IntKind.i64.wrap _ = _; rw [IntKind.wrap_i64]; omega
    have SB1 : Hid (fr - at_ < bs.length) := by have := F1.out; have := F2.out; show _ < _; omega
    have x3 := below_boxedP hx2 H3.out
    have x4 := below_boxedP hx2 H4.out
    have x5 := below_boxedP hx2 H5.out
    rw [HA.out] at x5
    have hs1 : w.heap.size + 6 ≤ W1.heap.size := by have h2 := HG.out.size; omega
    have hxb : X.heap[ab]? = W1.heap[ab]? := hx2.block ab (by have := HAB.out; omega)
    have yg : Gr (fun k => k = W1.heap.size) X (X.drew.setRow W1.heap.size (splice ((σk.line (no / 8)).map B8) (no % 8 * 8 + fr % 8) (part.map B8)).toArray) := Gr.setRow X.drew W1.heap.size _ rfl
    have ne1 : w.heap.size + 1 ≠ W1.heap.size := by omega
    have ne2 : w.heap.size + 1 + 1 ≠ W1.heap.size := by omega
    have ne0 : w.heap.size ≠ W1.heap.size := by omega
    have y3 := yg.box x3 ne0
    have y4 := yg.box x4 ne1
    have y5 := yg.box x5 ne2
    have yn : (X.drew.setRow W1.heap.size (splice ((σk.line (no / 8)).map B8) (no % 8 * 8 + fr % 8) (part.map B8)).toArray).heap[W1.heap.size]? = some (.cells ((splice (σk.line (no / 8)) (fr % 64) part).map B8).toArray 69 (0, 0)) := by rw [heap_setRow X.drew W1.heap.size _ _ _ _ hx1, HOFF.out, splice_map]
    have s0 : X.drew.cell? ⟨w.heap.size + 1, 0, none⟩ = some (.int .i64 (at_ : Int)) ∧ X.drew.cell? ⟨w.heap.size + 1 + 1, 0, none⟩ = some (.slice (some ⟨ab, ao, none⟩) bs.length cap) := ⟨x4.cell, x5.cell⟩
    have s9 : (X.drew.setRow W1.heap.size (splice ((σk.line (no / 8)).map B8) (no % 8 * 8 + fr % 8) (part.map B8)).toArray).cell? ⟨w.heap.size + 1, 0, none⟩ = some (.int .i64 (at_ : Int)) ∧ (X.drew.setRow W1.heap.size (splice ((σk.line (no / 8)).map B8) (no % 8 * 8 + fr % 8) (part.map B8)).toArray).cell? ⟨w.heap.size + 1 + 1, 0, none⟩ = some (.slice (some ⟨ab, ao, none⟩) bs.length cap) := ⟨y4.cell, y5.cell⟩
    have hsr := HSRC.out X.drew hxb
    have hpl3 := HPL2.out
    have hfit : no % 8 * 8 + fr % 8 + (part.map B8).length ≤ ((σk.line (no / 8)).map B8).length := by rw [List.length_map, List.length_map, HLL.out]; omega
    have hcl : (part.map B8).length = Nat.min (bs.length - (fr - at_)) (8 - fr % 8) := by rw [List.length_map, hpl3]
    have HSR := hide hsr
    have HFIT := hide hfit
    have HCL := hide hcl
    have HX1 := hide hx1
    have S9 := hide s9
    have HYN := hide yn
    have HYG := hide yg
    have HX2 := hide hx2
    have Y3 := hide y3
    have HS1 := hide hs1
    clear hsr hfit hcl hx1 s9 yn yg hx2 x3 x4 x5 y3 y4 y5 hpl3 hxb hx3 ne0 ne1 ne2 hs1
    refine region_heldR (fun X => X.cell? ⟨w.heap.size + 1, 0, none⟩ = some (.int .i64 (at_ : Int)) ∧ X.cell? ⟨w.heap.size + 1 + 1, 0, none⟩ = some (.slice (some ⟨ab, ao, none⟩) bs.length cap)) (by kernel_rfl) (by kernel_rfl) (fun _ _ h => h) s0 (fun hS => ?_)
    refine wpAnyH_take (i := 0) (v := (.int .i64 ((no : Int) % 8))) rfl (by kernel_rfl) (by kernel_rfl) (by kernel_rfl) (fun _ _ _ h => h) (Or.inl ⟨by kernel_rfl, fun w' hw => by (go_simp)⟩) hS ?_
    refine wpAnyH_take (i := 1) (v := (.pointer (some ⟨W1.heap.size, no % 8 * 8, none⟩))) rfl (by kernel_rfl) (by kernel_rfl) (by kernel_rfl) (fun _ _ _ h => h) (Or.inl ⟨by kernel_rfl, fun w' hw => by (have e := index_word W1.heap.size 0 (no % 8) (by omega) w'; rw [E0.out, Nat.zero_add] at e; go_simp)⟩) hS ?_
    refine wpAnyH_take (i := 2) (v := (.int .i64 (fr : Int))) rfl (by kernel_rfl) (by kernel_rfl) (by kernel_rfl) (fun _ _ _ h => h) (Or.inl ⟨by kernel_rfl, fun w' hw => by (go_simp)⟩) hS ?_
    refine wpAnyH_take (i := 3) (v := (.int .i64 ((fr : Int) % 8))) rfl (by kernel_rfl) (by kernel_rfl) (by kernel_rfl) (fun _ _ _ h => h) (Or.inl ⟨by kernel_rfl, fun w' hw => by (have tm := TM.out; go_simp)⟩) hS ?_
    refine wpAnyH_take (i := 4) (v := (.slice (some ⟨W1.heap.size, no % 8 * 8 + fr % 8, none⟩) (8 - fr % 8) (8 - fr % 8))) rfl (by kernel_rfl) (by kernel_rfl) (by kernel_rfl) (fun _ _ _ h => h) (Or.inl ⟨by kernel_rfl, fun w' hw => by (have e := slice_word W1.heap.size (no % 8 * 8) (fr % 8) (by omega) w'; rw [E1.out] at e; go_simp)⟩) hS ?_
    refine wpAnyH_take (i := 5) (v := (.slice (some ⟨ab, ao, none⟩) bs.length cap)) rfl (by kernel_rfl) (by kernel_rfl) (by kernel_rfl) (fun _ _ _ h => h) (Or.inl ⟨by kernel_rfl, fun w' hw => by (obtain ⟨z0, z1⟩ := hw; go_simp)⟩) hS ?_
    refine wpAnyH_take (i := 6) (v := (.int .i64 (fr : Int))) rfl (by kernel_rfl) (by kernel_rfl) (by kernel_rfl) (fun _ _ _ h => h) (Or.inl ⟨by kernel_rfl, fun w' hw => by (go_simp)⟩) hS ?_
    refine wpAnyH_take (i := 7) (v := (.int .i64 (at_ : Int))) rfl (by kernel_rfl) (by kernel_rfl) (by kernel_rfl) (fun _ _ _ h => h) (Or.inl ⟨by kernel_rfl, fun w' hw => by (obtain ⟨z0, z1⟩ := hw; go_simp)⟩) hS ?_
    refine wpAnyH_take (i := 8) (v := (.int .i64 ((fr : Int) - (at_ : Int)))) rfl (by kernel_rfl) (by kernel_rfl) (by kernel_rfl) (fun _ _ _ h => h) (Or.inl ⟨by kernel_rfl, fun w' hw => by (have wr := WR.out; go_simp)⟩) hS ?_
    refine wpAnyH_take (i := 9) (v := (.slice (some ⟨ab, ao + (fr - at_), none⟩) (bs.length - (fr - at_)) (cap - (fr - at_)))) rfl (by kernel_rfl) (by kernel_rfl) (by kernel_rfl) (fun _ _ _ h => h) (Or.inl ⟨by kernel_rfl, fun w' hw => by (have e := slice_bytes ab ao (fr - at_) bs.length cap SB1.out hcap w'; rw [E2.out] at e; go_simp)⟩) hS ?_
    refine wpAnyH_op (i := 10) (by kernel_rfl) rfl (by kernel_rfl) (by kernel_rfl) (wp_copy (.tmp 36) (.tmp 41) 36 36 (by kernel_rfl) 5 Try.underlying36 (by kernel_rfl) W1.heap.size (no % 8 * 8 + fr % 8) (8 - fr % 8) (8 - fr % 8) ⟨ab, ao + (fr - at_), none⟩ (bs.length - (fr - at_)) (cap - (fr - at_)) (by kernel_rfl) (by kernel_rfl) ((σk.line (no / 8)).map B8) 69 HX1.out (part.map B8) HCL.out HSR.out HFIT.out (B8_cell part) ⟨S9.out, ?_⟩)
    simp only [Act.put, List.getElem_toArray, List.getElem_cons_zero, List.getElem_cons_succ, List.setIfInBounds_toArray, List.set_cons_zero, List.set_cons_succ]
    generalize hY : (X.drew.setRow W1.heap.size (splice ((σk.line (no / 8)).map B8) (no % 8 * 8 + fr % 8) (part.map B8)).toArray) = Y at *
    clear hY
    obtain ⟨nx, hnx⟩ : ∃ nx, nx = splice (σk.line (no / 8)) (fr % 64) part := ⟨_, rfl⟩
    rw [← hnx] at HYN HPT1 HPT2 HWORD
    have HNX := hide hnx
    clear hnx
    have hdX := HD.out.below HX2.out
    have hdY : DevL Y b L' σk := hdX.keep (fun k hk => HYG.out.block (hdX.foot_is hk) (fun e => by have := HD.out.foot_is hk; omega))
    have hOL := hO.same HS.out
    have hnl := HK.out
    have kc := pchg_any hdY hnl.ok HHI.out HPT1.out (by omega)
    have e3 : ((no / 8 : Nat) : Int) = (no : Int) / 8 := by omega
    rw [e3] at kc
    have hrn := range_all HYN.out
    have cy3 := Y3.out.cell
    have hfk : Few (σk.put (no / 8) nx) := ⟨by show σk.arms = [] ∨ _; rw [show (σk.put (no / 8) nx).arms = σ.arms from hnl.arms, hnl.arms]; exact hfw.one, by show σk.cnt < _; rw [hnl.cnt]; split <;> omega⟩
    have hpk := put_ok hnl.ok HHI.out HPT1.out HPT2.out (by rw [hnl.ops]; omega)
    have hok2 : σk.ops < 1400000000000 := by rw [hnl.ops]; omega
    have HFK := hide hfk
    have HPK := hide hpk
    have HOP2 := hide hok2
    clear hfk hpk hok2
    have KC := hide kc
    have HRN := hide hrn
    have HDY := hide hdY
    have HOL := hide hOL
    have nf : ∀ (g : Nat) (t : TypeId) (v : Value), Boxed Y g t v → w.heap.size ≤ g → ¬ HP t → ¬ Foot b L' σk g := fun g t v hb hg ht => box_foot hdY hOL hb hg ht
    have NF := hide nf
    clear kc hrn hdY hdX hOL hnl e3 nf
    have N6 := hide (box_foot HD.out HOL.out H6.out (by omega) (by unfold HP; decide))
    have HFI := Classical.em (fires (σk.put (no / 8) nx))
    rcases HFI with hF | hF
    · have HF0 := hide hF
      clear hF
      gi_wp2_with (first | (refine wpListIn_load_mid rfl 69 (.tmp 11) rfl W1.heap.size 0 (by kernel_rfl) (nx.map B8) (.array 8 67) HRN.out (by kernel_rfl) rfl (by rw [List.length_map, HPT1.out]; kernel_rfl) ?_) | (refine ⟨trivial, ?_⟩; gi_at_call 49; refine (inR (KC.out)).mono ?_; rintro e Y2 ⟨rfl, L2, hd2, hf2, hg2, hN2, hs2⟩; have y32 := hg2.box Y3.out (NF.out _ _ _ Y3.out (Nat.le_refl _) (by unfold HP; decide)); have cy32 := y32.cell; have KO := hide (poper_yes hd2 HPK.out HFK.out HOP2.out HF0.out); have HD2 := hide hd2; have HF2 := hide hf2; have HG2 := hide hg2; have HN2 := hide hN2; have HS2 := hide hs2; clear hd2 hf2 hg2 hN2 hs2 cy3) | (refine ⟨trivial, ?_⟩; gi_at_call 41; refine (inR (KO.out)).mono ?_; rintro e Y4 ⟨rfl, σ4, L4, ho4, hd4, hf4, hg4, hn4, hk4⟩; have g1 : Gr (Foot b L' σk) W1 Y4 := ((((Gr.of_below HX2.out : Gr (Foot b L' σk) W1 X).trans HYG.out (fun i e => .inr (by omega))).trans HG2.out (fun i h => .inl h)).trans hg4 (fun i h => (HF2.out i h).imp id (fun h5 => by have h6 := HYG.out.size; have h7 := HX2.out.size; omega))); have y6 := g1.box H6.out N6.out; have cy6 := y6.cell; have zy6 := y6.frozen; have Y6 := hide y6; have G1 := hide g1; have HO4 := hide ho4; have HD4 := hide hd4; have HF4 := hide hf4; have HN4 := hide hn4; have HK4 := hide hk4; have HG4 := hide hg4; clear ho4 hd4 hf4 hg4 hn4 hk4 g1 y6))
      have hdW := HD.out
      have hOL := HOL.out
      have n3 := box_foot hdW hOL H3.out (by omega) (by unfold HP; decide)
      have n4 := box_foot hdW hOL H4.out (by omega) (by unfold HP; decide)
      have n5 := box_foot hdW hOL H5.out (by omega) (by unfold HP; decide)
      have n6 := box_foot hdW hOL H6.out (by omega) (by unfold HP; decide)
      have n7 := box_foot hdW hOL H7.out (by omega) (by unfold HP; decide)
      have n8 := box_foot hdW hOL H8.out (by omega) (by unfold HP; decide)
      have hnew : ∀ i, Foot b L' σk i → i < w.heap.size ∨ w.heap.size + 6 ≤ i := fun i hi => by
        have q3 : i ≠ w.heap.size := fun e => n3 (e ▸ hi)
        have q4 : i ≠ w.heap.size + 1 := fun e => n4 (e ▸ hi)
        have q5 : i ≠ w.heap.size + 1 + 1 := fun e => n5 (e ▸ hi)
        have q6 : i ≠ w.heap.size + 1 + 1 + 1 := fun e => n6 (e ▸ hi)
        have q7 : i ≠ w.heap.size + 1 + 1 + 1 + 1 := fun e => n7 (e ▸ hi)
        have q8 : i ≠ w.heap.size + 1 + 1 + 1 + 1 + 1 := fun e => n8 (e ▸ hi)
        omega
      have g1 := G1.out
      have hz1 := HYG.out.size
      have hz2 := HX2.out.size
      have hz3 := HS1.out
      have hz4 := HG2.out.size
      have hft : ∀ k, Foot b L4 σ4 k → Foot b L' σk k ∨ w.heap.size + 6 ≤ k := fun k hk => by
        rcases HF4.out k hk with h3 | h3
        · rcases HF2.out k h3 with h4 | h4
          · exact .inl h4
          · exact .inr (by omega)
        · exact .inr (by omega)
      have hd5 : DevL (Y4.setCell ⟨w.heap.size + 1 + 1 + 1, 0, none⟩ (.int .i64 5)) b L4 σ4 := HD4.out.keep (fun k hk => heap_set_ne Y4 _ 0 k _ (fun e => by
        rcases hft k hk with h3 | h3
        · exact n6 (e ▸ h3)
        · omega))
      have g0 : Gr (Foot b L σ) w W1 := (Gr.of_below hB0).trans HG.out (fun i h => .inl h)
      have hfo : ∀ i, Foot b L' σk i → Foot b L σ i ∨ w.heap.size ≤ i := HF.out
      refine ⟨(g1.kp (fun k o hk hf => ⟨fun hn => by rcases hn with e | e; exact n7 (e ▸ hf); exact n8 (e ▸ hf), ?_⟩)).trans (Kp.set _ (fun h => by omega) (by omega)), ⟨rfl, Y6.out.set _⟩, (g0.trans g1 hfo).trans (Gr.set Y4 _ 0 _ (X := fun k => k = w.heap.size + 1 + 1 + 1) rfl) (fun i h => .inr (by omega)), L4, σ4, hd5, ⟨HK4.out.trans (HS2.out.2.2.2.2.trans HS.out.2.2.2.2), ?_⟩, ⟨pre.map Int.toNat, no, by simp, ?_⟩, fun k hk => ?_⟩
      · rcases foot_cases hdW hOL hf with h1 | ⟨o', h1, h2⟩
        · exact .inl (by omega)
        · rw [hk] at h1; cases h1; exact .inr h2
      · have h2 := HN2.out; have h3 := HN4.out; rw [List.length_append, List.length_singleton]; omega
      · rw [HGK.out, HWORD.out]; exact HO4.out
      · rcases hft k hk with h3 | h3
        · exact HF.out k h3
        · exact .inr (by omega)
    · have HF0 := hide hF
      clear hF
      gi_wp2_with (first | (refine wpListIn_load_mid rfl 69 (.tmp 11) rfl W1.heap.size 0 (by kernel_rfl) (nx.map B8) (.array 8 67) HRN.out (by kernel_rfl) rfl (by rw [List.length_map, HPT1.out]; kernel_rfl) ?_) | (refine ⟨trivial, ?_⟩; gi_at_call 49; refine (inR (KC.out)).mono ?_; rintro e Y2 ⟨rfl, L2, hd2, hf2, hg2, hN2, hs2⟩; have y32 := hg2.box Y3.out (NF.out _ _ _ Y3.out (Nat.le_refl _) (by unfold HP; decide)); have cy32 := y32.cell; have KO := hide (poper_no hd2 HPK.out HFK.out HOP2.out HF0.out); have HD2 := hide hd2; have HF2 := hide hf2; have HG2 := hide hg2; have HN2 := hide hN2; have HS2 := hide hs2; clear hd2 hf2 hg2 hN2 hs2 cy3) | (refine ⟨trivial, ?_⟩; gi_at_call 41; refine (inR (KO.out)).mono ?_; rintro e Y4 ⟨rfl, hd4, hg4⟩; have HG4 := hide hg4; have HD4 := hide hd4; clear hg4 hd4))
      have hdW := HD.out
      have hOL := HOL.out
      have n3 := box_foot hdW hOL H3.out (by omega) (by unfold HP; decide)
      have n4 := box_foot hdW hOL H4.out (by omega) (by unfold HP; decide)
      have n5 := box_foot hdW hOL H5.out (by omega) (by unfold HP; decide)
      have n6 := box_foot hdW hOL H6.out (by omega) (by unfold HP; decide)
      have n7 := box_foot hdW hOL H7.out (by omega) (by unfold HP; decide)
      have n8 := box_foot hdW hOL H8.out (by omega) (by unfold HP; decide)
      have hnew : ∀ i, Foot b L' σk i → i < w.heap.size ∨ w.heap.size + 6 ≤ i := fun i hi => by
        have q3 : i ≠ w.heap.size := fun e => n3 (e ▸ hi)
        have q4 : i ≠ w.heap.size + 1 := fun e => n4 (e ▸ hi)
        have q5 : i ≠ w.heap.size + 1 + 1 := fun e => n5 (e ▸ hi)
        have q6 : i ≠ w.heap.size + 1 + 1 + 1 := fun e => n6 (e ▸ hi)
        have q7 : i ≠ w.heap.size + 1 + 1 + 1 + 1 := fun e => n7 (e ▸ hi)
        have q8 : i ≠ w.heap.size + 1 + 1 + 1 + 1 + 1 := fun e => n8 (e ▸ hi)
        omega
      have hg4 := HG4.out
      have g1 : Gr (Foot b L' σk) W1 Y4 := (((Gr.of_below HX2.out : Gr (Foot b L' σk) W1 X).trans HYG.out (fun i e => .inr (by omega))).trans HG2.out (fun i h => .inl h)).trans hg4 (fun i h => (HF2.out i h).imp id (fun h5 => by have h6 := HYG.out.size; have h7 := HX2.out.size; omega))
      refine ⟨g1.kp (fun k o hk hf => ⟨fun hn => by rcases hn with e | e; exact n7 (e ▸ hf); exact n8 (e ▸ hf), ?_⟩), ⟨⟨g1.box H3.out n3, g1.box H4.out n4⟩, g1.box H5.out n5, g1.box H6.out n6, g1.box H7.out n7, g1.box H8.out n8⟩, ⟨g1.sl HSL.out (fun ad he hf => ?_), HG.out.trans g1 (fun i hi => ?_)⟩, L2, ?_, HS.out.trans HS2.out, ?_, fun k hk => ?_, fun af kp e _ => ?_⟩
      · rcases foot_cases hdW hOL hf with h1 | ⟨o', h1, h2⟩
        · exact .inl (by omega)
        · rw [hk] at h1; cases h1; exact .inr h2
      · obtain ⟨h1, h2⟩ := haf ad he
        rcases HF.out _ hf with h3 | h3
        · exact h2 h3
        · omega
      · rcases HF.out i hi with h3 | h3
        · exact .inl h3
        · rcases hnew i hi with h4 | h4
          · omega
          · exact .inr (by omega)
      · rw [HSN.out]; show DevL Y4 b L2 (tick (wordA bs at_ σk no)); rw [HWORD.out]; exact HD4.out
      · have h2 := HN2.out; rw [List.length_append, List.length_singleton]; omega
      · rw [HSN.out] at hk
        have hk : Foot b L2 (tick (wordA bs at_ σk no)) k := hk
        rw [HWORD.out] at hk
        rcases HF2.out k hk with h3 | h3
        · exact HF.out k h3
        · have h4 := HYG.out.size; have h5 := HX2.out.size; have h6 := HS1.out; exact .inr (by omega)
      · refine Classical.byContradiction fun hc => HF0.out ⟨af, kp, HK.out.arms.trans e, ?_⟩
        show af ≤ σk.cnt + 1
        rw [HK.out.cnt, if_neg (by rw [e]; simp)]
        rw [List.length_append, List.length_singleton] at hc
        omega
  case hdone =>
    rintro D W hD ⟨⟨⟨h3, h4⟩, h5, h6, h7, h8⟩, ⟨hslW, hgW⟩, L', hdW, hsame, hNL, hfoot, hpu⟩ hK
    have hOL := hO.same hsame
    have n6 := box_foot hdW hOL h6 (by omega) (by unfold HP; decide)
    have c6 := h6.cell
    have z6 := h6.frozen
    have hw : (unitsV 8 (at_ : Int) (bs.length : Int)).map Int.toNat = wordsOf at_ bs.length := rfl
    rw [hw] at hdW hfoot
    have hl : (unitsV 8 (at_ : Int) (bs.length : Int)).length = (wordsOf at_ bs.length).length := by unfold wordsOf; rw [List.length_map]
    rw [hl] at hNL
    have HD := hide hdW
    have HG := hide hgW
    have HF := hide hfoot
    have HS := hide hsame
    rw [hl] at hpu
    have HPU := hide hpu
    have HK := hide hK
    have H6 := hide h6
    clear hpu h3 h4 h5 h6 h7 h8 hslW hgW hdW hsame hfoot hK hw hl
    gi_wp2
    have hne : D ≠ w.heap.size + 1 + 1 + 1 := by omega
    have hK' : (W.setCell ⟨w.heap.size + 1 + 1 + 1, 0, none⟩ (.int .i64 0)).heap[D]? = some (.deferred (some [])) := (heap_set_ne W _ 0 D _ hne).trans HK.out
    refine ⟨by simp, .inl ⟨_, _, rfl, run_takeDeferred hK', ?_⟩⟩
    have hd1 : DevL (W.setCell ⟨w.heap.size + 1 + 1 + 1, 0, none⟩ (.int .i64 0)) b L' (writeG bs at_ σ (wordsOf at_ bs.length)) := HD.out.keep (fun k hk => heap_set_ne W _ 0 k _ (fun e => n6 (e ▸ hk)))
    have hgr : Gr (Foot b L σ) w ((W.setCell ⟨w.heap.size + 1 + 1 + 1, 0, none⟩ (.int .i64 0)).putObj D (.deferred none)) := by
      have g1 : Gr (Foot b L σ) w W := (Gr.of_below hB0).trans HG.out (fun i h => .inl h)
      have g2 : Gr (fun k => k = w.heap.size + 1 + 1 + 1) W (W.setCell ⟨w.heap.size + 1 + 1 + 1, 0, none⟩ (.int .i64 0)) := Gr.set W _ 0 _ rfl
      have g3 : Gr (fun k => k = D) (W.setCell ⟨w.heap.size + 1 + 1 + 1, 0, none⟩ (.int .i64 0)) ((W.setCell ⟨w.heap.size + 1 + 1 + 1, 0, none⟩ (.int .i64 0)).putObj D (.deferred none)) := Gr.of_grown (grownBy_putObj' _ D _) (fun k hk => .inl (by cases hk; rfl))
      exact (g1.trans g2 (fun i h => .inr (by omega))).trans g3 (fun i h => .inr (by omega))
    refine ⟨_, results_boxP rfl _ _ (w.heap.size + 1 + 1 + 1) _ _ rfl ((World.putObj_heap_other (Ne.symm hne)).trans (H6.out.set _)) (fun _ h => loadE h), 0, _, L', rfl, .inl ⟨rfl, rfl, fun af kp e h => HPU.out af kp e (fun e2 => h (by unfold wordsOf; rw [e2]; rfl))⟩, hd1.put_ hK' _, HF.out, hgr, hNL, HS.out.2.2.2.2, fun _ => HS.out⟩
  case hstop =>
    rintro D c pre W2 hD hpre ⟨⟨rfl, h6⟩, hgW, L', σ', hdW, ⟨hkb, hNL⟩, ⟨pr, no, hpn, hop⟩, hfoot⟩ hK
    have HD := hide hdW
    have HG := hide hgW
    have HF := hide hfoot
    have HOP := hide hop
    have HPN := hide hpn
    have HPR := hide hpre
    have HNL := hide hNL
    have HKB := hide hkb
    have H6 := hide h6
    clear h6 hgW hdW hfoot hop hpn hpre hNL hkb
    gi_wp2
    have hne : D ≠ w.heap.size + 1 + 1 + 1 := by omega
    refine ⟨by simp, .inl ⟨_, _, rfl, run_takeDeferred hK, ?_⟩⟩
    have hgr : Gr (Foot b L σ) w (W2.putObj D (.deferred none)) := HG.out.trans (Gr.of_grown (X := fun k => k = D) (grownBy_putObj' _ D _) (fun k hk => .inl (by cases hk; rfl))) (fun i h => .inr (by omega))
    have hpl := HPR.out.length_le
    have hl : (unitsV 8 (at_ : Int) (bs.length : Int)).length = (wordsOf at_ bs.length).length := by unfold wordsOf; rw [List.length_map]
    have h9 := HNL.out
    refine ⟨_, results_boxP rfl _ _ (w.heap.size + 1 + 1 + 1) _ _ rfl ((World.putObj_heap_other (Ne.symm hne)).trans H6.out) (fun _ h => loadE h), 5, σ', L', rfl, .inr ⟨rfl, pr, no, ?_, HOP.out⟩, HD.out.put_ hK _, HF.out, hgr, by omega, HKB.out, fun h => by cases h⟩
    have := HPR.out.map Int.toNat
    rw [HPN.out] at this
    exact this
end Go.Proofs.Ytmgeokmgidnneaa
namespace Go.Proofs.Ytmgeokmgidnneaa
open Go.RowKit Go.Shelf
set_option linter.unusedVariables false

section
variable {w : World} {b at_ : Nat} {L : Lay} {σ : St}
theorem pst8_gen (v : Nat) (h : DevL w b L σ) (hok : σ.Ok) (ho : σ.off = false) (hN : L.N ≤ σ.ops) (hfw : Few σ) (hcn : σ.cnt + 600000 ≤ 1400000000000) (hops : σ.ops + 600000 ≤ 1400000000000) (hat : at_ % 8 = 0) (hlen : at_ + 8 ≤ 64 * σ.n) (hv : v < 18446744073709551616) :
    Calls Try.prog 14 #[.pointer (some ⟨b, 0, none⟩), .int .i64 (at_ : Int), .int .u64 (v : Int)] w fun e w' => ∃ c σ' L', e = .returned (.int .i64 c) ∧ WrD (leB 8 v) at_ σ (wordsOf at_ 8) c σ' ∧ DevL w' b L' σ' ∧ (∀ k, Foot b L' σ' k → Foot b L σ k ∨ w.heap.size ≤ k) ∧ Gr (Foot b L σ) w w' ∧ L'.N ≤ L.N + (wordsOf at_ 8).length ∧ L'.KB = L.KB ∧ (c = 0 → SameL L L') := by
  have hmx := hok.max
  have ks := pstate_any h
  rw [ho] at ks
  simp only [Bool.false_eq_true, if_false] at ks
  have kh := pholds_any h hok.max (at_ : Int) 8 (by omega) (by omega)
  have hb : hasB σ (at_ : Int) 8 = true := by unfold hasB; simp; omega
  rw [hb] at kh
  have kp : Calls Try.prog 39 #[.slice none 0 0, .int .u64 (v : Int)] w fun e w' => e = .returned (.slice (some ⟨w.heap.size, 0, none⟩) 8 8) ∧ Below w.heap.size w w' ∧ OwnB w' w.heap.size (leB 8 v) := by
    have h5 := put64 none 0 v [] w (.inl rfl) (by simp) hv
    simpa using h5
  have hll : (leB 8 v).length = 8 := by simp [leB]
  have hlt : ∀ x ∈ leB 8 v, x < 256 := fun x hx => by
    simp [leB] at hx
    omega
  have kw : ∀ W1, Below w.heap.size w W1 → OwnB W1 w.heap.size (leB 8 v) → Calls Try.prog 38 #[.pointer (some ⟨b, 0, none⟩), .int .i64 (at_ : Int), .slice (some ⟨w.heap.size, 0, none⟩) 8 8] W1 fun e w' => ∃ c σ' L', e = .returned (.int .i64 c) ∧ WrD (leB 8 v) at_ σ (wordsOf at_ 8) c σ' ∧ DevL w' b L' σ' ∧ (∀ k, Foot b L' σ' k → Foot b L σ k ∨ w.heap.size ≤ k) ∧ Gr (Foot b L σ) w w' ∧ L'.N ≤ L.N + (wordsOf at_ 8).length ∧ L'.KB = L.KB ∧ (c = 0 → SameL L L') := fun W1 hB hown => by
    have h6 := callsIn_wide.1 (pwriteG_in (cap := 8) (h.below hB) hok hN hfw hcn (hown.sl hlt) (by rw [hll]; exact Nat.le_refl _) (by rw [hll]; exact hlen) hops (fun ad he => by
      cases he
      exact ⟨hown.lt, fun hf => by have := h.foot_is hf; simp at this⟩))
    rw [hll] at h6
    refine h6.mono ?_
    rintro e w' ⟨c, σ', L', rfl, h0, h1, h2, h3, h4⟩
    refine ⟨c, σ', L', rfl, h0, h1, fun k hk => ?_, (Gr.of_below hB).trans h3 (fun i h => .inl h), h4⟩
    rcases h2 k hk with h7 | h7
    · exact .inl h7
    · exact .inr (Nat.le_trans hB.size h7)
  have KS := hide ks
  have KH := hide kh
  have KP := hide kp
  have KW := hide kw
  have htm : (at_ : Int).tmod 8 = 0 := by rw [Int.tmod_eq_emod_of_nonneg (by omega)]; omega
  clear h hok ks kh kp kw hlt hll hb hat hfw hcn hN ho hv
  go_enter Try.func14, Try.ntmps14
  go_wp2_with (first | (go_at_call 29; refine (KS.out).mono ?_; rintro e w' ⟨rfl, hw⟩; obtain rfl := hw.symm) | (go_at_call 30; refine (KH.out).mono ?_; rintro e w' ⟨rfl, hw⟩; obtain rfl := hw.symm) | (go_at_call 39; refine (KP.out).mono ?_; rintro e W1 ⟨rfl, hB, hown⟩; have K2 := hide (KW.out W1 hB hown); clear hB hown) | (go_at_call 38; refine (K2.out).mono ?_; rintro e w' ⟨c, σ', L', rfl, hw⟩; have HW := hide hw; clear hw))
  go_ret
  exact ⟨c, σ', L', rfl, HW.out⟩
end
end Go.Proofs.Ytmgeokmgidnneaa
namespace Go.Proofs.Ytmgeokmgidnneaa
open Go.RowKit Go.Shelf
set_option linter.unusedVariables false

/-- A line is flushed; the operation is not yet counted. -/
def flA (σ : St) (i : Nat) : St := { flushDo σ i with ops := σ.ops }
theorem flA_ok {σ : St} (h : σ.Ok) (i : Nat) (hops : σ.ops < 1400000000000) : (flA σ i).Ok :=
  ⟨h.pos, h.max, h.len, h.byte, h.out, h.clen, h.cbyte, h.few, (flush_ok h i hops).flp, h.opsm⟩
section
variable {w : World} {b : Nat} {L : Lay} {σ : St}
set_option maxRecDepth 100000 in
set_option maxHeartbeats 300000 in
theorem pflush_gen (h : DevL w b L σ) (hok : σ.Ok) (ho : σ.off = false) (hfw : Few σ) (at_ : Nat) (hat : at_ < 64 * σ.n) (hops : σ.ops < 1400000000000) (hN : L.N ≤ σ.ops) : Calls Try.prog 18 #[.pointer (some ⟨b, 0, none⟩), .int .i64 (at_ : Int)] w fun e w' =>
    ∃ c σ' L', e = .returned (.int .i64 c) ∧ Opd (flA σ (at_ / 64)) c σ' ∧ DevL w' b L' σ' ∧ (∀ k, Foot b L' σ' k → Foot b L σ k ∨ w.heap.size ≤ k) ∧ Gr (Foot b L σ) w w' ∧ L'.N ≤ L.N + 1 ∧ L'.KB = L.KB ∧ (c = 0 → SameL L L') := by
  have hmx := hok.max
  have ks := pstate_any h
  rw [ho] at ks
  simp only [Bool.false_eq_true, if_false] at ks
  have kh := pholds_any h hok.max (at_ : Int) 1 (by omega) (by omega)
  have hb : hasB σ (at_ : Int) 1 = true := by unfold hasB; simp; omega
  rw [hb] at kh
  obtain ⟨i, hi⟩ : ∃ i, i = at_ / 64 := ⟨_, rfl⟩
  have hin : i < σ.n := by omega
  have hiI : (at_ : Int) / 64 = (i : Int) := by omega
  have htd : (at_ : Int).tdiv 64 = (i : Int) := by rw [Int.tdiv_eq_ediv_of_nonneg (by omega)]; omega
  have hwf := wfI (i := i) (by omega)
  have c2 := h.c2
  have c3 := h.c3
  rw [← hi]
  have KS := hide ks
  have KH := hide kh
  have HOLD := hide h.old
  have HFL := hide h.flm
  have HD := hide h
  have HOK := hide hok
  have HT := hide htd
  have atI : (at_ : Int) ≤ 4194304 := by omega
  by_cases hp : σ.past i = []
  · have hof : oldF L σ (i : Int) = none := by unfold oldF; rw [if_neg (fun h => h.2 (by simpa using hp))]
    have HOF := hide hof
    have hfd : flushDo σ i = { σ with ops := σ.ops + 1 } := by
      unfold flushDo
      congr 1
      funext j
      rw [if_neg (fun e => e.2 hp)]
    have hfa : flA σ i = σ := by unfold flA; rw [hfd]
    have ko := poper_gen h (ok_more hok hops) hfw hops
    have KO := hide ko
    rw [hfa]
    clear h hok ks kh hp hof hi hb htd ko hfd hfa hfw
    go_enter Try.func18, Try.ntmps18
    go_wp2_with (first | (go_at_call 29; refine (KS.out).mono ?_; rintro e w' ⟨rfl, hw⟩; obtain rfl := hw.symm) | (go_at_call 30; refine (KH.out).mono ?_; rintro e w' ⟨rfl, hw⟩; obtain rfl := hw.symm) | (at_lookup; refine wpList_look_none rfl (.tmp 24) (.tmp 25) rfl L.ob L.N (oldF L σ) (by kernel_rfl) HOLD.out i (by simp [Act.eval]) hwf HOF.out ?_) | (go_at_call 41; refine (KO.out).mono ?_; rintro e w' ⟨c, σ', L', rfl, hr⟩; have HR := hide hr; clear hr))
    go_ret
    obtain ⟨r1, r2, r3, r4, r5, r6⟩ := HR.out
    exact ⟨c, σ', L', rfl, r1, r2, r3, r4, by omega, r6.1, fun h0 => by rw [r6.2 h0]; exact SameL.refl L⟩
  · have hof : oldF L σ (i : Int) = some (L.pb i) := by unfold oldF; rw [if_pos ⟨by omega, by simpa using hp⟩]; simp
    obtain ⟨n, hn⟩ : ∃ n, n = (σ.past i).length := ⟨_, rfl⟩
    have hp1 := (h.pasts i hp).1
    rw [← hn] at hp1
    have hfew := hok.few i
    have hnf := wfI (i := n) (by omega)
    obtain ⟨e2, q2, hfb⟩ := h.flm.block
    have hfd : flushDo σ i = { ({ σ with fl := fun j => if j = i then some n else σ.fl j } : St) with ops := σ.ops + 1 } := by
      unfold flushDo
      congr 1
      funext j
      show _ = (if j = i then some n else σ.fl j)
      by_cases e : j = i
      · rw [if_pos ⟨e, hp⟩, if_pos e, hn]
      · rw [if_neg (fun h => e h.1), if_neg e]
    have hf : ∀ x, (fun y : Int => if y = (i : Int) then some n else flF σ y) x = flF { σ with fl := fun j => if j = i then some n else σ.fl j } x := fun x => by
      unfold flF
      simp only
      by_cases e : x = (i : Int)
      · subst e; simp
      · rw [if_neg e]
        by_cases h0 : 0 ≤ x
        · rw [if_pos h0, if_pos h0, if_neg (by omega)]
        · rw [if_neg h0, if_neg h0]
    have hfa : flA σ i = { σ with fl := fun j => if j = i then some n else σ.fl j } := by unfold flA; rw [hfd]
    have ko : ∀ W9 : World, w.drew.grownBy W9 (some L.fb) → MapG (plainElem Try.prog 3) numD W9 L.fb (L.N + 1) (fun y => if y = (i : Int) then some n else flF σ y) → Calls Try.prog 41 #[.pointer (some ⟨b, 0, none⟩)] W9 fun e w' => ∃ c σ' L', e = .returned (.int .i64 c) ∧ Opd (flA σ i) c σ' ∧ DevL w' b L' σ' ∧ (∀ k, Foot b L' σ' k → Foot b L σ k ∨ W9.heap.size ≤ k) ∧ Gr (Foot b L σ) W9 w' ∧ L'.N ≤ L.N + 1 ∧ L'.KB = L.KB ∧ (c = 0 → L' = { L with N := L.N + 1 }) := fun W9 hg hm => by
      have hg' : w.grownBy W9 (some L.fb) := ⟨hg.os, hg.tape, hg.output, hg.size, hg.block⟩
      have hd9 := dev_fl h hg' (hm.congr hf)
      rw [← hfa] at hd9
      exact poper_gen hd9 (flush_ok hok i hops) ⟨hfw.one, hfw.cnt⟩ hops
    have s0 : w.drew.cell? ⟨b, 3, none⟩ = some (.map (some L.fb)) ∧ w.drew.cell? ⟨L.pb i, 1, none⟩ = some (.int .i64 (n : Int)) := ⟨h.c3, cell8 hp1 1⟩
    have s9 : ∀ W9 : World, w.drew.grownBy W9 (some L.fb) → W9.cell? ⟨b, 3, none⟩ = some (.map (some L.fb)) ∧ W9.cell? ⟨L.pb i, 1, none⟩ = some (.int .i64 (n : Int)) := fun W9 hg =>
      ⟨cell8 ((hg.block b (lt_of_heap h.dev) (fun e => ne_map h.dev hfb (Option.some.inj e))).trans h.dev) 3, cell8 ((hg.block _ (lt_of_heap hp1) (fun e => ne_map hp1 hfb (Option.some.inj e))).trans hp1) 1⟩
    have hfl2 : MapG (plainElem Try.prog 3) numD w.drew L.fb L.N (flF σ) := h.flm.of_block rfl
    have HFL2 := hide hfl2
    clear hfl2
    have KO := hide ko
    have S9 := hide s9
    have HOF := hide hof
    have hNm : L.N < maxLen := by unfold maxLen; omega
    have HNM := hide hNm
    have HNF := hide hnf
    clear h hok ks kh hp hof hi hb htd ko hfd hfa hfw s9 hp1 hn hfb hf hnf hNm hfew
    go_enter Try.func18, Try.ntmps18
    go_wp2_with (first | (go_at_call 29; refine (KS.out).mono ?_; rintro e w' ⟨rfl, hw⟩; obtain rfl := hw.symm) | (go_at_call 30; refine (KH.out).mono ?_; rintro e w' ⟨rfl, hw⟩; obtain rfl := hw.symm) | (at_lookup; refine wpList_look_some rfl (.tmp 24) (.tmp 25) rfl L.ob L.N (oldF L σ) (by kernel_rfl) HOLD.out i (by simp [Act.eval]) hwf (L.pb i) HOF.out ?_))
    refine wp_region_held_drew (S := fun X => X.cell? ⟨b, 3, none⟩ = some (.map (some L.fb)) ∧ X.cell? ⟨L.pb i, 1, none⟩ = some (.int .i64 (n : Int))) (by kernel_rfl) s0 (fun hS => ?_)
    refine wpAnyH_take (i := 0) (v := (.pointer (some ⟨b, 0, none⟩))) rfl (by kernel_rfl) (by kernel_rfl) (by kernel_rfl) (fun _ _ _ h => h) (Or.inl ⟨by kernel_rfl, fun w' hw => by (go_simp)⟩) hS ?_
    refine wpAnyH_take (i := 1) (v := (.pointer (some ⟨b, 0, none⟩))) rfl (by kernel_rfl) (by kernel_rfl) (by kernel_rfl) (fun _ _ _ h => h) (Or.inl ⟨by kernel_rfl, fun w' hw => by (go_simp)⟩) hS ?_
    refine wpAnyH_take (i := 2) (v := (.pointer (some ⟨b, 3, none⟩))) rfl (by kernel_rfl) (by kernel_rfl) (by kernel_rfl) (fun _ _ _ h => h) (Or.inl ⟨by kernel_rfl, fun w' hw => by (go_simp)⟩) hS ?_
    refine wpAnyH_take (i := 3) (v := (.map (some L.fb))) rfl (by kernel_rfl) (by kernel_rfl) (by kernel_rfl) (fun _ _ _ h => h) (Or.inl ⟨by kernel_rfl, fun w' hw => by (obtain ⟨z0, z1⟩ := hw; go_simp)⟩) hS ?_
    refine wpAnyH_take (i := 4) (v := (.int .i64 (i : Int))) rfl (by kernel_rfl) (by kernel_rfl) (by kernel_rfl) (fun _ _ _ h => h) (Or.inl ⟨by kernel_rfl, fun w' hw => by (go_simp)⟩) hS ?_
    refine wpAnyH_take (i := 5) (v := (.pointer (some ⟨L.pb i, 0, none⟩))) rfl (by kernel_rfl) (by kernel_rfl) (by kernel_rfl) (fun _ _ _ h => h) (Or.inl ⟨by kernel_rfl, fun w' hw => by (go_simp)⟩) hS ?_
    refine wpAnyH_take (i := 6) (v := (.pointer (some ⟨L.pb i, 0, none⟩))) rfl (by kernel_rfl) (by kernel_rfl) (by kernel_rfl) (fun _ _ _ h => h) (Or.inl ⟨by kernel_rfl, fun w' hw => by (go_simp)⟩) hS ?_
    refine wpAnyH_take (i := 7) (v := (.pointer (some ⟨L.pb i, 1, none⟩))) rfl (by kernel_rfl) (by kernel_rfl) (by kernel_rfl) (fun _ _ _ h => h) (Or.inl ⟨by kernel_rfl, fun w' hw => by (go_simp)⟩) hS ?_
    refine wpAnyH_take (i := 8) (v := (.int .i64 (n : Int))) rfl (by kernel_rfl) (by kernel_rfl) (by kernel_rfl) (fun _ _ _ h => h) (Or.inl ⟨by kernel_rfl, fun w' hw => by (obtain ⟨z0, z1⟩ := hw; go_simp)⟩) hS ?_
    refine wpAnyH_put_num (z := 9) (.tmp 33) (.tmp 34) (.tmp 38) L.fb L.N (flF σ) i n (by kernel_rfl) rfl (by kernel_rfl) (by kernel_rfl) (by kernel_rfl) (by kernel_rfl) (by kernel_rfl) (by kernel_rfl) HFL2.out HNM.out hwf HNF.out (fun W9 hm9 hg9 => ⟨S9.out W9 hg9, ?_⟩)
    have K9 := hide (KO.out W9 hg9 hm9)
    have HG9 := hide hg9
    clear hg9 hm9
    simp only [Act.put, List.getElem_toArray, List.getElem_cons_zero, List.getElem_cons_succ, List.setIfInBounds_toArray, List.set_cons_zero, List.set_cons_succ]
    go_wp2_with (go_at_call 41; refine (K9.out).mono ?_; rintro e w' ⟨c, σ', L', rfl, hr⟩; have HR := hide hr; clear hr)
    go_ret
    obtain ⟨r1, r2, r3, r4, r5⟩ := HR.out
    have hg : w.grownBy W9 (some L.fb) := ⟨HG9.out.os, HG9.out.tape, HG9.out.output, HG9.out.size, HG9.out.block⟩
    exact ⟨c, σ', L', rfl, r1, r2, fun k hk => (r3 k hk).imp id (fun h => Nat.le_trans hg.size h), (Gr.of_grown (w := w) (X := Foot b L σ) hg (fun k hk => .inl (by cases hk; exact .inr (.inr (.inr (.inl rfl)))))).trans r4 (fun k h => .inl h), r5.1, r5.2.1, fun h0 => by rw [r5.2.2 h0]; exact ⟨rfl, rfl, rfl, rfl, rfl⟩⟩
end
end Go.Proofs.Ytmgeokmgidnneaa
namespace Go.Proofs.Ytmgeokmgidnneaa
open Go.RowKit Go.Shelf
set_option linter.unusedVariables false

/-- A fence is made; the operation is not yet counted. -/
def fnA (σ : St) : St := { fenceDo σ with ops := σ.ops }
theorem fnA_ok {σ : St} (h : σ.Ok) : (fnA σ).Ok := by
  have hp : ∀ i, ∃ k, (fnA σ).past i = (σ.past i).drop k := fun i => by
    show ∃ k, fenP σ false i = _
    unfold fenP
    cases h1 : σ.fl i with
    | none => exact ⟨0, by simp⟩
    | some p => exact ⟨p, by simp⟩
  refine ⟨h.pos, h.max, h.len, h.byte, fun i hi => ?_, fun i c hc => ?_, fun i c hc => ?_, fun i => ?_, fun i k hk => (by cases hk), h.opsm⟩
  · obtain ⟨k, hk⟩ := hp i
    rw [hk, h.out i hi]; simp
  · obtain ⟨k, hk⟩ := hp i
    rw [hk] at hc
    exact h.clen i c (List.mem_of_mem_drop hc)
  · obtain ⟨k, hk⟩ := hp i
    rw [hk] at hc
    exact h.cbyte i c (List.mem_of_mem_drop hc)
  · obtain ⟨k, hk⟩ := hp i
    rw [hk, List.length_drop]
    have := h.few i
    show _ ≤ σ.ops
    omega
section
variable {w : World} {b : Nat} {L : Lay} {σ : St}
set_option maxRecDepth 100000 in
set_option maxHeartbeats 1000000 in
theorem pfence_gen (h : DevL w b L σ) (hok : σ.Ok) (ho : σ.off = false) (hfw : Few σ) (hops : σ.ops < 1400000000000) : Calls Try.prog 19 #[.pointer (some ⟨b, 0, none⟩)] w fun e w' =>
    ∃ c σ' L', e = .returned (.int .i64 c) ∧ Opd (fnA σ) c σ' ∧ DevL w' b L' σ' ∧ (∀ k, Foot b L' σ' k → Foot b L σ k ∨ w.heap.size ≤ k) ∧ Gr (Foot b L σ) w w' ∧ L'.N ≤ L.N ∧ L'.KB = L.KB := by
  have ks := pstate_any h
  rw [ho] at ks
  simp only [Bool.false_eq_true, if_false] at ks
  have c3 := h.c3
  have KS := hide ks
  have HD := hide h
  have HOK := hide hok
  have HFW := hide hfw
  have HOPS := hide hops
  clear h hok ks hfw ho hops
  go_enter Try.func19, Try.ntmps19
  go_wp2_with (first | (go_at_call 29; refine (KS.out).mono ?_; rintro e w' ⟨rfl, hw⟩; obtain rfl := hw.symm) | (at_range; refine wpList_range_num rfl (.tmp 15) rfl L.fb L.N (flF σ) (by kernel_rfl) HD.out.flm ?_; intro W0 hrg0 hg0 hs0; have HRG0 := hide hrg0; have HG0 := hide hg0; have HS0 := hide hs0; clear hrg0 hg0 hs0))
  go_frame
  go_loopw [] (fun wr => ∃ left L', FenR w b L σ w.heap.size wr left L') (fun wr => wr.rangeLeft L.fb w.heap.size)
  case atStart =>
    refine ⟨fun x => (flF σ x).isSome, L, ⟨HRG0.out, ?_, SameL.refl L, rfl, fun k hk => .inl (by rw [fenL_start] at hk; exact hk), Gr.of_grown HG0.out (fun k hk => by cases hk)⟩⟩
    rw [fenL_start]
    exact HD.out.keep fun k hk => HG0.out.block k (by rcases foot_obj2 HD.out hk with ⟨c, t, f, e1⟩ | ⟨c, t, e1⟩ <;> exact lt_of_heap e1) (by simp)
  case round =>
    obtain ⟨left, L', hF⟩ := hrel
    have HF := hide hF
    clear hF
    go_wp2_with (at_next; refine wpList_next_g numL rfl (.tmp 16) rfl L.fb w.heap.size L.N (flF σ) left (by kernel_rfl) HF.out.ran ?_ ?_)
    · intro hl0
      have hne := HF.out.dev
      have hha := (((Below.refl _ wr).alloc (Nat.le_refl _) (.map #[] 0)).block b (lt_of_heap hne.dev)).trans hne.dev
      have c3r : (wr.alloc (.map #[] 0)).cell? ⟨b, 3, none⟩ = some (.map (some L'.fb)) := cell8 hha 3
      have hfz := froz8 hha 3
      have hfa : ({ fenL σ left with fl := fun _ => none } : St) = fnA σ := congrArg (fun s : St => { s with ops := σ.ops }) (fenL_none σ left hl0)
      have hd9 := dev_newfl HF.out.dev
      have hft9 : ∀ k, Foot b { L' with fb := wr.heap.size } (fnA σ) k → Foot b L' (fenL σ left) k ∨ wr.heap.size ≤ k := fun k hk => by
        rw [← hfa] at hk
        rcases hk with h | h | h | h | h | h | h
        · exact .inl (.inl h)
        · exact .inl (.inr (.inl h))
        · exact .inl (.inr (.inr (.inl h)))
        · exact .inr (by rw [h]; exact Nat.le_refl _)
        · exact .inl (.inr (.inr (.inr (.inr (.inl h)))))
        · exact .inl (.inr (.inr (.inr (.inr (.inr (.inl h))))))
        · exact .inl (.inr (.inr (.inr (.inr (.inr (.inr h))))))
      rw [hfa] at hd9
      have ko := poper_gen hd9 (fence_ok (σ := σ) HOK.out HOPS.out) ⟨HFW.out.one, HFW.out.cnt⟩ HOPS.out
      have HFT := hide hft9
      have hmk : (Instr.makeMap 62 none).run Try.prog wr = .ok (.map (some wr.heap.size)) (wr.alloc (.map #[] 0)) := rfl
      have KO := hide ko
      have HL0 := hide hl0
      clear ko hl0 hne c3 hha hfa hd9 hft9
      go_wp2_with (go_at_call 41; refine (KO.out).mono ?_; rintro e w' ⟨c, σ', L9, rfl, hr⟩; have HR := hide hr; clear hr)
      go_ret
      obtain ⟨r1, r2, r3, r4, r5⟩ := HR.out
      have g1 : Gr (Foot b L σ) w ((wr.alloc (.map #[] 0)).setCell ⟨b, 3, none⟩ (.map (some wr.heap.size))) := (HF.out.gr.trans (Gr.of_below ((Below.refl _ wr).alloc (Nat.le_refl _) _) : Gr (Foot b L σ) wr (wr.alloc (.map #[] 0))) (fun i h => .inl h)).trans (Gr.set _ b 3 _ (X := fun k => k = b) rfl) (fun i h => .inl (.inl h))
      have hfo : ∀ k, Foot b { L' with fb := wr.heap.size } (fnA σ) k → Foot b L σ k ∨ w.heap.size ≤ k := fun k hk => (HFT.out k hk).elim (HF.out.foot k) (fun h => .inr (Nat.le_trans HF.out.gr.size h))
      exact ⟨c, σ', L9, rfl, r1, r2, fun k hk => (r3 k hk).elim (hfo k) (fun h => .inr (Nat.le_trans g1.size h)), g1.trans r4 hfo, Nat.le_trans r5.1 (Nat.le_of_eq HF.out.num), r5.2.1.trans HF.out.same.2.2.2.2⟩
    · intro x p w1 hwx hfx hlx hrg1 hlt hg1 hs1 hen
      obtain ⟨hD1, hG1⟩ := HF.out.next hg1 (Nat.le_refl _)
      obtain ⟨i, rfl, hfi⟩ : ∃ i : Nat, x = (i : Int) ∧ σ.fl i = some p := by
        unfold flF at hfx
        split at hfx
        · exact ⟨x.toNat, by omega, hfx⟩
        · cases hfx
      obtain ⟨hpl, hpi⟩ := HOK.out.flp i p hfi
      obtain ⟨hst, hpa⟩ := fenL_step σ left i p hfi hlx
      have hpi' : (fenL σ left).past i ≠ [] := by rw [hpa]; exact hpi
      have hof : oldF L' (fenL σ left) (i : Int) = some (L'.pb i) := by unfold oldF; rw [if_pos ⟨by omega, by simpa using hpi'⟩]; simp
      have hP := hD1.pasts i hpi'
      rw [hpa] at hP
      have hfew := HOK.out.few i
      have hopm := HOK.out.opsm
      have kd := pdrop_any (L'.pb i) p (L'.rv i) (σ.past i) w1 hP hpl hpi (by omega)
      have c2 := hD1.c2
      have hbp : b ≠ L'.pb i := ne_ty hD1.dev hP.1 (by decide)
      obtain ⟨eo, qo, hob⟩ := hD1.old.block
      have hop : L'.ob ≠ L'.pb i := fun e => ne_map hP.1 hob e.symm
      have KD := hide kd
      have HD1 := hide hD1
      have HG1 := hide hG1
      have HRG1 := hide hrg1
      have HFI := hide hfi
      have HLX := hide hlx
      have HPI := hide hpi
      have HPI2 := hide hpi'
      have HOF := hide hof
      have HBP := hide hbp
      have HOP := hide hop
      have HOB := hide hob
      have HLT := hide hlt
      have HFX := hide hfx
      have hpI : (p : Int) ≤ 1400000000000 := by omega
      clear kd hD1 hG1 hrg1 hfi hlx hpi hpi' hof hbp hop hob hlt hg1 hs1 hst hpa hP hfew hopm hpl hfx c3
      by_cases hz : (σ.past i).drop p = []
      · have HZ := hide hz
        clear hz
        go_wp2_with (first | (at_lookup; refine wpList_look_ptr' rfl (.tmp 25) (.tmp 26) rfl L'.ob L'.N (oldF L' (fenL σ left)) (by kernel_rfl) HD1.out.old (i : Int) (by simp [Act.eval]) hwx (L'.pb i) HOF.out ?_) | (go_at_call 42; refine (KD.out).mono ?_; rintro e W2 ⟨rfl, v', hp2, hv2, hg2⟩; have cz : W2.cell? ⟨L'.pb i, 1, none⟩ = some (.int .i64 0) := (by have h5 := cell8 hp2.1 1; rw [HZ.out] at h5; exact h5); have cb : W2.cell? ⟨b, 2, none⟩ = some (.map (some L'.ob)) := cell8 ((hg2.block (lt_of_heap HD1.out.dev) HBP.out).trans HD1.out.dev) 2; have hm2 := HD1.out.old.of_block (hg2.block (lt_of_heap HOB.out) HOP.out); have HP2 := hide hp2; have HV2 := hide hv2; have HG2 := hide hg2; have HM2 := hide hm2; clear hp2 hv2 hg2 hm2) | (at_delete; refine wpList_del_ptr rfl (.tmp 39) (.tmp 40) rfl L'.ob L'.N (oldF L' (fenL σ left)) (by kernel_rfl) HM2.out (i : Int) (by simp [Act.eval]) hwx ?_; intro W3 hm3 hg3; go_frame; have HM3 := hide hm3; have HG3 := hide hg3; clear hm3 hg3))
        go_roundw
        case rel =>
          have hB := HG3.out
          exact ⟨_, _, (FenR.step (v' := v') HD1.out HF.out.same HF.out.num HF.out.foot HG1.out HFI.out HLX.out HPI.out HRG1.out (HG2.out.mono (fun k h => .inl h) |>.trans (Gr.of_grown (X := fun k => k = L'.pb i ∨ k = L'.ob) hB (fun k hk => by cases hk; exact .inl (.inr rfl))) (fun i h => .inl h)) (by rw [HZ.out]; exact HM3.out.congr (fun x => old_less x)) (fun h => absurd HZ.out h) HV2.out).1⟩
        case measure =>
          have hB := HG3.out
          have h9 := (FenR.step (v' := v') HD1.out HF.out.same HF.out.num HF.out.foot HG1.out HFI.out HLX.out HPI.out HRG1.out (HG2.out.mono (fun k h => .inl h) |>.trans (Gr.of_grown (X := fun k => k = L'.pb i ∨ k = L'.ob) hB (fun k hk => by cases hk; exact .inl (.inr rfl))) (fun i h => .inl h)) (by rw [HZ.out]; exact HM3.out.congr (fun x => old_less x)) (fun h => absurd HZ.out h) HV2.out).2
          rw [h9]
          exact HLT.out
      · obtain ⟨q, hq⟩ : ∃ q, q = ((σ.past i).drop p).length := ⟨_, rfl⟩
        have hz2 : (0 : Int) < (q : Int) := by
          have := List.length_pos_iff.2 hz
          omega
        have HZ := hide hz
        have HQ := hide hq
        clear hz hq
        go_wp2_with (first | (at_lookup; refine wpList_look_ptr' rfl (.tmp 25) (.tmp 26) rfl L'.ob L'.N (oldF L' (fenL σ left)) (by kernel_rfl) HD1.out.old (i : Int) (by simp [Act.eval]) hwx (L'.pb i) HOF.out ?_) | (go_at_call 42; refine (KD.out).mono ?_; rintro e W2 ⟨rfl, v', hp2, hv2, hg2⟩; have cz : W2.cell? ⟨L'.pb i, 1, none⟩ = some (.int .i64 (q : Int)) := (by have h5 := cell8 hp2.1 1; rw [← HQ.out] at h5; exact h5); have hm2 := HD1.out.old.of_block (hg2.block (lt_of_heap HOB.out) HOP.out); have HP2 := hide hp2; have HV2 := hide hv2; have HG2 := hide hg2; have HM2 := hide hm2; clear hp2 hv2 hg2 hm2))
        go_roundw
        case rel => exact ⟨_, _, (FenR.step (v' := v') HD1.out HF.out.same HF.out.num HF.out.foot HG1.out HFI.out HLX.out HPI.out HRG1.out (HG2.out.mono (fun k h => .inl h)) (HM2.out.congr (fun x => old_same HPI2.out HZ.out x)) (fun _ => HP2.out) HV2.out).1⟩
        case measure =>
          have h9 := (FenR.step (v' := v') HD1.out HF.out.same HF.out.num HF.out.foot HG1.out HFI.out HLX.out HPI.out HRG1.out (HG2.out.mono (fun k h => .inl h)) (HM2.out.congr (fun x => old_same HPI2.out HZ.out x)) (fun _ => HP2.out) HV2.out).2
          rw [h9]
          exact HLT.out
end
end Go.Proofs.Ytmgeokmgidnneaa
namespace Go.Proofs.Ytmgeokmgidnneaa
open Go.RowKit Go.Shelf
set_option linter.unusedVariables false

/-- The word of a step. -/
def StpR.w (s : StpR) (N : Nat) : Nat := (s.a % (N : Int)).toNat
/-- What a step makes of a book. -/
def stB (s : StpR) (N : Nat) (B : Bk) : Bk := if s.k = 2 ∨ s.k = 3 then bstore B (s.w N) s.v else if s.k = 4 then bflush B (s.w N / 8) else if s.k = 5 then bfence B else B
/-- What a step makes of a device, and what is answered. -/
def StepD (s : StpR) (N : Nat) (σ : St) (c : Int) (σ' : St) : Prop :=
  if s.k = 2 ∨ s.k = 3 then Opd (wordA (leB 8 s.v) (8 * s.w N) σ (s.w N)) c σ' else if s.k = 4 then Opd (flA σ (s.w N / 8)) c σ' else if s.k = 5 then Opd (fnA σ) c σ' else c = 0 ∧ σ' = σ
theorem Opd.ops {σ σ' : St} {c : Int} (h : Opd σ c σ') : σ'.ops = σ.ops + 1 := by
  rcases h with ⟨_, _, h⟩ | ⟨_, _, _, ⟨_, _, h⟩ | ⟨_, _, h⟩⟩
  · rw [h]
  · rw [h]
  · rw [h.ops]
theorem WrD.one {bs : List Nat} {at_ w : Nat} {σ σ' : St} {c : Int} (h : WrD bs at_ σ [w] c σ') (hf : Few σ) : Opd (wordA bs at_ σ w) c σ' := by
  rcases h with ⟨rfl, rfl, h3⟩ | ⟨rfl, pre, no, hp, h3⟩
  · have e : writeG bs at_ σ [w] = tick (wordA bs at_ σ w) := rfl
    rw [e]
    rcases hf.one with ha | ⟨af, kp, ha, _⟩
    · refine .inl ⟨ha, rfl, ?_⟩
      unfold tick
      rw [if_pos (show (wordA bs at_ σ w).arms = [] from ha)]
    · refine .inr ⟨af, kp, ha, .inl ⟨h3 af kp ha (by simp), rfl, ?_⟩⟩
      unfold tick
      rw [if_neg (show ¬ (wordA bs at_ σ w).arms = [] from by rw [show (wordA bs at_ σ w).arms = σ.arms from rfl, ha]; simp)]
  · obtain ⟨rfl, rfl⟩ : pre = [] ∧ no = w := by
      have hl := hp.length_le
      simp at hl
      subst hl
      obtain ⟨t, ht⟩ := hp
      simp at ht
      exact ⟨rfl, ht.1⟩
    exact h3
section
variable {W W1 X X' : World} {p b : Nat} {K K' : Kl} {B B' : Bk} {L L' : Lay} {σ σ' : St}
/-- The device is as it was, while the book has changed. -/
theorem play_dev (hd : DevL W b L σ) (dis : ∀ k, FootP p K B k → ¬ Foot b L σ k) (hB : Below W.heap.size W W1) (hg : Gr (FootR (rowsOf K B)) W1 X) : DevL X b L σ :=
  (hd.below hB).keep fun k hk => hg.block (Nat.lt_of_lt_of_le (hd.foot_is hk) hB.size) (fun hf => dis k (.inr hf) hk)
theorem play_post (hd : DevL W b L σ) (dis : ∀ k, FootP p K B k → ¬ Foot b L σ k) (hB : Below W.heap.size W W1) (hp : PlL X p b K' B') (hg : Gr (FootR (rowsOf K B)) W1 X) (hft : ∀ k, FootP p K' B' k → FootP p K B k ∨ W.heap.size ≤ k) (hd' : DevL X' b L' σ') (hf' : ∀ k, Foot b L' σ' k → Foot b L σ k ∨ X.heap.size ≤ k) (hg' : Gr (Foot b L σ) X X') :
    PlL X' p b K' B' ∧ Gr (fun k => Foot b L σ k ∨ FootP p K B k) W X' ∧ (∀ k, Foot b L' σ' k → Foot b L σ k ∨ W.heap.size ≤ k) ∧ (∀ k, FootP p K' B' k → ¬ Foot b L' σ' k) := by
  have hsz : W.heap.size ≤ X.heap.size := Nat.le_trans hB.size hg.size
  have hnf : ∀ k, FootP p K' B' k → ¬ Foot b L σ k := fun k hk hf => by
    rcases hft k hk with h | h
    · exact dis k h hf
    · have := hd.foot_is hf; omega
  refine ⟨hp.gr hg' hnf, ?_, fun k hk => (hf' k hk).imp id (fun h => by omega), fun k hk hf => ?_⟩
  · exact ((Gr.of_below hB : Gr (fun k => Foot b L σ k ∨ FootP p K B k) W W1).trans (hg.mono (fun k h => .inr (.inr h))) (fun i h => .inl h)).trans (hg'.mono (fun k h => .inl h)) (fun i h => .inl h)
  · rcases hf' k hf with h | h
    · exact hnf k hk h
    · have := hp.lt hk; omega
end
set_option maxRecDepth 100000 in
theorem played_any {W : World} {p b N m : Nat} {K : Kl} {B : Bk} {L : Lay} {σ : St} (s : StpR) (hsok : s.Ok) (h : PlL W p b K B) (hd : DevL W b L σ) (hok : σ.Ok) (ho : σ.off = false) (hfw : Few σ) (hN : L.N ≤ σ.ops) (hcn : σ.cnt + 600000 ≤ 1400000000000) (hops : σ.ops + 600000 ≤ 1400000000000)
    (hn : σ.n = m) (hNm : N = 8 * m) (hm4 : m ≤ 4) (hm1 : 1 ≤ m) (hs : B.seen.length = N) (hh : B.held.length = N) (hl : B.last.length = N) (hu : B.sure.length = N) (hm : B.marks.length = m) (hcap : ∀ l ∈ B.held, l.length ≤ 1399000000000) (dis : ∀ k, FootP p K B k → ¬ Foot b L σ k) :
    Calls Try.prog 23 #[.pointer (some ⟨p, 0, none⟩), .agg s.vals] W fun e W' => ∃ c K' L' σ', e = .returned (.bool (decide (c = 0))) ∧ StepD s N σ c σ' ∧ DevL W' b L' σ' ∧ L'.N ≤ σ'.ops ∧ PlL W' p b K' (stB s N B) ∧ Gr (fun k => Foot b L σ k ∨ FootP p K B k) W W' ∧ (∀ k, Foot b L' σ' k → Foot b L σ k ∨ W.heap.size ≤ k) ∧ (∀ k, FootP p K' (stB s N B) k → ¬ Foot b L' σ' k) ∧ (∀ k, FootP p K' (stB s N B) k → FootP p K B k ∨ W.heap.size ≤ k) := by
  obtain ⟨k, a, n, v, da, dl, dc, ka, kl, kc, aa, al, ac⟩ := s
  obtain ⟨hlo, hhi, hv⟩ := hsok
  simp only at hlo hhi hv
  show Calls Try.prog 23 #[.pointer (some ⟨p, 0, none⟩), .agg #[.int .i64 k, .int .i64 a, .int .i64 n, .int .u64 (v : Int), .slice da dl dc, .slice ka kl kc, .slice aa al ac]] W _
  have hmx := hok.max
  obtain ⟨w, hw, hwN⟩ : ∃ w : Nat, a % (N : Int) = (w : Int) ∧ w < N := ⟨(a % (N : Int)).toNat, by have h2 := Int.emod_nonneg a (show (N : Int) ≠ 0 by omega); omega, by have h1 := Int.emod_lt_of_pos a (show (0 : Int) < (N : Int) by omega); have h2 := Int.emod_nonneg a (show (N : Int) ≠ 0 by omega); omega⟩
  have ew : (StpR.mk k a n v da dl dc ka kl kc aa al ac).w N = w := by show (a % (N : Int)).toNat = w; omega
  have kw := fun X => pwithin_any X a (N : Int) (by omega) (by omega) hlo hhi
  rw [hw] at kw
  have hB1 : Below W.heap.size W (W.alloc (.cells #[.int .i64 k, .int .i64 a, .int .i64 n, .int .u64 (v : Int), .slice da dl dc, .slice ka kl kc, .slice aa al ac] 59)) := (Below.refl _ _).alloc (Nat.le_refl _) _
  have hpf : ¬ Foot b L σ p := dis p (.inl rfl)
  have hbf : ¬ Foot b L σ W.heap.size := fun hf => by have := hd.foot_is hf; omega
  have h8 : wordsOf (8 * w) 8 = [w] := by
    rw [wordsOf_eq (8 * w) 8 (by omega), if_neg (by omega)]
    have e : (8 * w + 8 - 1) / 8 - 8 * w / 8 + 1 = 1 := by omega
    rw [e]
    simp
  have store : ∀ X K', PlL X p b K' (bstore B w v) → Gr (FootR (rowsOf K B)) (W.alloc (.cells #[.int .i64 k, .int .i64 a, .int .i64 n, .int .u64 (v : Int), .slice da dl dc, .slice ka kl kc, .slice aa al ac] 59)) X → (∀ k, FootP p K' (bstore B w v) k → FootP p K B k ∨ W.heap.size ≤ k) → Calls Try.prog 14 #[.pointer (some ⟨b, 0, none⟩), .int .i64 (8 * (w : Int)), .int .u64 (v : Int)] X fun e X' => ∃ c, e = .returned (.int .i64 c) ∧ (∃ L' σ', Opd (wordA (leB 8 v) (8 * w) σ w) c σ' ∧ DevL X' b L' σ' ∧ L'.N ≤ L.N + 1 ∧ PlL X' p b K' (bstore B w v) ∧ Gr (fun k => Foot b L σ k ∨ FootP p K B k) W X' ∧ (∀ k, Foot b L' σ' k → Foot b L σ k ∨ W.heap.size ≤ k) ∧ (∀ k, FootP p K' (bstore B w v) k → ¬ Foot b L' σ' k) ∧ (∀ k, FootP p K' (bstore B w v) k → FootP p K B k ∨ W.heap.size ≤ k)) ∧ X'.cell? ⟨p, 0, none⟩ = X.cell? ⟨p, 0, none⟩ ∧ X'.cell? ⟨W.heap.size, 3, none⟩ = X.cell? ⟨W.heap.size, 3, none⟩ := fun X K' hp hg hft => by
    have hdX := play_dev hd dis hB1 hg
    have hs8 := pst8_gen (at_ := 8 * w) v hdX hok ho hN hfw hcn hops (by omega) (by omega) hv
    rw [show ((8 * w : Nat) : Int) = 8 * (w : Int) by omega, h8] at hs8
    refine hs8.mono ?_
    rintro e X' ⟨c, σ', L', rfl, q1, q2, q3, q4, q5, _⟩
    obtain ⟨r1, r2, r3, r4⟩ := play_post hd dis hB1 hp hg hft q2 q3 q4
    have hpx : p < X.heap.size := hp.lt (.inl rfl)
    have hbx : W.heap.size < X.heap.size := by have := hg.size; rw [World.size_alloc] at this; omega
    exact ⟨c, rfl, ⟨L', σ', q1.one hfw, q2, q5, r1, r2, r3, r4, hft⟩, World.cell?_of_block (q4.block hpx hpf), World.cell?_of_block (q4.block hbx hbf)⟩
  by_cases h2 : k = 2
  · subst h2
    have eB : stB (StpR.mk 2 a n v da dl dc ka kl kc aa al ac) N B = bstore B w v := by unfold stB; rw [ew]; simp
    have eD : ∀ c σ', StepD (StpR.mk 2 a n v da dl dc ka kl kc aa al ac) N σ c σ' = (Opd (wordA (leB 8 v) (8 * w) σ w) c σ') := fun c σ' => by unfold StepD; rw [ew]; simp
    rw [eB]
    simp only [eD]
    refine (play_store2 p b N m w a n v da dl dc ka kl kc aa al ac W K B _ kw hwN hNm hm4 h hs hh hl hu hm hcap store).mono ?_
    rintro e W' ⟨c, K', rfl, L', σ', q1, q2, q3, q⟩
    exact ⟨c, K', L', σ', rfl, q1, q2, by have h9 := q1.ops; have h7 : (wordA (leB 8 v) (8 * w) σ w).ops = σ.ops := rfl; omega, q⟩
  · by_cases h3 : k = 3
    · subst h3
      have eB : stB (StpR.mk 3 a n v da dl dc ka kl kc aa al ac) N B = bstore B w v := by unfold stB; rw [ew]; simp
      have eD : ∀ c σ', StepD (StpR.mk 3 a n v da dl dc ka kl kc aa al ac) N σ c σ' = (Opd (wordA (leB 8 v) (8 * w) σ w) c σ') := fun c σ' => by unfold StepD; rw [ew]; simp
      rw [eB]
      simp only [eD]
      refine (play_store3 p b N m w a n v da dl dc ka kl kc aa al ac W K B _ kw hwN hNm hm4 h hs hh hl hu hm hcap store).mono ?_
      rintro e W' ⟨c, K', rfl, L', σ', q1, q2, q3, q⟩
      exact ⟨c, K', L', σ', rfl, q1, q2, by have h9 := q1.ops; have h7 : (wordA (leB 8 v) (8 * w) σ w).ops = σ.ops := rfl; omega, q⟩
    · by_cases h4 : k = 4
      · subst h4
        have eB : stB (StpR.mk 4 a n v da dl dc ka kl kc aa al ac) N B = bflush B (w / 8) := by unfold stB; rw [ew]; simp
        have eD : ∀ c σ', StepD (StpR.mk 4 a n v da dl dc ka kl kc aa al ac) N σ c σ' = (Opd (flA σ (w / 8)) c σ') := fun c σ' => by unfold StepD; rw [ew]; simp
        rw [eB]
        simp only [eD]
        obtain ⟨sg, sc, lg, lc, ug, uc, mg, mc, hli⟩ := h.lies hs hl hu hm (by omega) (by omega)
        have h1 := h.below hB1
        obtain ⟨c0, c1, c3, c4, c5⟩ := hli.cells h1
        obtain ⟨x, hx⟩ : ∃ x, B.marks[w / 8]? = some x := ⟨_, List.getElem?_eq_getElem (by rw [hm]; omega)⟩
        obtain ⟨cm, fm⟩ := h1.markC hli.m hx
        have h2' := h1.set_mark (j := w / 8) (x := 1) hli.m hm
        have hg2 : Gr (FootR (rowsOf K B)) (W.alloc (.cells #[.int .i64 4, .int .i64 a, .int .i64 n, .int .u64 (v : Int), .slice da dl dc, .slice ka kl kc, .slice aa al ac] 59)) ((W.alloc (.cells #[.int .i64 4, .int .i64 a, .int .i64 n, .int .u64 (v : Int), .slice da dl dc, .slice ka kl kc, .slice aa al ac] 59)).setCell ⟨mg, w / 8, none⟩ (MI 1)) := Gr.set _ mg _ _ (X := FootR (rowsOf K B)) hli.xm
        have hft : ∀ k, FootP p K (bflush B (w / 8)) k → FootP p K B k ∨ W.heap.size ≤ k := fun k hk => .inl (hk.imp id (fun h => foot_fB (K := K) (B := B) (B' := bflush B (w / 8)) rfl h))
        have hdX := play_dev hd dis hB1 hg2
        have hfl := pflush_gen hdX hok ho hfw (8 * w) (by omega) (by omega) hN
        rw [show ((8 * w : Nat) : Int) = 8 * (w : Int) by omega, show 8 * w / 64 = w / 8 by omega] at hfl
        refine (play_flush p b N sg sc m mg mc w a n v da dl dc ka kl kc aa al ac W _ (fun c X' => ∃ L' σ', Opd (flA σ (w / 8)) c σ' ∧ DevL X' b L' σ' ∧ L'.N ≤ L.N + 1 ∧ PlL X' p b K (bflush B (w / 8)) ∧ Gr (fun k => Foot b L σ k ∨ FootP p K B k) W X' ∧ (∀ k, Foot b L' σ' k → Foot b L σ k ∨ W.heap.size ≤ k) ∧ (∀ k, FootP p K (bflush B (w / 8)) k → ¬ Foot b L' σ' k) ∧ (∀ k, FootP p K (bflush B (w / 8)) k → FootP p K B k ∨ W.heap.size ≤ k)) kw hwN (by omega) (by omega) c1 c5 cm fm (h2'.c 0) (hfl.mono ?_)).mono ?_
        · rintro e X' ⟨c, σ', L', rfl, q1, q2, q3, q4, q5, _⟩
          obtain ⟨r1, r2, r3, r4⟩ := play_post hd dis hB1 h2' hg2 hft q2 q3 q4
          exact ⟨c, rfl, L', σ', q1, q2, q5, r1, r2, r3, r4, hft⟩
        · rintro e W' ⟨c, rfl, L', σ', q1, q2, q3, q⟩
          exact ⟨c, K, L', σ', rfl, q1, q2, by have h9 := q1.ops; have h7 : (flA σ (w / 8)).ops = σ.ops := rfl; omega, q⟩
      · by_cases h5 : k = 5
        · subst h5
          have eB : stB (StpR.mk 5 a n v da dl dc ka kl kc aa al ac) N B = bfence B := by unfold stB; rw [ew]; simp
          have eD : ∀ c σ', StepD (StpR.mk 5 a n v da dl dc ka kl kc aa al ac) N σ c σ' = (Opd (fnA σ) c σ') := fun c σ' => by unfold StepD; rw [ew]; simp
          rw [eB]
          simp only [eD]
          have hft : ∀ k, FootP p K (bfence B) k → FootP p K B k ∨ W.heap.size ≤ k := fun k hk => .inl (hk.imp id (fun h => foot_fB (K := K) (B := B) (B' := bfence B) rfl h))
          refine (play_fence p b N m w a n v da dl dc ka kl kc aa al ac W K B (fun c X' => ∃ L' σ', Opd (fnA σ) c σ' ∧ DevL X' b L' σ' ∧ L'.N ≤ L.N + 1 ∧ PlL X' p b K (bfence B) ∧ Gr (fun k => Foot b L σ k ∨ FootP p K B k) W X' ∧ (∀ k, Foot b L' σ' k → Foot b L σ k ∨ W.heap.size ≤ k) ∧ (∀ k, FootP p K (bfence B) k → ¬ Foot b L' σ' k) ∧ (∀ k, FootP p K (bfence B) k → FootP p K B k ∨ W.heap.size ≤ k)) kw hwN hNm hm4 h hs hl hu hm (fun X hp hg => ?_)).mono ?_
          · have hdX := play_dev hd dis hB1 hg
            refine (pfence_gen hdX hok ho hfw (by omega)).mono ?_
            rintro e X' ⟨c, σ', L', rfl, q1, q2, q3, q4, q5, _⟩
            obtain ⟨r1, r2, r3, r4⟩ := play_post hd dis hB1 hp hg hft q2 q3 q4
            exact ⟨c, rfl, L', σ', q1, q2, by omega, r1, r2, r3, r4, hft⟩
          · rintro e W' ⟨c, rfl, L', σ', q1, q2, q3, q⟩
            exact ⟨c, K, L', σ', rfl, q1, q2, by have h9 := q1.ops; have h7 : (fnA σ).ops = σ.ops := rfl; omega, q⟩
        · have eB : stB (StpR.mk k a n v da dl dc ka kl kc aa al ac) N B = B := by unfold stB; rw [ew]; simp [h2, h3, h4, h5]
          have eD : ∀ c σ', StepD (StpR.mk k a n v da dl dc ka kl kc aa al ac) N σ c σ' = (c = 0 ∧ σ' = σ) := fun c σ' => by unfold StepD; rw [ew]; simp [h2, h3, h4, h5]
          rw [eB]
          simp only [eD]
          obtain ⟨sg, sc, lg, lc, ug, uc, mg, mc, hli⟩ := h.lies hs hl hu hm (by omega) (by omega)
          have h1 := h.below hB1
          obtain ⟨c0, c1, c3, c4, c5⟩ := hli.cells h1
          refine (play_none p b N sg sc w a n v da dl dc ka kl kc aa al ac W k h2 h3 h4 h5 kw hwN (by omega) c1).mono ?_
          rintro e W' ⟨rfl, rfl⟩
          exact ⟨0, K, L, σ, rfl, ⟨rfl, rfl⟩, hd.below hB1, hN, h1, (Gr.of_below hB1), fun k hk => .inl hk, dis, fun k hk => .inl hk⟩
/-- A step where no loss waits. -/
structure StepOk (B : Bk) (σ : St) : Prop where
  rel : BkRel B σ
  ok : σ.Ok
  off : σ.off = false
  arms : σ.arms = []
  cnt : σ.cnt = 0
theorem StepOk.step {s : StpR} {N : Nat} {B : Bk} {σ σ' : St} {c : Int} (h : StepOk B σ) (hN : N = 8 * σ.n) (hv : s.v < 18446744073709551616) (hops : σ.ops + 600000 ≤ 1400000000000) (hd : StepD s N σ c σ') : c = 0 ∧ StepOk (stB s N B) σ' ∧ σ'.n = σ.n ∧ σ'.ops ≤ σ.ops + 1 := by
  have hpos := h.ok.pos
  have hw : s.w N < 8 * σ.n := by
    unfold StpR.w
    have h1 := Int.emod_lt_of_pos s.a (show (0 : Int) < (N : Int) by omega)
    have h2 := Int.emod_nonneg s.a (show (N : Int) ≠ 0 by omega)
    omega
  unfold StepD at hd
  unfold stB
  by_cases k2 : s.k = 2 ∨ s.k = 3
  · rw [if_pos k2] at hd ⊢
    rcases hd with ⟨_, rfl, rfl⟩ | ⟨_, _, e, _⟩
    · have e : ({ wordA (leB 8 s.v) (8 * s.w N) σ (s.w N) with ops := (wordA (leB 8 s.v) (8 * s.w N) σ (s.w N)).ops + 1 } : St) = word8 σ (s.w N) s.v := rfl
      rw [e]
      obtain ⟨q1, q2⟩ := word_part (at_ := 8 * s.w N) (no := s.w N) (leB_lt 8 s.v) h.ok (by omega)
      exact ⟨rfl, ⟨h.rel.store h.ok hw hv, put_ok h.ok (by omega) q1 q2 (by omega), h.off, h.arms, h.cnt⟩, rfl, by show σ.ops + 1 ≤ _; omega⟩
    · have e : σ.arms = _ := e
      rw [h.arms] at e; cases e
  · rw [if_neg k2] at hd ⊢
    by_cases k4 : s.k = 4
    · rw [if_pos k4] at hd ⊢
      rcases hd with ⟨_, rfl, rfl⟩ | ⟨_, _, e, _⟩
      · have e : ({ flA σ (s.w N / 8) with ops := (flA σ (s.w N / 8)).ops + 1 } : St) = flushDo σ (s.w N / 8) := rfl
        rw [e]
        exact ⟨rfl, ⟨h.rel.flush (by omega), flush_ok h.ok _ (by omega), h.off, h.arms, h.cnt⟩, rfl, by show σ.ops + 1 ≤ _; omega⟩
      · have e : σ.arms = _ := e
        rw [h.arms] at e; cases e
    · rw [if_neg k4] at hd ⊢
      by_cases k5 : s.k = 5
      · rw [if_pos k5] at hd ⊢
        rcases hd with ⟨_, rfl, rfl⟩ | ⟨_, _, e, _⟩
        · have e : ({ fnA σ with ops := (fnA σ).ops + 1 } : St) = fenceDo σ := rfl
          rw [e]
          exact ⟨rfl, ⟨h.rel.fence h.ok, fence_ok h.ok (by omega), h.off, h.arms, h.cnt⟩, rfl, by show σ.ops + 1 ≤ _; omega⟩
        · have e : σ.arms = _ := e
          rw [h.arms] at e; cases e
      · rw [if_neg k5] at hd ⊢
        obtain ⟨rfl, rfl⟩ := hd
        exact ⟨rfl, h, rfl, by omega⟩
theorem stB_held {s : StpR} {N m : Nat} {B : Bk} (h : ∀ l ∈ B.held, l.length ≤ m) : ∀ l ∈ (stB s N B).held, l.length ≤ m + 1 := by
  intro l hl
  unfold stB at hl
  split at hl
  · have hl : l ∈ B.held.set (s.w N) (B.held.getD (s.w N) [] ++ [s.v]) := hl
    rcases List.mem_or_eq_of_mem_set hl with h1 | h1
    · have := h l h1; omega
    · rw [h1, List.length_append]
      have : (B.held.getD (s.w N) []).length ≤ m := by
        rw [List.getD_eq_getElem?_getD]
        cases hq : B.held[s.w N]? with
        | none => simp
        | some l0 => exact h l0 (List.mem_of_getElem? hq)
      have e1 : [s.v].length = 1 := rfl
      omega
  · split at hl
    · have := h l hl; omega
    · split at hl
      · have := h l hl; omega
      · have := h l hl; omega
end Go.Proofs.Ytmgeokmgidnneaa
namespace Go.Proofs.Ytmgeokmgidnneaa
open Go.ChangeShapes Go.WideShapes Go.ChangeAt Go.RowKit
set_option linter.unusedVariables false

theorem own : ownKnob Try.prog.godebug = none := by kernel_rfl
theorem laidOut : laidOutB Try.prog = true := by kernel_rfl
theorem Try.bytes5 : Try.prog.bytesOf 5 = 1 := by kernel_rfl

/-- Numbers that fit a byte, as naturals. -/
theorem nats_of (zs : List Int) (h : ∀ n ∈ zs, (Lit.int .u8 n).wf = true) : ∃ bs : List Nat, zs = bs.map (fun (x : Nat) => (x : Int)) ∧ ∀ x ∈ bs, x < 256 := by
  refine ⟨zs.map Int.toNat, ?_, ?_⟩
  · rw [List.map_map]
    refine (List.map_id zs).symm.trans (List.map_congr_left fun z hz => ?_)
    have := bounds_u8 (h z hz)
    simp
    omega
  · intro x hx
    obtain ⟨z, hz, rfl⟩ := List.mem_map.1 hx
    have := bounds_u8 (h z hz)
    omega

theorem open_bytes {H : Type} {enc : TypeId × Value → H} {W : World} {a : Option Addr} {len cap : Nat} {d : DataW H} {p : List MemPlace} (h : DataW.Trod enc Try.prog W 0 (fun _ => true) true 36 (.slice a len cap) d p)
    (hz : ∀ el sp, d = .slice el sp → (el.length + sp.length) * Try.prog.bytesOf 5 ≤ reachBytes) : ∃ bs : List Nat, len = bs.length ∧ Sl W a bs ∧ bs.length ≤ 140737488351232 ∧ (a = none → cap = 0) ∧ len ≤ cap ∧ cap ≤ maxLen ∧ (d = .nil ∧ bs = [] ∨ ∃ el sp, d = .slice el sp ∧ el.length = bs.length) := by
  obtain ⟨fuel, hf⟩ := h
  rcases open_ints Try.underlying36 Try.underlying5 (by kernel_rfl) hf with ⟨hcs, _⟩ | ⟨x, l, c, zs, hcs, _, hl, hm, hzl, hx, hcell, hwz⟩
  · simp [Value.cells] at hcs
    obtain ⟨rfl, rfl, rfl⟩ := hcs
    rename_i hx0
    simp only [Prod.mk.injEq] at hx0
    exact ⟨[], rfl, .inl rfl, by simp, fun _ => rfl, Nat.le_refl _, Nat.zero_le _, .inl ⟨hx0.1, rfl⟩⟩
  · simp [Value.cells] at hcs
    obtain ⟨rfl, rfl, rfl⟩ := hcs
    simp only [Prod.mk.injEq] at hx
    obtain ⟨hd, _⟩ := hx
    have hw := hz _ _ hd
    obtain ⟨bs, rfl, hb⟩ := nats_of zs hwz
    simp only [if_true, List.length_map] at hzl
    rw [Try.bytes5] at hw
    simp only [lits, List.length_map, List.length_take, List.length_drop, reachBytes] at hw
    refine ⟨bs.take len, by rw [List.length_take]; omega, ?_, by rw [List.length_take]; omega, fun h => (by cases h), hl, hm, .inr ⟨_, _, hd, by simp [lits]⟩⟩
    by_cases h0 : len = 0
    · subst h0; exact .inl (by simp)
    · obtain ⟨b, off, spot⟩ := x
      have hc := hcell 0 (by simp; omega)
      have hspot : spot = none := by simpa [Addr.add] using World.cell?_spot hc
      subst hspot
      refine .inr ⟨b, off, rfl, ?_, fun i y hy => ?_⟩
      · exact World.block_lt_of_cell? _ _ hc
      · have hi : i < len := by
          have := (List.getElem?_eq_some_iff.1 hy).1
          rw [List.length_take] at this
          omega
        rw [List.getElem?_take, if_pos hi] at hy
        have h1 := hcell i (by simp; omega)
        refine ⟨?_, hb y (List.mem_of_getElem? hy)⟩
        have e : (⟨b, off, none⟩ : Addr).add i = ⟨b, off + i, none⟩ := by simp [Addr.add]
        rw [e] at h1
        rw [h1, List.getD_eq_getElem?_getD, List.getElem?_map, hy]
        rfl
theorem open_bytes_up {H : Type} {enc : TypeId × Value → H} {W : World} {a : Option Addr} {len cap : Nat} {d : DataW H} {p : List MemPlace} (h : DataW.Trod enc Try.prog W 0 (fun _ => true) true 36 (.slice a len cap) d p) : ∃ bs : List Nat, len = bs.length ∧ Sl W a bs ∧ bs.length ≤ maxLen ∧ (a = none → cap = 0) ∧ len ≤ cap ∧ cap ≤ maxLen ∧ (d = .nil ∧ bs = [] ∨ ∃ el sp, d = .slice el sp ∧ el.length = bs.length) := by
  obtain ⟨fuel, hf⟩ := h
  rcases open_ints Try.underlying36 Try.underlying5 (by kernel_rfl) hf with ⟨hcs, _⟩ | ⟨x, l, c, zs, hcs, _, hl, hm, hzl, hx, hcell, hwz⟩
  · simp [Value.cells] at hcs
    obtain ⟨rfl, rfl, rfl⟩ := hcs
    rename_i hx0
    simp only [Prod.mk.injEq] at hx0
    exact ⟨[], rfl, .inl rfl, by simp, fun _ => rfl, Nat.le_refl _, Nat.zero_le _, .inl ⟨hx0.1, rfl⟩⟩
  · simp [Value.cells] at hcs
    obtain ⟨rfl, rfl, rfl⟩ := hcs
    simp only [Prod.mk.injEq] at hx
    obtain ⟨hd, _⟩ := hx
    obtain ⟨bs, rfl, hb⟩ := nats_of zs hwz
    simp only [if_true, List.length_map] at hzl
    refine ⟨bs.take len, by rw [List.length_take]; omega, ?_, by rw [List.length_take]; omega, fun h => (by cases h), hl, hm, .inr ⟨_, _, hd, by simp [lits]⟩⟩
    by_cases h0 : len = 0
    · subst h0; exact .inl (by simp)
    · obtain ⟨b, off, spot⟩ := x
      have hc := hcell 0 (by simp; omega)
      have hspot : spot = none := by simpa [Addr.add] using World.cell?_spot hc
      subst hspot
      refine .inr ⟨b, off, rfl, ?_, fun i y hy => ?_⟩
      · exact World.block_lt_of_cell? _ _ hc
      · have hi : i < len := by
          have := (List.getElem?_eq_some_iff.1 hy).1
          rw [List.length_take] at this
          omega
        rw [List.getElem?_take, if_pos hi] at hy
        have h1 := hcell i (by simp; omega)
        refine ⟨?_, hb y (List.mem_of_getElem? hy)⟩
        have e : (⟨b, off, none⟩ : Addr).add i = ⟨b, off + i, none⟩ := by simp [Addr.add]
        rw [e] at h1
        rw [h1, List.getD_eq_getElem?_getD, List.getElem?_map, hy]
        rfl
theorem open_nums_up {H : Type} {enc : TypeId × Value → H} {W : World} {a : Option Addr} {len cap : Nat} {d : DataW H} {p : List MemPlace} (h : DataW.Trod enc Try.prog W 0 (fun _ => true) true 32 (.slice a len cap) d p) :
    ∃ zs : List Int, len = zs.length ∧ SlI W a zs ∧ (∀ z ∈ zs, -9223372036854775808 ≤ z ∧ z ≤ 9223372036854775807) ∧ (d = .nil ∧ zs = [] ∨ ∃ el sp, d = .slice el sp ∧ el.length = zs.length) := by
  obtain ⟨fuel, hf⟩ := h
  rcases open_ints Try.underlying32 Try.underlying3 (by kernel_rfl) hf with ⟨hcs, hx0⟩ | ⟨x, l, c, zs, hcs, _, hl, hm, hzl, hx, hcell, hwz⟩
  · simp [Value.cells] at hcs
    obtain ⟨rfl, rfl, rfl⟩ := hcs
    simp only [Prod.mk.injEq] at hx0
    exact ⟨[], rfl, .inl rfl, by simp, .inl ⟨hx0.1, rfl⟩⟩
  · simp [Value.cells] at hcs
    obtain ⟨rfl, rfl, rfl⟩ := hcs
    simp only [Prod.mk.injEq] at hx
    obtain ⟨hd, _⟩ := hx
    simp only [if_true] at hzl
    refine ⟨zs.take len, by rw [List.length_take]; omega, ?_, fun z hz => bounds_i64 (hwz z (List.mem_of_mem_take hz)), .inr ⟨_, _, hd, by simp [lits]⟩⟩
    by_cases h0 : len = 0
    · subst h0; exact .inl (by simp)
    · obtain ⟨b, off, spot⟩ := x
      have hc := hcell 0 (by omega)
      have hspot : spot = none := by simpa [Addr.add] using World.cell?_spot hc
      subst hspot
      refine .inr ⟨b, off, rfl, World.block_lt_of_cell? _ _ hc, fun i y hy => ?_⟩
      have hi : i < len := by
        have := (List.getElem?_eq_some_iff.1 hy).1
        rw [List.length_take] at this
        omega
      rw [List.getElem?_take, if_pos hi] at hy
      have h1 := hcell i (by omega)
      have e : (⟨b, off, none⟩ : Addr).add i = ⟨b, off + i, none⟩ := by simp [Addr.add]
      rw [e] at h1
      rw [h1, List.getD_eq_getElem?_getD, hy]
      rfl

theorem bulk_pos {H : Type} (d : DataW H) : 1 ≤ Rows.uptoBulk d := by
  cases d with
  | lit l => cases l <;> simp [Rows.uptoBulk]
  | _ => simp [Rows.uptoBulk]
theorem bulk_len {H : Type} (l : List (DataW H)) : l.length ≤ Rows.uptoBulkAll l := by
  induction l with
  | nil => simp [Rows.uptoBulkAll]
  | cons d r ih =>
    have := bulk_pos d
    simp only [Rows.uptoBulkAll, List.length_cons]
    omega
/-- What the bound says of bytes that came in. -/
theorem bulk_bytes {H : Type} {d : DataW H} {bs : List Nat} (h : d = .nil ∧ bs = [] ∨ ∃ el sp, d = .slice el sp ∧ el.length = bs.length) : bs.length ≤ Rows.uptoBulk d := by
  rcases h with ⟨_, rfl⟩ | ⟨el, sp, rfl, h⟩
  · simp
  · have := bulk_len el
    simp only [Rows.uptoBulk]
    omega
theorem bulk_nums {H : Type} {d : DataW H} {zs : List Int} (h : d = .nil ∧ zs = [] ∨ ∃ el sp, d = .slice el sp ∧ el.length = zs.length) : zs.length ≤ Rows.uptoBulk d := by
  rcases h with ⟨_, rfl⟩ | ⟨el, sp, rfl, h⟩
  · simp
  · have := bulk_len el
    simp only [Rows.uptoBulk]
    omega
theorem bulk_of {H : Type} {l : List (DataW H)} (h : Rows.uptoSmall H l = true) : Rows.uptoBulkAll l ≤ 1048576 := of_decide_eq_true h

end Go.Proofs.Ytmgeokmgidnneaa
namespace Go.Proofs.Ytmgeokmgidnneaa
open Go.ChangeShapes Go.WideShapes Go.ChangeAt Go.RowKit
set_option linter.unusedVariables false

theorem gatherQ {α : Type} {Q : Nat → α → Prop} : ∀ n, (∀ i, i < n → ∃ x, Q i x) → ∃ xs : List α, xs.length = n ∧ ∀ i x, xs[i]? = some x → Q i x := by
  intro n
  induction n with
  | zero => intro _; exact ⟨[], rfl, fun i x h => by simp at h⟩
  | succ n ih =>
    intro h
    obtain ⟨xs, hl, hq⟩ := ih (fun i hi => h i (by omega))
    obtain ⟨y, hy⟩ := h n (by omega)
    refine ⟨xs ++ [y], by rw [List.length_append, hl]; rfl, fun i x hx => ?_⟩
    by_cases hi : i < xs.length
    · rw [List.getElem?_append_left hi] at hx
      exact hq i x hx
    · rw [List.getElem?_append_right (by omega)] at hx
      have hlt := (List.getElem?_eq_some_iff.1 hx).1
      simp at hlt
      have e : i - xs.length = 0 := by omega
      rw [e] at hx
      simp at hx
      subst hx
      have : i = n := by omega
      subst this
      exact hy
/-- What a row of so many cells an element holds. -/
def RowC {α : Type} (sz : Nat) (vals : α → List Value) (W : World) (a : Option Addr) (xs : List α) : Prop :=
  xs = [] ∨ ∃ b off, a = some ⟨b, off, none⟩ ∧ b < W.heap.size ∧ ∀ i x, xs[i]? = some x → ∀ j v, (vals x)[j]? = some v → W.cell? ⟨b, off + i * sz + j, none⟩ = some v
theorem RowC.below {α : Type} {sz : Nat} {vals : α → List Value} {W W' : World} {a : Option Addr} {xs : List α} (h : RowC sz vals W a xs) (hB : Below W.heap.size W W') : RowC sz vals W' a xs := by
  rcases h with h | ⟨b, off, e, hb, hc⟩
  · exact .inl h
  · exact .inr ⟨b, off, e, Nat.lt_of_lt_of_le hb hB.size, fun i x hx j v hv => (hB.cell hb).trans (hc i x hx j v hv)⟩
theorem RowC.at {α : Type} {sz : Nat} {vals : α → List Value} {W : World} {a : Option Addr} {xs : List α} (h : RowC sz vals W a xs) {i : Nat} {x : α} (hx : xs[i]? = some x) : ∃ b off, a = some ⟨b, off, none⟩ ∧ b < W.heap.size ∧ ∀ j v, (vals x)[j]? = some v → W.cell? ⟨b, off + i * sz + j, none⟩ = some v := by
  rcases h with h | ⟨b, off, e, hb, hc⟩
  · rw [h] at hx; simp at hx
  · exact ⟨b, off, e, hb, hc i x hx⟩
theorem bulk_appR {H : Type} (l m : List (DataW H)) : Rows.uptoBulkAll (l ++ m) = Rows.uptoBulkAll l + Rows.uptoBulkAll m := by
  induction l with
  | nil => simp [Rows.uptoBulkAll]
  | cons d r ih => simp only [List.cons_append, Rows.uptoBulkAll, ih]; omega
theorem bulk_sumR {H α : Type} (f : α → Nat) (D : Nat → DataW H) (xs : List α) (h : ∀ i x, xs[i]? = some x → f x ≤ Rows.uptoBulk (D i)) : (xs.map f).sum ≤ Rows.uptoBulkAll ((List.range xs.length).map D) := by
  have key : ∀ n, n ≤ xs.length → ((xs.take n).map f).sum ≤ Rows.uptoBulkAll ((List.range n).map D) := by
    intro n
    induction n with
    | zero => intro _; simp
    | succ n ih =>
      intro hn
      have h1 := ih (by omega)
      have h2 := h n _ (List.getElem?_eq_getElem (by omega))
      rw [List.take_succ_eq_append_getElem (by omega), List.map_append, List.sum_append, List.range_succ, List.map_append, bulk_appR]
      simp only [List.map_cons, List.map_nil, List.sum_cons, List.sum_nil, Rows.uptoBulkAll]
      omega
  have := key xs.length (Nat.le_refl _)
  rw [List.take_length] at this
  exact this
set_option maxRecDepth 100000 in
theorem open_row {α H : Type} {enc : TypeId × Value → H} {W : World} {t e : TypeId} {sz fuel : Nat} (vals : α → List Value) (Q : α → DataW H → Prop) (f : α → Nat) (ht : Try.prog.underlying t = some (.slice e)) (hc : Try.prog.cellsOf e = sz) (hsz : 0 < sz) (hvl : ∀ x, (vals x).length = sz)
    (hel : ∀ fuel cs x, DataW.trod enc Try.prog W 0 (fun _ => true) true fuel e cs = some x → ∃ a, cs = vals a ∧ Q a x.1 ∧ f a ≤ Rows.uptoBulk x.1) {a : Option Addr} {len cap : Nat} {x : DataW H × List MemPlace} (h : DataW.trod enc Try.prog W 0 (fun _ => true) true fuel t [.slice a len cap] = some x) :
    ∃ xs : List α, len = xs.length ∧ RowC sz vals W a xs ∧ (∀ x ∈ xs, ∃ d, Q x d) ∧ (xs.map f).sum + 1 ≤ Rows.uptoBulk x.1 ∧ len ≤ cap ∧ cap ≤ maxLen ∧ (a = none → xs = [] ∧ cap = 0) := by
  rcases Go.Deep.open_slice ht h with ⟨hcs, hx0⟩ | ⟨ad, l, c, m, n, D, Pl, hcs, _, hl, hm, hmm, hx, hele⟩
  · simp at hcs
    obtain ⟨rfl, rfl, rfl⟩ := hcs
    subst hx0
    exact ⟨[], rfl, .inl rfl, by simp, by simp [Rows.uptoBulk], Nat.le_refl _, Nat.zero_le _, fun _ => ⟨rfl, rfl⟩⟩
  · simp at hcs
    obtain ⟨rfl, rfl, rfl⟩ := hcs
    have hlm : len ≤ m := by rw [hmm]; simp; exact hl
    rw [hc] at hele
    obtain ⟨xs, hxl, hxq⟩ := gatherQ (Q := fun i x => Q x (D i) ∧ f x ≤ Rows.uptoBulk (D i) ∧ W.cells? 0 (ad.add (i * sz)) sz = some (vals x)) len (fun i hi => by
      obtain ⟨cs', h1, h2⟩ := hele i (by omega)
      obtain ⟨y, rfl, hq, hk⟩ := hel _ _ _ h2
      exact ⟨y, hq, hk, h1⟩)
    refine ⟨xs, hxl.symm, ?_, ?_, ?_, hl, hm, fun h => by cases h⟩
    · by_cases h0 : len = 0
      · exact .inl (List.eq_nil_of_length_eq_zero (by omega))
      · obtain ⟨b, off, spot⟩ := ad
        obtain ⟨x0, hx0⟩ : ∃ x, xs[0]? = some x := ⟨_, List.getElem?_eq_getElem (by omega)⟩
        obtain ⟨v0, hv0⟩ : ∃ v, (vals x0)[0]? = some v := ⟨_, List.getElem?_eq_getElem (by rw [hvl]; exact hsz)⟩
        have hc0 : W.cell? ⟨b, off, spot⟩ = some v0 := by
          obtain ⟨_, _, hcc⟩ := World.cells?_some (hxq 0 x0 hx0).2.2
          have h1 := hcc 0 (by omega)
          have e : ((⟨b, off, spot⟩ : Addr).add (0 * sz)).add 0 = ⟨b, off, spot⟩ := by simp [Addr.add]
          rw [e, hv0] at h1
          exact h1
        have hspot : spot = none := by simpa using World.cell?_spot hc0
        subst hspot
        refine .inr ⟨b, off, rfl, World.block_lt_of_cell? _ _ hc0, fun i x hx j v hv => ?_⟩
        have hj : j < sz := by have := (List.getElem?_eq_some_iff.1 hv).1; rw [hvl] at this; exact this
        obtain ⟨_, _, hcc⟩ := World.cells?_some (hxq i x hx).2.2
        have h1 := hcc j hj
        rw [hv] at h1
        have e1 : (⟨b, off, none⟩ : Addr).add (i * sz) = ⟨b, off + i * sz, none⟩ := by simp [Addr.add]
        have e2 : (⟨b, off + i * sz, none⟩ : Addr).add j = ⟨b, off + i * sz + j, none⟩ := by simp [Addr.add]
        rw [e1, e2] at h1
        exact h1
    · intro y hy
      obtain ⟨i, hi⟩ := List.getElem?_of_mem hy
      exact ⟨_, (hxq i y hi).1⟩
    · have h1 := bulk_sumR f D xs (fun i x hi => (hxq i x hi).2.1)
      rw [hx, ← hxl]
      simp only [Rows.uptoBulk]
      omega
end Go.Proofs.Ytmgeokmgidnneaa
