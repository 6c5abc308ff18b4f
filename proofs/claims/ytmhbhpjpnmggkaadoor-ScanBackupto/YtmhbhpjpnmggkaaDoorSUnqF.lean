/- Package scan: a quoted text alone, where it is none. -/
import Derived.Test.YtmhbhpjpnmggkaaDoorSUnq
namespace Go.Proofs.YtmhbhpjpnmggkaaDoor
open Go.RowKit Go.Shelf
set_option linter.unusedVariables false

set_option maxRecDepth 100000 in
set_option maxHeartbeats 4000000 in
theorem unq_long (s : ByteArray) (w : World) (hs : 16384 < s.size) (h2 : s.size ≤ 140737488355328) :
    Calls Tryd.prog 16 #[.string s] w fun e w' => ∃ k, e = .returned (.tuple #[.string ⟨#[]⟩, .iface 76 (.pointer (some ⟨k, 0, none⟩))]) ∧ w.heap.size ≤ k ∧ w'.heap[k]? = some (.cells #[.int .i64 4, .int .i64 0] 78 (0, 0)) ∧ Below w.heap.size w w' := by
  go_enter Tryd.func16, Tryd.ntmps16
  go_wp2_with (fail)
  go_ret2
  exact ⟨w.heap.size, rfl, Nat.le_refl _, heap_alloc_new w _, (Below.refl _ w).alloc (Nat.le_refl _) _⟩
set_option maxRecDepth 100000 in
set_option maxHeartbeats 4000000 in
theorem unq_no (s : ByteArray) (w : World) (hs : s.size ≤ 16384) (h0 : isAt s 0 34 = false) :
    Calls Tryd.prog 16 #[.string s] w fun e w' => ∃ k, e = .returned (.tuple #[.string ⟨#[]⟩, .iface 76 (.pointer (some ⟨k, 0, none⟩))]) ∧ w.heap.size ≤ k ∧ w'.heap[k]? = some (.cells #[.int .i64 71, .int .i64 0] 78 (0, 0)) ∧ Below w.heap.size w w' := by
  have hR0 : Rd (w.alloc (.cells #[.string s, .int .i64 0] 80)) w.heap.size s 0 := heap_alloc_new w _
  have hB0 : Below w.heap.size w (w.alloc (.cells #[.string s, .int .i64 0] 80)) := (Below.refl _ _).alloc (Nat.le_refl _) _
  have HR := hide hR0
  have HG := hide (grown_drewN (w.alloc (.cells #[.string s, .int .i64 0] 80)) 0 (some w.heap.size))
  have hs' : s.size ≤ 140737488355328 := by omega
  clear hR0
  go_enter Tryd.func16, Tryd.ntmps16
  go_wp2_with (first | (go_at_call 38; refine (takes_no w.heap.size s 0 34 _ HR.out (Nat.zero_le _) hs' h0).mono ?_; rintro e x ⟨rfl, hRx, hgx⟩; have HGX := hide (grown_trans HG.out hgx); have x1 := hRx.at; clear hRx hgx HR))
  replace x1 : x.cell? ⟨w.heap.size, 1, none⟩ = some (.int .i64 0) := x1
  refine Go.wp_mono (Q := noPanS _) ?_ noPanS_le
  refine wp_region_held_drew (S := fun W => W.cell? ⟨w.heap.size, 1, none⟩ = some (.int .i64 0)) (by kernel_rfl) x1 (fun hS => ?_)
  refine wpAnyH_take (i := 0) (v := .pointer (some ⟨w.heap.size, 1, none⟩)) rfl (by kernel_rfl) (by kernel_rfl) (by kernel_rfl) (fun _ _ _ h => h) (Or.inl ⟨by kernel_rfl, fun w' hw => by go_simp⟩) hS ?_
  refine wpAnyH_take (i := 1) (v := .int .i64 0) rfl (by kernel_rfl) (by kernel_rfl) (by kernel_rfl) (fun _ _ _ h => h) (Or.inl ⟨by kernel_rfl, fun w' hw => by go_simp⟩) hS ?_
  refine wpAnyH_take (i := 2) (v := .agg #[.int .i64 71, .int .i64 0]) rfl (by kernel_rfl) (by kernel_rfl) (by kernel_rfl) (fun _ _ _ h => h) (Or.inl ⟨by kernel_rfl, fun w' hw => by go_simp⟩) hS ?_
  refine wpAnyH_take (i := 5) (v := .string ⟨#[]⟩) rfl (by kernel_rfl) (by kernel_rfl) (by kernel_rfl) (fun _ _ _ h => h) (Or.inl ⟨by kernel_rfl, fun w' hw => by go_simp⟩) hS ?_
  refine wpAnyH_ready (rs := [3]) (by kernel_rfl) (by simp) ?_
  refine AllReadyH.cons rfl (fun K hK => ?_) AllReadyH.nil
  rw [if_pos (by kernel_rfl)]
  go_simp
  have hBA : Below x.heap.size x (x.alloc (.cells #[.int .i64 71, .int .i64 0] 78)).drew := ((Below.refl _ x).alloc (Nat.le_refl _) _).drew
  have hS2 : (x.alloc (.cells #[.int .i64 71, .int .i64 0] 78)).drew.cell? ⟨w.heap.size, 1, none⟩ = some (.int .i64 0) := (hBA.cell (World.block_lt_of_cell? _ _ x1)).trans x1
  have hN : (x.alloc (.cells #[.int .i64 71, .int .i64 0] 78)).drew.heap[x.heap.size]? = some (.cells #[.int .i64 71, .int .i64 0] 78 (0, 0)) := heap_alloc_new x _
  refine hK.out _ _ hS2 (fun _ => ?_)
  clear hK K
  generalize (x.alloc (.cells #[.int .i64 71, .int .i64 0] 78)).drew = Y at *
  refine wpAnyH_take (i := 4) (v := .iface 76 (.pointer (some ⟨x.heap.size, 0, none⟩))) rfl (by kernel_rfl) (by kernel_rfl) (by kernel_rfl) (fun _ _ _ h => h) (Or.inl ⟨by kernel_rfl, fun w' hw => by go_simp⟩) hS2 ?_
  refine wpAnyH_take (i := 6) (v := .iface 76 (.pointer (some ⟨x.heap.size, 0, none⟩))) rfl (by kernel_rfl) (by kernel_rfl) (by kernel_rfl) (fun _ _ _ h => h) (Or.inl ⟨by kernel_rfl, fun w' hw => by go_simp⟩) hS2 ?_
  refine wpAnyH_done (by kernel_rfl) (noPanS_normal ?_) _
  try simp only [Act.put, List.getElem_toArray, List.getElem_cons_zero, List.getElem_cons_succ, List.setIfInBounds_toArray, List.set_cons_zero, List.set_cons_succ]
  go_wp2_with (fail)
  go_ret2
  refine ⟨x.heap.size, rfl, ?_, hN, ?_⟩
  · exact Nat.le_trans hB0.size HGX.out.size
  · exact bseq (hB0.grown HGX.out hB0.size (fun k e => by cases e; exact Nat.le_refl _)) hBA
set_option maxRecDepth 100000 in
set_option maxHeartbeats 4000000 in
theorem unq_bad (s : ByteArray) (w : World) (hs : s.size ≤ 16384) (h0 : isAt s 0 34 = true) (T : List UInt8) (E P : Nat) (hQ : Qt ((bl s).drop 1) = (T, E, false)) (hE : 1 + E = P) :
    Calls Tryd.prog 16 #[.string s] w fun e w' => ∃ k, e = .returned (.tuple #[.string ⟨#[]⟩, .iface 76 (.pointer (some ⟨k, 0, none⟩))]) ∧ w.heap.size ≤ k ∧ w'.heap[k]? = some (.cells #[.int .i64 71, .int .i64 (P : Int)] 78 (0, 0)) ∧ Below w.heap.size w w' := by
  have hR0 : Rd (w.alloc (.cells #[.string s, .int .i64 0] 80)) w.heap.size s 0 := heap_alloc_new w _
  have hB0 : Below w.heap.size w (w.alloc (.cells #[.string s, .int .i64 0] 80)) := (Below.refl _ _).alloc (Nat.le_refl _) _
  have HR := hide hR0
  have HG := hide (grown_drewN (w.alloc (.cells #[.string s, .int .i64 0] 80)) 0 (some w.heap.size))
  have hs' : s.size ≤ 140737488355328 := by omega
  clear hR0
  have h1 : 1 ≤ s.size := by unfold isAt at h0; simp at h0; omega
  have kq := fun x (h : Rd x w.heap.size s 1) => quoted_any w.heap.size s 1 x h h1 hs'
  rw [hQ] at kq
  simp only at kq
  rw [hE] at kq
  simp only [Bool.false_eq_true, if_false] at kq
  have KQ := hide kq
  clear kq hQ
  go_enter Tryd.func16, Tryd.ntmps16
  go_wp2_with (first | (go_at_call 38; refine (takes_yes w.heap.size s 0 34 _ HR.out (Nat.zero_le _) hs' h0).mono ?_; rintro e x ⟨rfl, hRx, hgx⟩; have HRX := hide hRx; have HGX := hide (grown_trans HG.out hgx); clear hRx hgx HR) | (go_at_call 39; refine (KQ.out _ HRX.out).mono ?_; rintro e y ⟨rfl, hRy, hgy⟩; have HRY := hide hRy; have HGY := hide (grown_trans HGX.out hgy); have x1 := hRy.at; clear hRy hgy HRX))
  refine Go.wp_mono (Q := noPanS _) ?_ noPanS_le
  refine wp_region_held_drew (S := fun W => W.cell? ⟨w.heap.size, 1, none⟩ = some (.int .i64 (P : Int))) (by kernel_rfl) x1 (fun hS => ?_)
  refine wpAnyH_take (i := 0) (v := .pointer (some ⟨w.heap.size, 1, none⟩)) rfl (by kernel_rfl) (by kernel_rfl) (by kernel_rfl) (fun _ _ _ h => h) (Or.inl ⟨by kernel_rfl, fun w' hw => by go_simp⟩) hS ?_
  refine wpAnyH_take (i := 1) (v := .int .i64 (P : Int)) rfl (by kernel_rfl) (by kernel_rfl) (by kernel_rfl) (fun _ _ _ h => h) (Or.inl ⟨by kernel_rfl, fun w' hw => by go_simp⟩) hS ?_
  refine wpAnyH_take (i := 2) (v := .agg #[.int .i64 71, .int .i64 (P : Int)]) rfl (by kernel_rfl) (by kernel_rfl) (by kernel_rfl) (fun _ _ _ h => h) (Or.inl ⟨by kernel_rfl, fun w' hw => by go_simp⟩) hS ?_
  refine wpAnyH_take (i := 5) (v := .string ⟨#[]⟩) rfl (by kernel_rfl) (by kernel_rfl) (by kernel_rfl) (fun _ _ _ h => h) (Or.inl ⟨by kernel_rfl, fun w' hw => by go_simp⟩) hS ?_
  refine wpAnyH_ready (rs := [3]) (by kernel_rfl) (by simp) ?_
  refine AllReadyH.cons rfl (fun K hK => ?_) AllReadyH.nil
  rw [if_pos (by kernel_rfl)]
  go_simp
  have hBA : Below y.heap.size y (y.alloc (.cells #[.int .i64 71, .int .i64 (P : Int)] 78)).drew := ((Below.refl _ y).alloc (Nat.le_refl _) _).drew
  have hS2 : (y.alloc (.cells #[.int .i64 71, .int .i64 (P : Int)] 78)).drew.cell? ⟨w.heap.size, 1, none⟩ = some (.int .i64 (P : Int)) := (hBA.cell (World.block_lt_of_cell? _ _ x1)).trans x1
  have hN : (y.alloc (.cells #[.int .i64 71, .int .i64 (P : Int)] 78)).drew.heap[y.heap.size]? = some (.cells #[.int .i64 71, .int .i64 (P : Int)] 78 (0, 0)) := heap_alloc_new y _
  refine hK.out _ _ hS2 (fun _ => ?_)
  clear hK K
  generalize (y.alloc (.cells #[.int .i64 71, .int .i64 (P : Int)] 78)).drew = Y at *
  refine wpAnyH_take (i := 4) (v := .iface 76 (.pointer (some ⟨y.heap.size, 0, none⟩))) rfl (by kernel_rfl) (by kernel_rfl) (by kernel_rfl) (fun _ _ _ h => h) (Or.inl ⟨by kernel_rfl, fun w' hw => by go_simp⟩) hS2 ?_
  refine wpAnyH_take (i := 6) (v := .iface 76 (.pointer (some ⟨y.heap.size, 0, none⟩))) rfl (by kernel_rfl) (by kernel_rfl) (by kernel_rfl) (fun _ _ _ h => h) (Or.inl ⟨by kernel_rfl, fun w' hw => by go_simp⟩) hS2 ?_
  refine wpAnyH_done (by kernel_rfl) (noPanS_normal ?_) _
  try simp only [Act.put, List.getElem_toArray, List.getElem_cons_zero, List.getElem_cons_succ, List.setIfInBounds_toArray, List.set_cons_zero, List.set_cons_succ]
  go_wp2_with (fail)
  go_ret2
  refine ⟨y.heap.size, rfl, ?_, hN, ?_⟩
  · exact Nat.le_trans hB0.size HGY.out.size
  · exact bseq (hB0.grown HGY.out hB0.size (fun k e => by cases e; exact Nat.le_refl _)) hBA
set_option maxRecDepth 100000 in
set_option maxHeartbeats 4000000 in
theorem unq_more (s : ByteArray) (w : World) (hs : s.size ≤ 16384) (h0 : isAt s 0 34 = true) (T : List UInt8) (E P : Nat) (hQ : Qt ((bl s).drop 1) = (T, E, true)) (hE : 1 + E = P) (hP : P < s.size) :
    Calls Tryd.prog 16 #[.string s] w fun e w' => ∃ k, e = .returned (.tuple #[.string ⟨#[]⟩, .iface 76 (.pointer (some ⟨k, 0, none⟩))]) ∧ w.heap.size ≤ k ∧ w'.heap[k]? = some (.cells #[.int .i64 71, .int .i64 (P : Int)] 78 (0, 0)) ∧ Below w.heap.size w w' := by
  have hR0 : Rd (w.alloc (.cells #[.string s, .int .i64 0] 80)) w.heap.size s 0 := heap_alloc_new w _
  have hB0 : Below w.heap.size w (w.alloc (.cells #[.string s, .int .i64 0] 80)) := (Below.refl _ _).alloc (Nat.le_refl _) _
  have HR := hide hR0
  have HG := hide (grown_drewN (w.alloc (.cells #[.string s, .int .i64 0] 80)) 0 (some w.heap.size))
  have hs' : s.size ≤ 140737488355328 := by omega
  clear hR0
  have h1 : 1 ≤ s.size := by unfold isAt at h0; simp at h0; omega
  have kq := fun x (h : Rd x w.heap.size s 1) => quoted_any w.heap.size s 1 x h h1 hs'
  rw [hQ] at kq
  simp only at kq
  rw [hE] at kq
  simp only [if_true] at kq
  have KQ := hide kq
  have kd := fun x (h : Rd x w.heap.size s P) => done_any w.heap.size s P x h (by omega)
  rw [decide_eq_false (by omega)] at kd
  have KD := hide kd
  clear kq kd hQ
  go_enter Tryd.func16, Tryd.ntmps16
  go_wp2_with (first | (go_at_call 38; refine (takes_yes w.heap.size s 0 34 _ HR.out (Nat.zero_le _) hs' h0).mono ?_; rintro e x ⟨rfl, hRx, hgx⟩; have HRX := hide hRx; have HGX := hide (grown_trans HG.out hgx); clear hRx hgx HR) | (go_at_call 39; refine (KQ.out _ HRX.out).mono ?_; rintro e y ⟨rfl, hRy, hgy⟩; have HRY := hide hRy; have HGY := hide (grown_trans HGX.out hgy); have x1 := hRy.at; clear hRy hgy HRX) | (go_at_call 40; refine (KD.out _ HRY.out).mono ?_; rintro e z ⟨rfl, nz, hz⟩; have HGZ := hide (grown_trans HGY.out (grown_drewN _ nz _)); rw [← hz] at HGZ; have x2 : World.cell? z ⟨w.heap.size, 1, none⟩ = some (.int .i64 (P : Int)) := (congrArg (fun W => World.cell? W ⟨w.heap.size, 1, none⟩) hz).trans x1; clear hz HRY x1))
  have x1 := x2
  refine Go.wp_mono (Q := noPanS _) ?_ noPanS_le
  refine wp_region_held_drew (S := fun W => W.cell? ⟨w.heap.size, 1, none⟩ = some (.int .i64 (P : Int))) (by kernel_rfl) x1 (fun hS => ?_)
  refine wpAnyH_take (i := 0) (v := .pointer (some ⟨w.heap.size, 1, none⟩)) rfl (by kernel_rfl) (by kernel_rfl) (by kernel_rfl) (fun _ _ _ h => h) (Or.inl ⟨by kernel_rfl, fun w' hw => by go_simp⟩) hS ?_
  refine wpAnyH_take (i := 1) (v := .int .i64 (P : Int)) rfl (by kernel_rfl) (by kernel_rfl) (by kernel_rfl) (fun _ _ _ h => h) (Or.inl ⟨by kernel_rfl, fun w' hw => by go_simp⟩) hS ?_
  refine wpAnyH_take (i := 2) (v := .agg #[.int .i64 71, .int .i64 (P : Int)]) rfl (by kernel_rfl) (by kernel_rfl) (by kernel_rfl) (fun _ _ _ h => h) (Or.inl ⟨by kernel_rfl, fun w' hw => by go_simp⟩) hS ?_
  refine wpAnyH_take (i := 5) (v := .string ⟨#[]⟩) rfl (by kernel_rfl) (by kernel_rfl) (by kernel_rfl) (fun _ _ _ h => h) (Or.inl ⟨by kernel_rfl, fun w' hw => by go_simp⟩) hS ?_
  refine wpAnyH_ready (rs := [3]) (by kernel_rfl) (by simp) ?_
  refine AllReadyH.cons rfl (fun K hK => ?_) AllReadyH.nil
  rw [if_pos (by kernel_rfl)]
  go_simp
  have hBA : Below z.heap.size z (z.alloc (.cells #[.int .i64 71, .int .i64 (P : Int)] 78)).drew := ((Below.refl _ z).alloc (Nat.le_refl _) _).drew
  have hS2 : (z.alloc (.cells #[.int .i64 71, .int .i64 (P : Int)] 78)).drew.cell? ⟨w.heap.size, 1, none⟩ = some (.int .i64 (P : Int)) := (hBA.cell (World.block_lt_of_cell? _ _ x1)).trans x1
  have hN : (z.alloc (.cells #[.int .i64 71, .int .i64 (P : Int)] 78)).drew.heap[z.heap.size]? = some (.cells #[.int .i64 71, .int .i64 (P : Int)] 78 (0, 0)) := heap_alloc_new z _
  refine hK.out _ _ hS2 (fun _ => ?_)
  clear hK K
  generalize (z.alloc (.cells #[.int .i64 71, .int .i64 (P : Int)] 78)).drew = Y at *
  refine wpAnyH_take (i := 4) (v := .iface 76 (.pointer (some ⟨z.heap.size, 0, none⟩))) rfl (by kernel_rfl) (by kernel_rfl) (by kernel_rfl) (fun _ _ _ h => h) (Or.inl ⟨by kernel_rfl, fun w' hw => by go_simp⟩) hS2 ?_
  refine wpAnyH_take (i := 6) (v := .iface 76 (.pointer (some ⟨z.heap.size, 0, none⟩))) rfl (by kernel_rfl) (by kernel_rfl) (by kernel_rfl) (fun _ _ _ h => h) (Or.inl ⟨by kernel_rfl, fun w' hw => by go_simp⟩) hS2 ?_
  refine wpAnyH_done (by kernel_rfl) (noPanS_normal ?_) _
  try simp only [Act.put, List.getElem_toArray, List.getElem_cons_zero, List.getElem_cons_succ, List.setIfInBounds_toArray, List.set_cons_zero, List.set_cons_succ]
  go_wp2_with (fail)
  go_ret2
  refine ⟨z.heap.size, rfl, ?_, hN, ?_⟩
  · exact Nat.le_trans hB0.size HGZ.out.size
  · exact bseq (hB0.grown HGZ.out hB0.size (fun k e => by cases e; exact Nat.le_refl _)) hBA
end Go.Proofs.YtmhbhpjpnmggkaaDoor
