/- ScanPrints, walked. -/
import Derived.Test.YtaljllbfedfpoaaGreatDoorSQtdW
import Derived.Test.YtaljllbfedfpoaaGreatDoorSTokXM
import Derived.Test.YtaljllbfedfpoaaGreatDoorSRChar
import Derived.Test.YtaljllbfedfpoaaGreatDoorSFmt
import Derived.Test.YtaljllbfedfpoaaGreatDoorSRow8
import Derived.Lib.AppendStr
import Derived.Lib.ConvBytes
import Derived.OwnWalk
import Derived.Maps.AppendAt
import Derived.Test.YtaljllbfedfpoaaGreatDoorSWrk
import Derived.Deep.DeepCutAuto
import Derived.Test.YtaljllbfedfpoaaGreatDoorSPrnW
namespace Go.Proofs.YtaljllbfedfpoaaGreatDoor
open Go.RowKit Go.Shelf
set_option linter.unusedVariables false

set_option maxRecDepth 100000 in
set_option maxHeartbeats 4000000 in
theorem unq_ok (s : ByteArray) (w : World) (hs : s.size ≤ 16384) (h0 : isAt s 0 34 = true) (T : List UInt8) (E : Nat) (hQ : Qt ((bl s).drop 1) = (T, E, true)) (hE : 1 + E = s.size) :
    Calls Tryz.prog 16 #[.string s] w fun e w' => e = .returned (.tuple #[.string ⟨T.toArray⟩, .nilIface]) ∧ Below w.heap.size w w' := by
  have hR0 : Rd (w.alloc (.cells #[.string s, .int .i64 0] 58)) w.heap.size s 0 := heap_alloc_new w _
  have hB0 : Below w.heap.size w (w.alloc (.cells #[.string s, .int .i64 0] 58)) := (Below.refl _ _).alloc (Nat.le_refl _) _
  have HR := hide hR0
  have HG := hide (grown_drewN (w.alloc (.cells #[.string s, .int .i64 0] 58)) 0 (some w.heap.size))
  have hs' : s.size ≤ 140737488355328 := by omega
  have h1 : 1 ≤ s.size := by omega
  have kq := fun x (h : Rd x w.heap.size s 1) => quoted_any w.heap.size s 1 x h h1 hs'
  rw [hQ] at kq
  simp only [if_true] at kq
  rw [hE] at kq
  have KQ := hide kq
  have kd := fun x (h : Rd x w.heap.size s s.size) => done_any w.heap.size s s.size x h (Nat.le_refl _)
  rw [decide_eq_true rfl] at kd
  have KD := hide kd
  clear hR0 kq kd hQ
  go_enter Tryz.func16, Tryz.ntmps16
  go_wp2_with (first | (go_at_call 29; refine (takes_yes w.heap.size s 0 34 _ HR.out (Nat.zero_le _) hs' h0).mono ?_; rintro e x ⟨rfl, hRx, hgx⟩; have HRX := hide hRx; have HGX := hide (grown_trans HG.out hgx); clear hRx hgx HR) | (go_at_call 32; refine (KQ.out _ HRX.out).mono ?_; rintro e y ⟨rfl, hRy, hgy⟩; have HRY := hide hRy; have HGY := hide (grown_trans HGX.out hgy); clear hRy hgy HRX) | (go_at_call 28; refine (KD.out _ HRY.out).mono ?_; rintro e z ⟨rfl, nz, hz⟩; subst hz))
  go_ret2
  refine ⟨rfl, ?_⟩
  exact below_drewN (hB0.grown HGY.out hB0.size (fun k e => by cases e; exact Nat.le_refl _)) nz
end Go.Proofs.YtaljllbfedfpoaaGreatDoor
namespace Go.Proofs.YtaljllbfedfpoaaGreatDoor
open Go.RowKit Go.Shelf
set_option linter.unusedVariables false

set_option maxRecDepth 100000 in
set_option maxHeartbeats 4000000 in
theorem unq_long (s : ByteArray) (w : World) (hs : 16384 < s.size) (h2 : s.size ≤ 140737488355328) :
    Calls Tryz.prog 16 #[.string s] w fun e w' => ∃ k, e = .returned (.tuple #[.string ⟨#[]⟩, .iface 54 (.pointer (some ⟨k, 0, none⟩))]) ∧ w.heap.size ≤ k ∧ w'.heap[k]? = some (.cells #[.int .i64 4, .int .i64 0] 56 (0, 0)) ∧ Below w.heap.size w w' := by
  go_enter Tryz.func16, Tryz.ntmps16
  go_wp2_with (fail)
  go_ret2
  exact ⟨w.heap.size, rfl, Nat.le_refl _, heap_alloc_new w _, (Below.refl _ w).alloc (Nat.le_refl _) _⟩
set_option maxRecDepth 100000 in
set_option maxHeartbeats 4000000 in
theorem unq_no (s : ByteArray) (w : World) (hs : s.size ≤ 16384) (h0 : isAt s 0 34 = false) :
    Calls Tryz.prog 16 #[.string s] w fun e w' => ∃ k, e = .returned (.tuple #[.string ⟨#[]⟩, .iface 54 (.pointer (some ⟨k, 0, none⟩))]) ∧ w.heap.size ≤ k ∧ w'.heap[k]? = some (.cells #[.int .i64 71, .int .i64 0] 56 (0, 0)) ∧ Below w.heap.size w w' := by
  have hR0 : Rd (w.alloc (.cells #[.string s, .int .i64 0] 58)) w.heap.size s 0 := heap_alloc_new w _
  have hB0 : Below w.heap.size w (w.alloc (.cells #[.string s, .int .i64 0] 58)) := (Below.refl _ _).alloc (Nat.le_refl _) _
  have HR := hide hR0
  have HG := hide (grown_drewN (w.alloc (.cells #[.string s, .int .i64 0] 58)) 0 (some w.heap.size))
  have hs' : s.size ≤ 140737488355328 := by omega
  clear hR0
  go_enter Tryz.func16, Tryz.ntmps16
  go_wp2_with (first | (go_at_call 29; refine (takes_no w.heap.size s 0 34 _ HR.out (Nat.zero_le _) hs' h0).mono ?_; rintro e x ⟨rfl, hRx, hgx⟩; have HGX := hide (grown_trans HG.out hgx); have x1 := hRx.at; clear hRx hgx HR))
  replace x1 : x.cell? ⟨w.heap.size, 1, none⟩ = some (.int .i64 0) := x1
  refine Go.wp_mono (Q := noPanS _) ?_ noPanS_le
  refine wp_region_held_drew (S := fun W => W.cell? ⟨w.heap.size, 1, none⟩ = some (.int .i64 0)) (by kernel_rfl) x1 (fun hS => ?_)
  refine wpAnyH_take (i := 0) (v := .pointer (some ⟨w.heap.size, 1, none⟩)) rfl (by kernel_rfl) (by kernel_rfl) (by kernel_rfl) (fun _ _ _ h => h) (Or.inl ⟨by kernel_rfl, fun w' hw => by go_simp⟩) hS ?_
  refine wpAnyH_take (i := 1) (v := .int .i64 0) rfl (by kernel_rfl) (by kernel_rfl) (by kernel_rfl) (fun _ _ _ h => h) (Or.inl ⟨by kernel_rfl, fun w' hw => by go_simp⟩) hS ?_
  refine wpAnyH_take (i := 2) (v := .agg #[.int .i64 71, .int .i64 0]) rfl (by kernel_rfl) (by kernel_rfl) (by kernel_rfl) (fun _ _ _ h => h) (Or.inl ⟨by kernel_rfl, fun w' hw => by go_simp⟩) hS ?_
  refine wpAnyH_take (i := 5) (v := .string ⟨#[]⟩) rfl (by kernel_rfl) (by kernel_rfl) (by kernel_rfl) (fun _ _ _ h => h) (Or.inl ⟨by kernel_rfl, fun w' hw => by go_simp⟩) hS ?_
  refine wpAnyH_ready (rs := [3]) (by kernel_rfl) (by simp) ?_
  refine AllReadyH.cons rfl (fun K hK => ?_) AllReadyH.nil
  rw [if_pos (by kernel_rfl)]
  go_simp
  have hBA : Below x.heap.size x (x.alloc (.cells #[.int .i64 71, .int .i64 0] 56)).drew := ((Below.refl _ x).alloc (Nat.le_refl _) _).drew
  have hS2 : (x.alloc (.cells #[.int .i64 71, .int .i64 0] 56)).drew.cell? ⟨w.heap.size, 1, none⟩ = some (.int .i64 0) := (hBA.cell (World.block_lt_of_cell? _ _ x1)).trans x1
  have hN : (x.alloc (.cells #[.int .i64 71, .int .i64 0] 56)).drew.heap[x.heap.size]? = some (.cells #[.int .i64 71, .int .i64 0] 56 (0, 0)) := heap_alloc_new x _
  refine hK.out _ _ hS2 (fun _ => ?_)
  clear hK K
  generalize (x.alloc (.cells #[.int .i64 71, .int .i64 0] 56)).drew = Y at *
  refine wpAnyH_take (i := 4) (v := .iface 54 (.pointer (some ⟨x.heap.size, 0, none⟩))) rfl (by kernel_rfl) (by kernel_rfl) (by kernel_rfl) (fun _ _ _ h => h) (Or.inl ⟨by kernel_rfl, fun w' hw => by go_simp⟩) hS2 ?_
  refine wpAnyH_take (i := 6) (v := .iface 54 (.pointer (some ⟨x.heap.size, 0, none⟩))) rfl (by kernel_rfl) (by kernel_rfl) (by kernel_rfl) (fun _ _ _ h => h) (Or.inl ⟨by kernel_rfl, fun w' hw => by go_simp⟩) hS2 ?_
  refine wpAnyH_done (by kernel_rfl) (noPanS_normal ?_) _
  try simp only [Act.put, List.getElem_toArray, List.getElem_cons_zero, List.getElem_cons_succ, List.setIfInBounds_toArray, List.set_cons_zero, List.set_cons_succ]
  go_wp2_with (fail)
  go_ret2
  refine ⟨x.heap.size, rfl, ?_, hN, ?_⟩
  · exact Nat.le_trans hB0.size HGX.out.size
  · exact bseq (hB0.grown HGX.out hB0.size (fun k e => by cases e; exact Nat.le_refl _)) hBA
set_option maxRecDepth 100000 in
set_option maxHeartbeats 4000000 in
theorem unq_bad (s : ByteArray) (w : World) (hs : s.size ≤ 16384) (h0 : isAt s 0 34 = true) (T : List UInt8) (E P : Nat) (hQ : Qt ((bl s).drop 1) = (T, E, false)) (hE : 1 + E = P) :
    Calls Tryz.prog 16 #[.string s] w fun e w' => ∃ k, e = .returned (.tuple #[.string ⟨#[]⟩, .iface 54 (.pointer (some ⟨k, 0, none⟩))]) ∧ w.heap.size ≤ k ∧ w'.heap[k]? = some (.cells #[.int .i64 71, .int .i64 (P : Int)] 56 (0, 0)) ∧ Below w.heap.size w w' := by
  have hR0 : Rd (w.alloc (.cells #[.string s, .int .i64 0] 58)) w.heap.size s 0 := heap_alloc_new w _
  have hB0 : Below w.heap.size w (w.alloc (.cells #[.string s, .int .i64 0] 58)) := (Below.refl _ _).alloc (Nat.le_refl _) _
  have HR := hide hR0
  have HG := hide (grown_drewN (w.alloc (.cells #[.string s, .int .i64 0] 58)) 0 (some w.heap.size))
  have hs' : s.size ≤ 140737488355328 := by omega
  clear hR0
  have h1 : 1 ≤ s.size := by unfold isAt at h0; simp at h0; omega
  have kq := fun x (h : Rd x w.heap.size s 1) => quoted_any w.heap.size s 1 x h h1 hs'
  rw [hQ] at kq
  simp only at kq
  rw [hE] at kq
  simp only [Bool.false_eq_true, if_false] at kq
  have KQ := hide kq
  clear kq hQ
  go_enter Tryz.func16, Tryz.ntmps16
  go_wp2_with (first | (go_at_call 29; refine (takes_yes w.heap.size s 0 34 _ HR.out (Nat.zero_le _) hs' h0).mono ?_; rintro e x ⟨rfl, hRx, hgx⟩; have HRX := hide hRx; have HGX := hide (grown_trans HG.out hgx); clear hRx hgx HR) | (go_at_call 32; refine (KQ.out _ HRX.out).mono ?_; rintro e y ⟨rfl, hRy, hgy⟩; have HRY := hide hRy; have HGY := hide (grown_trans HGX.out hgy); have x1 := hRy.at; clear hRy hgy HRX))
  refine Go.wp_mono (Q := noPanS _) ?_ noPanS_le
  refine wp_region_held_drew (S := fun W => W.cell? ⟨w.heap.size, 1, none⟩ = some (.int .i64 (P : Int))) (by kernel_rfl) x1 (fun hS => ?_)
  refine wpAnyH_take (i := 0) (v := .pointer (some ⟨w.heap.size, 1, none⟩)) rfl (by kernel_rfl) (by kernel_rfl) (by kernel_rfl) (fun _ _ _ h => h) (Or.inl ⟨by kernel_rfl, fun w' hw => by go_simp⟩) hS ?_
  refine wpAnyH_take (i := 1) (v := .int .i64 (P : Int)) rfl (by kernel_rfl) (by kernel_rfl) (by kernel_rfl) (fun _ _ _ h => h) (Or.inl ⟨by kernel_rfl, fun w' hw => by go_simp⟩) hS ?_
  refine wpAnyH_take (i := 2) (v := .agg #[.int .i64 71, .int .i64 (P : Int)]) rfl (by kernel_rfl) (by kernel_rfl) (by kernel_rfl) (fun _ _ _ h => h) (Or.inl ⟨by kernel_rfl, fun w' hw => by go_simp⟩) hS ?_
  refine wpAnyH_take (i := 5) (v := .string ⟨#[]⟩) rfl (by kernel_rfl) (by kernel_rfl) (by kernel_rfl) (fun _ _ _ h => h) (Or.inl ⟨by kernel_rfl, fun w' hw => by go_simp⟩) hS ?_
  refine wpAnyH_ready (rs := [3]) (by kernel_rfl) (by simp) ?_
  refine AllReadyH.cons rfl (fun K hK => ?_) AllReadyH.nil
  rw [if_pos (by kernel_rfl)]
  go_simp
  have hBA : Below y.heap.size y (y.alloc (.cells #[.int .i64 71, .int .i64 (P : Int)] 56)).drew := ((Below.refl _ y).alloc (Nat.le_refl _) _).drew
  have hS2 : (y.alloc (.cells #[.int .i64 71, .int .i64 (P : Int)] 56)).drew.cell? ⟨w.heap.size, 1, none⟩ = some (.int .i64 (P : Int)) := (hBA.cell (World.block_lt_of_cell? _ _ x1)).trans x1
  have hN : (y.alloc (.cells #[.int .i64 71, .int .i64 (P : Int)] 56)).drew.heap[y.heap.size]? = some (.cells #[.int .i64 71, .int .i64 (P : Int)] 56 (0, 0)) := heap_alloc_new y _
  refine hK.out _ _ hS2 (fun _ => ?_)
  clear hK K
  generalize (y.alloc (.cells #[.int .i64 71, .int .i64 (P : Int)] 56)).drew = Y at *
  refine wpAnyH_take (i := 4) (v := .iface 54 (.pointer (some ⟨y.heap.size, 0, none⟩))) rfl (by kernel_rfl) (by kernel_rfl) (by kernel_rfl) (fun _ _ _ h => h) (Or.inl ⟨by kernel_rfl, fun w' hw => by go_simp⟩) hS2 ?_
  refine wpAnyH_take (i := 6) (v := .iface 54 (.pointer (some ⟨y.heap.size, 0, none⟩))) rfl (by kernel_rfl) (by kernel_rfl) (by kernel_rfl) (fun _ _ _ h => h) (Or.inl ⟨by kernel_rfl, fun w' hw => by go_simp⟩) hS2 ?_
  refine wpAnyH_done (by kernel_rfl) (noPanS_normal ?_) _
  try simp only [Act.put, List.getElem_toArray, List.getElem_cons_zero, List.getElem_cons_succ, List.setIfInBounds_toArray, List.set_cons_zero, List.set_cons_succ]
  go_wp2_with (fail)
  go_ret2
  refine ⟨y.heap.size, rfl, ?_, hN, ?_⟩
  · exact Nat.le_trans hB0.size HGY.out.size
  · exact bseq (hB0.grown HGY.out hB0.size (fun k e => by cases e; exact Nat.le_refl _)) hBA
set_option maxRecDepth 100000 in
set_option maxHeartbeats 4000000 in
theorem unq_more (s : ByteArray) (w : World) (hs : s.size ≤ 16384) (h0 : isAt s 0 34 = true) (T : List UInt8) (E P : Nat) (hQ : Qt ((bl s).drop 1) = (T, E, true)) (hE : 1 + E = P) (hP : P < s.size) :
    Calls Tryz.prog 16 #[.string s] w fun e w' => ∃ k, e = .returned (.tuple #[.string ⟨#[]⟩, .iface 54 (.pointer (some ⟨k, 0, none⟩))]) ∧ w.heap.size ≤ k ∧ w'.heap[k]? = some (.cells #[.int .i64 71, .int .i64 (P : Int)] 56 (0, 0)) ∧ Below w.heap.size w w' := by
  have hR0 : Rd (w.alloc (.cells #[.string s, .int .i64 0] 58)) w.heap.size s 0 := heap_alloc_new w _
  have hB0 : Below w.heap.size w (w.alloc (.cells #[.string s, .int .i64 0] 58)) := (Below.refl _ _).alloc (Nat.le_refl _) _
  have HR := hide hR0
  have HG := hide (grown_drewN (w.alloc (.cells #[.string s, .int .i64 0] 58)) 0 (some w.heap.size))
  have hs' : s.size ≤ 140737488355328 := by omega
  clear hR0
  have h1 : 1 ≤ s.size := by unfold isAt at h0; simp at h0; omega
  have kq := fun x (h : Rd x w.heap.size s 1) => quoted_any w.heap.size s 1 x h h1 hs'
  rw [hQ] at kq
  simp only at kq
  rw [hE] at kq
  simp only [if_true] at kq
  have KQ := hide kq
  have kd := fun x (h : Rd x w.heap.size s P) => done_any w.heap.size s P x h (by omega)
  rw [decide_eq_false (by omega)] at kd
  have KD := hide kd
  clear kq kd hQ
  go_enter Tryz.func16, Tryz.ntmps16
  go_wp2_with (first | (go_at_call 29; refine (takes_yes w.heap.size s 0 34 _ HR.out (Nat.zero_le _) hs' h0).mono ?_; rintro e x ⟨rfl, hRx, hgx⟩; have HRX := hide hRx; have HGX := hide (grown_trans HG.out hgx); clear hRx hgx HR) | (go_at_call 32; refine (KQ.out _ HRX.out).mono ?_; rintro e y ⟨rfl, hRy, hgy⟩; have HRY := hide hRy; have HGY := hide (grown_trans HGX.out hgy); have x1 := hRy.at; clear hRy hgy HRX) | (go_at_call 28; refine (KD.out _ HRY.out).mono ?_; rintro e z ⟨rfl, nz, hz⟩; have HGZ := hide (grown_trans HGY.out (grown_drewN _ nz _)); rw [← hz] at HGZ; have x2 : World.cell? z ⟨w.heap.size, 1, none⟩ = some (.int .i64 (P : Int)) := (congrArg (fun W => World.cell? W ⟨w.heap.size, 1, none⟩) hz).trans x1; clear hz HRY x1))
  have x1 := x2
  refine Go.wp_mono (Q := noPanS _) ?_ noPanS_le
  refine wp_region_held_drew (S := fun W => W.cell? ⟨w.heap.size, 1, none⟩ = some (.int .i64 (P : Int))) (by kernel_rfl) x1 (fun hS => ?_)
  refine wpAnyH_take (i := 0) (v := .pointer (some ⟨w.heap.size, 1, none⟩)) rfl (by kernel_rfl) (by kernel_rfl) (by kernel_rfl) (fun _ _ _ h => h) (Or.inl ⟨by kernel_rfl, fun w' hw => by go_simp⟩) hS ?_
  refine wpAnyH_take (i := 1) (v := .int .i64 (P : Int)) rfl (by kernel_rfl) (by kernel_rfl) (by kernel_rfl) (fun _ _ _ h => h) (Or.inl ⟨by kernel_rfl, fun w' hw => by go_simp⟩) hS ?_
  refine wpAnyH_take (i := 2) (v := .agg #[.int .i64 71, .int .i64 (P : Int)]) rfl (by kernel_rfl) (by kernel_rfl) (by kernel_rfl) (fun _ _ _ h => h) (Or.inl ⟨by kernel_rfl, fun w' hw => by go_simp⟩) hS ?_
  refine wpAnyH_take (i := 5) (v := .string ⟨#[]⟩) rfl (by kernel_rfl) (by kernel_rfl) (by kernel_rfl) (fun _ _ _ h => h) (Or.inl ⟨by kernel_rfl, fun w' hw => by go_simp⟩) hS ?_
  refine wpAnyH_ready (rs := [3]) (by kernel_rfl) (by simp) ?_
  refine AllReadyH.cons rfl (fun K hK => ?_) AllReadyH.nil
  rw [if_pos (by kernel_rfl)]
  go_simp
  have hBA : Below z.heap.size z (z.alloc (.cells #[.int .i64 71, .int .i64 (P : Int)] 56)).drew := ((Below.refl _ z).alloc (Nat.le_refl _) _).drew
  have hS2 : (z.alloc (.cells #[.int .i64 71, .int .i64 (P : Int)] 56)).drew.cell? ⟨w.heap.size, 1, none⟩ = some (.int .i64 (P : Int)) := (hBA.cell (World.block_lt_of_cell? _ _ x1)).trans x1
  have hN : (z.alloc (.cells #[.int .i64 71, .int .i64 (P : Int)] 56)).drew.heap[z.heap.size]? = some (.cells #[.int .i64 71, .int .i64 (P : Int)] 56 (0, 0)) := heap_alloc_new z _
  refine hK.out _ _ hS2 (fun _ => ?_)
  clear hK K
  generalize (z.alloc (.cells #[.int .i64 71, .int .i64 (P : Int)] 56)).drew = Y at *
  refine wpAnyH_take (i := 4) (v := .iface 54 (.pointer (some ⟨z.heap.size, 0, none⟩))) rfl (by kernel_rfl) (by kernel_rfl) (by kernel_rfl) (fun _ _ _ h => h) (Or.inl ⟨by kernel_rfl, fun w' hw => by go_simp⟩) hS2 ?_
  refine wpAnyH_take (i := 6) (v := .iface 54 (.pointer (some ⟨z.heap.size, 0, none⟩))) rfl (by kernel_rfl) (by kernel_rfl) (by kernel_rfl) (fun _ _ _ h => h) (Or.inl ⟨by kernel_rfl, fun w' hw => by go_simp⟩) hS2 ?_
  refine wpAnyH_done (by kernel_rfl) (noPanS_normal ?_) _
  try simp only [Act.put, List.getElem_toArray, List.getElem_cons_zero, List.getElem_cons_succ, List.setIfInBounds_toArray, List.set_cons_zero, List.set_cons_succ]
  go_wp2_with (fail)
  go_ret2
  refine ⟨z.heap.size, rfl, ?_, hN, ?_⟩
  · exact Nat.le_trans hB0.size HGZ.out.size
  · exact bseq (hB0.grown HGZ.out hB0.size (fun k e => by cases e; exact Nat.le_refl _)) hBA
end Go.Proofs.YtaljllbfedfpoaaGreatDoor
namespace Go.Proofs.YtaljllbfedfpoaaGreatDoor
open Go.RowKit Go.Shelf
set_option linter.unusedVariables false

set_option maxRecDepth 100000 in
set_option maxHeartbeats 1000000 in
theorem unq_over (s : ByteArray) (w : World) (hs : 16384 < s.size) :
    Calls Tryz.prog 16 #[.string s] w fun e w' => ∃ k, e = .returned (.tuple #[.string ⟨#[]⟩, .iface 54 (.pointer (some ⟨k, 0, none⟩))]) ∧ w.heap.size ≤ k ∧ w'.heap[k]? = some (.cells #[.int .i64 4, .int .i64 0] 56 (0, 0)) ∧ Below w.heap.size w w' := by
  go_enter Tryz.func16, Tryz.ntmps16
  go_wp2_with (fail)
  go_ret2
  exact ⟨w.heap.size, rfl, Nat.le_refl _, heap_alloc_new w _, (Below.refl _ w).alloc (Nat.le_refl _) _⟩
/-- What Unquote answers: the text, the code, the place. -/
def unV (s : ByteArray) : ByteArray × Int × Nat :=
  if 16384 < s.size then (⟨#[]⟩, 4, 0) else if isAt s 0 34 = false then (⟨#[]⟩, 71, 0)
  else if (Qt ((bl s).drop 1)).2.2 = true ∧ 1 + (Qt ((bl s).drop 1)).2.1 = s.size then (⟨(Qt ((bl s).drop 1)).1.toArray⟩, 0, 0) else (⟨#[]⟩, 71, 1 + (Qt ((bl s).drop 1)).2.1)
def UqPost (R : ByteArray × Int × Nat) (w : World) (e : Ending) (w' : World) : Prop :=
  (R.2.1 = 0 ∧ R.2.2 = 0 ∧ e = .returned (.tuple #[.string R.1, .nilIface]) ∧ Below w.heap.size w w') ∨
  (R.2.1 ≠ 0 ∧ ∃ k, e = .returned (.tuple #[.string R.1, .iface 54 (.pointer (some ⟨k, 0, none⟩))]) ∧ w.heap.size ≤ k ∧ w'.heap[k]? = some (.cells #[.int .i64 R.2.1, .int .i64 (R.2.2 : Int)] 56 (0, 0)) ∧ Below w.heap.size w w')
theorem unq_any (s : ByteArray) (w : World) : Calls Tryz.prog 16 #[.string s] w fun e w' => UqPost (unV s) w e w' := by
  unfold unV
  by_cases h1 : 16384 < s.size
  · rw [if_pos h1]
    exact (unq_over s w h1).mono fun e w' h => .inr ⟨by decide, h⟩
  rw [if_neg h1]
  cases h0 : isAt s 0 34 with
  | false =>
    simp only [if_true]
    exact (unq_no s w (by omega) h0).mono fun e w' h => .inr ⟨by decide, h⟩
  | true =>
    simp only [Bool.true_eq_false, if_false]
    obtain ⟨T, E, ok, hQ⟩ : ∃ T E ok, Qt ((bl s).drop 1) = (T, E, ok) := ⟨_, _, _, rfl⟩
    have hle := Qt_le ((bl s).drop 1)
    rw [hQ, List.length_drop, bl_len] at hle
    have hp : 0 < s.size := by
      unfold isAt at h0
      simp at h0
      exact h0.1
    rw [hQ]
    simp only at hle ⊢
    cases ok with
    | false =>
      simp only [Bool.false_eq_true, false_and, if_false]
      exact (unq_bad s w (by omega) h0 T E (1 + E) hQ rfl).mono fun e w' h => .inr ⟨show (71 : Int) ≠ 0 by decide, h⟩
    | true =>
      by_cases hE : 1 + E = s.size
      · rw [if_pos ⟨rfl, hE⟩]
        exact (unq_ok s w (by omega) h0 T E hQ hE).mono fun e w' h => .inl ⟨rfl, rfl, h⟩
      · rw [if_neg (fun c => hE c.2)]
        exact (unq_more s w (by omega) h0 T E (1 + E) hQ rfl (by omega)).mono fun e w' h => .inr ⟨show (71 : Int) ≠ 0 by decide, h⟩
theorem qdV_eq (l : List UInt8) {T : List UInt8} {E : Nat} {ok : Bool} (h : Qt (l.drop 1) = (T, E, ok)) : qdV l = (if ok = true then T else [], 1 + E, ok) := by unfold qdV; rw [h]
set_option maxRecDepth 100000 in
set_option maxHeartbeats 2000000 in
theorem runq_any (s : ByteArray) (w : World) : Calls Tryz.prog 17 #[.string s] w fun e w' => e = .returned (.tuple #[.string (unV s).1, .int .i64 (unV s).2.1, .int .i64 ((unV s).2.2 : Int)]) ∧ Below w.heap.size w w' := by
  unfold unV
  by_cases h1 : 16384 < s.size
  · rw [if_pos h1]
    have h1I : (16384 : Int) < (s.size : Int) := by omega
    go_enter Tryz.func17, Tryz.ntmps17
    go_wp2_with (fail)
    go_ret3
    exact ⟨rfl, Below.refl _ _⟩
  rw [if_neg h1]
  have h1I : (s.size : Int) ≤ 16384 := by omega
  by_cases hz : s.size = 0
  · have h0 : isAt s 0 34 = false := by unfold isAt; rw [hz]; rfl
    rw [h0]
    simp only [if_true]
    have hzI : ((s.size : Int) == 0) = true := by rw [hz]; rfl
    clear h0 h1 hz
    go_enter Tryz.func17, Tryz.ntmps17
    go_wp2_with (fail)
    go_ret3
    exact ⟨rfl, Below.refl _ _⟩
  have hzI : ((s.size : Int) == 0) = false := beq_eq_false_iff_ne.2 (by omega)
  have hp : 0 < s.size := by omega
  have hb0 : by' (bl s) 0 = (s[0]'hp).toNat := by'_get s 0 hp
  by_cases h34 : (s[0]'hp).toNat = 34
  · have h0 : isAt s 0 34 = true := by unfold isAt; rw [hb0, h34]; simp [hp]
    rw [h0]
    simp only [Bool.true_eq_false, if_false]
    have h34I : (((s[0]'hp).toNat : Int) != 34) = false := by rw [h34]; rfl
    obtain ⟨T, E, ok, hQ⟩ : ∃ T E ok, Qt ((bl s).drop 1) = (T, E, ok) := ⟨_, _, _, rfl⟩
    have hle := Qt_le ((bl s).drop 1)
    rw [hQ, List.length_drop, bl_len] at hle
    have kq := fun W => rquoted_any s W (by omega) hp
    rw [qdV_eq _ hQ] at kq
    rw [hQ]
    simp only at hle kq ⊢
    obtain ⟨P, hP⟩ : ∃ P, 1 + E = P := ⟨_, rfl⟩
    rw [hP] at kq ⊢
    have hPI : (P : Int) ≤ (s.size : Int) := by omega
    cases ok with
    | false =>
      simp only [Bool.false_eq_true, false_and, if_false] at kq ⊢
      have KQ := hide kq
      clear kq hle hP hQ h0 hb0 h34 hz h1
      go_enter Tryz.func17, Tryz.ntmps17
      go_wp2_with (go_at_call 34; refine (KQ.out _).mono ?_; rintro e x ⟨rfl, hbx⟩; have HBX := hide hbx; clear hbx)
      go_ret3
      exact ⟨rfl, HBX.out⟩
    | true =>
      simp only [if_true, true_and] at kq ⊢
      have KQ := hide kq
      by_cases hE : P = s.size
      · rw [if_pos hE]
        have hd : decide ((P : Int) < (s.size : Int)) = false := decide_eq_false (by omega)
        have hd2 : decide (P < s.size) = false := decide_eq_false (by omega)
        generalize (⟨T.toArray⟩ : ByteArray) = TT at *
        clear kq hle hP hQ h0 hb0 h34 hz h1 hE hPI
        go_enter Tryz.func17, Tryz.ntmps17
        go_wp2_with (go_at_call 34; refine (KQ.out _).mono ?_; rintro e x ⟨rfl, hbx⟩; have HBX := hide hbx; clear hbx)
        go_ret3
        exact ⟨rfl, HBX.out⟩
      · rw [if_neg hE]
        have hlt : (P : Int) < (s.size : Int) := by omega
        generalize (⟨T.toArray⟩ : ByteArray) = TT at *
        clear kq hle hP hQ h0 hb0 h34 hz h1 hE hPI
        go_enter Tryz.func17, Tryz.ntmps17
        go_wp2_with (go_at_call 34; refine (KQ.out _).mono ?_; rintro e x ⟨rfl, hbx⟩; have HBX := hide hbx; clear hbx)
        go_ret3
        exact ⟨rfl, HBX.out⟩
  · have h0 : isAt s 0 34 = false := by unfold isAt; rw [hb0]; simp [h34]
    rw [h0]
    simp only [if_true]
    have h34I : (((s[0]'hp).toNat : Int) != 34) = true := by rw [bne_iff_ne]; omega
    clear h0 h1 hz h34 hb0
    go_enter Tryz.func17, Tryz.ntmps17
    go_wp2_with (fail)
    go_ret3
    exact ⟨rfl, Below.refl _ _⟩
set_option maxRecDepth 100000 in
set_option maxHeartbeats 2000000 in
theorem unquotes_road (s : ByteArray) (w : World) (hL : LaidW w) (hZ : LaidZ w) (hE : LaidE w) :
    Calls Tryz.prog 5 #[.string s] w fun e w' => e = .returned (.bool true) ∧ Below w.heap.size w w' := by
  have ku := unq_any s w
  have kr := fun W => runq_any s W
  obtain ⟨R, hR⟩ : ∃ R, unV s = R := ⟨_, rfl⟩
  rw [hR] at ku kr
  obtain ⟨T, c, p⟩ := R
  simp only at kr
  clear hR
  have KU := hide ku
  have KR := hide kr
  have HL := hide hL
  have HZ := hide hZ
  have HE := hide hE
  clear ku kr hL hZ hE
  go_enter Tryz.func5, Tryz.ntmps5
  go_wp2_with (fail)
  refine (KU.out).mono ?_
  rintro e x1 (⟨hc, hp, rfl, hb1⟩ | ⟨hc, k, rfl, hk1, hk2, hb1⟩)
  · simp only at hc hp
    subst hc
    subst hp
    have HB1 := hide hb1
    clear hb1
    go_wp2_with (first | (go_at_call 17; refine (KR.out _).mono ?_; rintro e x2 ⟨rfl, hb2⟩; have HB2 := hide (bseq HB1.out hb2); clear hb2) | (go_at_call 14; refine (isFault_nil 0 0 _).mono ?_; rintro e x4 ⟨rfl, hx4⟩; subst hx4; rw [show ((0 : Int) == 0) = true from rfl]) | (go_at_call 11; refine (works_any _ (HL.out.below HB2.out) (HZ.out.below HB2.out)).mono ?_; rintro e q ⟨rfl, hq⟩))
    go_ret
    exact ⟨rfl, bseq HB2.out hq⟩
  · simp only at hc hk2
    have hv : fltV c (p : Int) c (p : Int) = true := by simp [fltV, hc]
    have HB1 := hide hb1
    have HK1 := hide hk2
    clear hb1 hk1 hk2 hc
    go_wp2_with (first | (go_at_call 17; refine (KR.out _).mono ?_; rintro e x2 ⟨rfl, hb2⟩; have HB2 := hide (bseq HB1.out hb2); have HK2 := hide ((hb2.block _ (Array.getElem?_eq_some_iff.1 HK1.out).1).trans HK1.out); clear hb2) | (go_at_call 14; refine (isFault_some k c (p : Int) c (p : Int) _ HK2.out (HE.out.below HB2.out)).mono ?_; rintro e x4 ⟨rfl, hb4⟩; have HB4 := hide (bseq HB2.out hb4); clear hb4; rw [hv]) | (go_at_call 11; refine (works_any _ (HL.out.below HB4.out) (HZ.out.below HB4.out)).mono ?_; rintro e q ⟨rfl, hq⟩))
    go_ret
    exact ⟨rfl, bseq HB4.out hq⟩
end Go.Proofs.YtaljllbfedfpoaaGreatDoor
namespace Go.Proofs.YtaljllbfedfpoaaGreatDoor
open Go.RowKit Go.Shelf
set_option linter.unusedVariables false

def sixS : ByteArray := ⟨#[48, 49, 50, 51, 52, 53, 54, 55, 56, 57, 97, 98, 99, 100, 101, 102]⟩
theorem six_at (k : Nat) (h : k < 16) : sixS.extract k (k + 1) = ⟨#[hexD k]⟩ := by
  have : ∀ j : Fin 16, sixS.extract j.val (j.val + 1) = ⟨#[hexD j.val]⟩ := by decide +kernel
  exact this ⟨k, h⟩
set_option maxHeartbeats 2000000 in
theorem rhex_any (f : UInt8) (w : World) : Calls Tryz.prog 46 #[.int .u8 (f.toNat : Int)] w fun e w' => e = .returned (.string ⟨#[hexD (f.toNat / 16), hexD (f.toNat % 16)]⟩) ∧ ∃ n, w' = w.drewN n := by
  have hf := f.toNat_lt
  obtain ⟨hi, hhi⟩ : ∃ hi, f.toNat / 16 = hi := ⟨_, rfl⟩
  obtain ⟨lo, hlo⟩ : ∃ lo, f.toNat % 16 = lo := ⟨_, rfl⟩
  rw [hhi, hlo]
  have g1 : (f.toNat : Int) / 16 = (hi : Int) := by omega
  have g2 : (f.toNat : Int) % 16 = (lo : Int) := by omega
  have k1 : (hi : Int) < 16 := by omega
  have k2 : (lo : Int) < 16 := by omega
  have e1 := six_at hi (by omega)
  have e2 := six_at lo (by omega)
  have E1 := hide e1
  have E2 := hide e2
  clear hhi hlo e1 e2
  go_enter Tryz.func46, Tryz.ntmps46
  go_wp2_with (fail)
  go_quiet (fail)
  go_wp2_with (fail)
  go_ret
  refine ⟨?_, nq, rfl⟩
  show Ending.returned (.string (sixS.extract hi (hi + 1) ++ sixS.extract lo (lo + 1))) = _
  rw [E1.out, E2.out]
  rfl
end Go.Proofs.YtaljllbfedfpoaaGreatDoor
namespace Go.Proofs.YtaljllbfedfpoaaGreatDoor
open Go.RowKit Go.Shelf
set_option linter.unusedVariables false

set_option maxRecDepth 100000 in
set_option maxHeartbeats 8000000 in
theorem rquote_any (s : ByteArray) (w : World) (hs : s.size ≤ 17592186044416) (hZ : LaidZ w) :
    Calls Tryz.prog 19 #[.string s] w fun e w' => e = .returned (.string ⟨(34 :: (qo (bl s) ++ [34])).toArray⟩) ∧ Below w.heap.size w w' := by
  have HZ := hide hZ
  obtain ⟨i0, hi, hz0, hz1, hz2⟩ := info_parts Tryz.info8s
  have hr0 := row8_one w 34
  have hb0 : Below w.heap.size w (w.alloc (.cells #[.int .u8 ((34 : UInt8).toNat : Int)] 5)) := (Below.refl _ _).alloc (Nat.le_refl _) _
  have HR0 := hide hr0
  have HB0 := hide hb0
  clear hZ hr0 hb0
  go_enter Tryz.func19, Tryz.ntmps19
  go_wp2_with (fail)
  go_loopw [3, 4] (fun v at_ wr => ∃ (q : Nat) (acc : List UInt8), at_ = .int .i64 (q : Int) ∧ q ≤ s.size ∧ acc ++ qo ((bl s).drop q) = 34 :: qo (bl s) ∧ acc.length ≤ 1 + 4 * q ∧ Row8 wr w.heap.size v acc ∧ Below w.heap.size w wr) (fun _ at_ _ => s.size - (intOf at_).toNat)
  case atStart => exact ⟨0, [34], rfl, Nat.zero_le _, rfl, by decide, HR0.out, HB0.out⟩
  case round =>
    clear HR0 HB0
    obtain ⟨q, acc, rfl, hqs, hacc, hlen, hrow, hB⟩ := hrel
    have HROW := hide hrow
    have HB := hide hB
    have HACC := hide hacc
    have hBw := hB.size
    clear hrow hB hacc
    by_cases hlt : q < s.size
    · have hltI : (q : Int) < (s.size : Int) := by omega
      have hne := bl_drop_ne hlt
      have hxp : 0 < (s.extract q s.size).size := by rw [ByteArray.size_extract]; omega
      have kc := fun W => rchar_any (s.extract q s.size) W hxp (by rw [ByteArray.size_extract]; omega)
      rw [bl_from] at kc
      have hm1 := cw_pos ((bl s).drop q)
      have hm2 := cw_len _ hne
      have hm4 := cw_le4 ((bl s).drop q)
      rw [List.length_drop, bl_len] at hm2
      have hqc := qo_cons hne
      have hpl := piece_le hne
      have hr0 := @rune_0 ((bl s).drop q)
      rw [List.drop_drop] at hqc
      have hhd : ((bl s).drop q).headD 0 = s[q]'hlt := by
        rw [List.drop_eq_getElem_cons (by rw [bl_len]; exact hlt)]
        rfl
      have hx : (s.extract q (q + cw ((bl s).drop q))).data.toList = ((bl s).drop q).take (cw ((bl s).drop q)) := by
        have := bl_extract s q (q + cw ((bl s).drop q))
        rw [Nat.add_sub_cancel_left] at this
        exact this
      have hpc : piece ((bl s).drop q) = if W ((bl s).drop q) ≠ 0 ∧ plainK (rune ((bl s).drop q) : Int) = true then ((bl s).drop q).take (cw ((bl s).drop q)) else escB (rune ((bl s).drop q)) (s[q]'hlt) := by unfold piece; rw [hhd]
      rw [hqc] at HACC
      have KC := hide kc
      have HX := hide hx
      have HPC := hide hpc
      generalize piece ((bl s).drop q) = P at *
      generalize W ((bl s).drop q) = wl at *
      generalize rune ((bl s).drop q) = r at *
      generalize cw ((bl s).drop q) = m at *
      have hmI : (q : Int) + (m : Int) ≤ (s.size : Int) := by omega
      have hm4I : (m : Int) ≤ 4 := by omega
      have hm1I : 1 ≤ (m : Int) := by omega
      have hnx : (acc ++ P) ++ qo ((bl s).drop (q + m)) = 34 :: qo (bl s) := by rw [List.append_assoc]; exact HACC.out
      have hnl : (acc ++ P).length ≤ 1 + 4 * (q + m) := by rw [List.length_append]; omega
      have HNX := hide hnx
      clear kc hqc hhd hx hpc hne hnx hxp
      by_cases hr34 : r = 34
      · have hP := HPC.out
        rw [if_neg (fun h => absurd h.2 (by rw [hr34]; decide))] at hP
        rw [hr34] at hP KC
        have hP2 : P = [92, 34] := hP
        have hl2 : (⟨#[92, 34]⟩ : ByteArray).size = 2 := rfl
        clear hP hr34 HX HPC
        go_wp2_with (first | (go_at_call 45; refine (KC.out _).mono ?_; rintro e x ⟨rfl, hbx⟩; have HR := hide (HROW.out.below hbx); have HBX := hide (bseq HB.out hbx); have hwx := hbx.size; clear hbx) | (at_builtin; refine Lib.wpList_append_own_string _ rfl _ _ 25 9 rfl w.heap.size 5 i0 Tryz.underlying25 Tryz.underlying9 hi hz0 hz1 hz2 _ acc.length (Lib.byteCells acc) rfl HR.out ⟨#[92, 34]⟩ rfl (by simp only [maxLen]; omega) (by omega) (by omega) ?_; intro v' w4 hown' hgrow' _))
        have hb4 : Below w.heap.size w w4 := HBX.out.grown hgrow' HBX.out.size (fun j e => (HR.out.lt j e).1)
        have hrow4 : Row8 w4 w.heap.size v' (acc ++ P) := Row8.more (by rw [hP2]) hown'
        go_roundw
        case rel => exact ⟨q + m, acc ++ P, by go_num, by omega, HNX.out, hnl, hrow4, hb4⟩
        case measure => simp [intOf]; omega
      by_cases hr92 : r = 92
      · have hP := HPC.out
        rw [if_neg (fun h => absurd h.2 (by rw [hr92]; decide))] at hP
        rw [hr92] at hP KC
        have hP2 : P = [92, 92] := hP
        have hl2 : (⟨#[92, 92]⟩ : ByteArray).size = 2 := rfl
        clear hP hr92 HX HPC
        go_wp2_with (first | (go_at_call 45; refine (KC.out _).mono ?_; rintro e x ⟨rfl, hbx⟩; have HR := hide (HROW.out.below hbx); have HBX := hide (bseq HB.out hbx); have hwx := hbx.size; clear hbx) | (at_builtin; refine Lib.wpList_append_own_string _ rfl _ _ 25 9 rfl w.heap.size 5 i0 Tryz.underlying25 Tryz.underlying9 hi hz0 hz1 hz2 _ acc.length (Lib.byteCells acc) rfl HR.out ⟨#[92, 92]⟩ rfl (by simp only [maxLen]; omega) (by omega) (by omega) ?_; intro v' w4 hown' hgrow' _))
        have hb4 : Below w.heap.size w w4 := HBX.out.grown hgrow' HBX.out.size (fun j e => (HR.out.lt j e).1)
        have hrow4 : Row8 w4 w.heap.size v' (acc ++ P) := Row8.more (by rw [hP2]) hown'
        go_roundw
        case rel => exact ⟨q + m, acc ++ P, by go_num, by omega, HNX.out, hnl, hrow4, hb4⟩
        case measure => simp [intOf]; omega
      by_cases hr10 : r = 10
      · have hP := HPC.out
        rw [if_neg (fun h => absurd h.2 (by rw [hr10]; decide))] at hP
        rw [hr10] at hP KC
        have hP2 : P = [92, 110] := hP
        have hl2 : (⟨#[92, 110]⟩ : ByteArray).size = 2 := rfl
        clear hP hr10 HX HPC
        go_wp2_with (first | (go_at_call 45; refine (KC.out _).mono ?_; rintro e x ⟨rfl, hbx⟩; have HR := hide (HROW.out.below hbx); have HBX := hide (bseq HB.out hbx); have hwx := hbx.size; clear hbx) | (at_builtin; refine Lib.wpList_append_own_string _ rfl _ _ 25 9 rfl w.heap.size 5 i0 Tryz.underlying25 Tryz.underlying9 hi hz0 hz1 hz2 _ acc.length (Lib.byteCells acc) rfl HR.out ⟨#[92, 110]⟩ rfl (by simp only [maxLen]; omega) (by omega) (by omega) ?_; intro v' w4 hown' hgrow' _))
        have hb4 : Below w.heap.size w w4 := HBX.out.grown hgrow' HBX.out.size (fun j e => (HR.out.lt j e).1)
        have hrow4 : Row8 w4 w.heap.size v' (acc ++ P) := Row8.more (by rw [hP2]) hown'
        go_roundw
        case rel => exact ⟨q + m, acc ++ P, by go_num, by omega, HNX.out, hnl, hrow4, hb4⟩
        case measure => simp [intOf]; omega
      by_cases hr13 : r = 13
      · have hP := HPC.out
        rw [if_neg (fun h => absurd h.2 (by rw [hr13]; decide))] at hP
        rw [hr13] at hP KC
        have hP2 : P = [92, 114] := hP
        have hl2 : (⟨#[92, 114]⟩ : ByteArray).size = 2 := rfl
        clear hP hr13 HX HPC
        go_wp2_with (first | (go_at_call 45; refine (KC.out _).mono ?_; rintro e x ⟨rfl, hbx⟩; have HR := hide (HROW.out.below hbx); have HBX := hide (bseq HB.out hbx); have hwx := hbx.size; clear hbx) | (at_builtin; refine Lib.wpList_append_own_string _ rfl _ _ 25 9 rfl w.heap.size 5 i0 Tryz.underlying25 Tryz.underlying9 hi hz0 hz1 hz2 _ acc.length (Lib.byteCells acc) rfl HR.out ⟨#[92, 114]⟩ rfl (by simp only [maxLen]; omega) (by omega) (by omega) ?_; intro v' w4 hown' hgrow' _))
        have hb4 : Below w.heap.size w w4 := HBX.out.grown hgrow' HBX.out.size (fun j e => (HR.out.lt j e).1)
        have hrow4 : Row8 w4 w.heap.size v' (acc ++ P) := Row8.more (by rw [hP2]) hown'
        go_roundw
        case rel => exact ⟨q + m, acc ++ P, by go_num, by omega, HNX.out, hnl, hrow4, hb4⟩
        case measure => simp [intOf]; omega
      by_cases hr9 : r = 9
      · have hP := HPC.out
        rw [if_neg (fun h => absurd h.2 (by rw [hr9]; decide))] at hP
        rw [hr9] at hP KC
        have hP2 : P = [92, 116] := hP
        have hl2 : (⟨#[92, 116]⟩ : ByteArray).size = 2 := rfl
        clear hP hr9 HX HPC
        go_wp2_with (first | (go_at_call 45; refine (KC.out _).mono ?_; rintro e x ⟨rfl, hbx⟩; have HR := hide (HROW.out.below hbx); have HBX := hide (bseq HB.out hbx); have hwx := hbx.size; clear hbx) | (at_builtin; refine Lib.wpList_append_own_string _ rfl _ _ 25 9 rfl w.heap.size 5 i0 Tryz.underlying25 Tryz.underlying9 hi hz0 hz1 hz2 _ acc.length (Lib.byteCells acc) rfl HR.out ⟨#[92, 116]⟩ rfl (by simp only [maxLen]; omega) (by omega) (by omega) ?_; intro v' w4 hown' hgrow' _))
        have hb4 : Below w.heap.size w w4 := HBX.out.grown hgrow' HBX.out.size (fun j e => (HR.out.lt j e).1)
        have hrow4 : Row8 w4 w.heap.size v' (acc ++ P) := Row8.more (by rw [hP2]) hown'
        go_roundw
        case rel => exact ⟨q + m, acc ++ P, by go_num, by omega, HNX.out, hnl, hrow4, hb4⟩
        case measure => simp [intOf]; omega
      have n34 : ((r : Int) == 34) = false := beq_eq_false_iff_ne.2 (by omega)
      have n92 : ((r : Int) == 92) = false := beq_eq_false_iff_ne.2 (by omega)
      have n10 : ((r : Int) == 10) = false := beq_eq_false_iff_ne.2 (by omega)
      have n13 : ((r : Int) == 13) = false := beq_eq_false_iff_ne.2 (by omega)
      have n9 : ((r : Int) == 9) = false := beq_eq_false_iff_ne.2 (by omega)
      by_cases hxx : wl = 0
      · have hr := hr0 hxx
        have hP : P = [92, 120, hexD ((s[q]'hlt).toNat / 16), hexD ((s[q]'hlt).toNat % 16)] := by
          have := HPC.out
          rw [if_neg (fun h => h.1 hxx)] at this
          rw [this]
          rw [hr]; rfl
        have hdw : decide (wl ≠ 0) = false := decide_eq_false (fun h => h hxx)
        rw [hdw] at KC
        clear HX HPC hr0 hxx hdw hr
        go_wp2_with (first | (go_at_call 45; refine (KC.out _).mono ?_; rintro e x ⟨rfl, hbx⟩; have HR := hide (HROW.out.below hbx); have HBX := hide (bseq HB.out hbx); have hwx := hbx.size; clear hbx))
        refine Go.wp_mono (Q := noPanS _) ?_ noPanS_le
        refine wp_region_held_drew (S := fun W => True) (by kernel_rfl) trivial (fun hS => ?_)
        refine wpAnyH_take (i := 0) (v := u3) rfl (by kernel_rfl) (by kernel_rfl) (by kernel_rfl) (fun _ _ _ h => h) (Or.inl ⟨by kernel_rfl, fun w' hw => by go_simp⟩) trivial ?_
        refine wpAnyH_take (i := 2) (v := .string s) rfl (by kernel_rfl) (by kernel_rfl) (by kernel_rfl) (fun _ _ _ h => h) (Or.inl ⟨by kernel_rfl, fun w' hw => by go_simp⟩) trivial ?_
        refine wpAnyH_take (i := 3) (v := .int .i64 (q : Int)) rfl (by kernel_rfl) (by kernel_rfl) (by kernel_rfl) (fun _ _ _ h => h) (Or.inl ⟨by kernel_rfl, fun w' hw => by go_simp⟩) trivial ?_
        refine wpAnyH_take (i := 4) (v := .int .u8 ((s[q]'hlt).toNat : Int)) rfl (by kernel_rfl) (by kernel_rfl) (by kernel_rfl) (fun _ _ _ h => h) (Or.inl ⟨by kernel_rfl, fun w' hw => by go_simp⟩) trivial ?_
        have hsx : w.heap.size ≤ x.heap.size := HBX.out.size
        refine wpAnyH_ready (rs := [1]) (by kernel_rfl) (by simp) ?_
        refine AllReadyH.cons rfl (fun K hK => ?_) AllReadyH.nil
        · rw [if_pos (by kernel_rfl)]
          refine wp_append_str _ _ _ 25 9 rfl w.heap.size 5 i0 Tryz.underlying25 Tryz.underlying9 hi hz0 hz1 hz2 u3 acc.length (Lib.byteCells acc) rfl HR.out (⟨#[92, 120]⟩ : ByteArray) rfl (by simp only [maxLen]; have : (⟨#[92, 120]⟩ : ByteArray).size = 2 := rfl; omega) (by have : (⟨#[92, 120]⟩ : ByteArray).size = 2 := rfl; omega) hsx ?_
          intro v1 w1 hown1 hgrow1
          have hb1 : Below w.heap.size w w1 := HBX.out.drew.grown hgrow1 HBX.out.size (fun j e => (HR.out.lt j e).1)
          have hs1 : w.heap.size ≤ w1.heap.size := hb1.size
          refine hK.out _ _ trivial (fun _ => ?_)
          clear hK K
          refine wpAnyH_ready (rs := [5]) (by kernel_rfl) (by simp) ?_
          refine AllReadyH.cons rfl (fun K hK => ?_) AllReadyH.nil
          rw [if_pos (by kernel_rfl)]
          go_simp
          go_wp2_with (go_at_call 46; refine (rhex_any _ _).mono ?_; rintro e y ⟨rfl, n, hy⟩)
          subst hy
          refine hK.out _ _ trivial (fun _ => ?_)
          clear hK K
          refine wpAnyH_ready (rs := [6]) (by kernel_rfl) (by simp) ?_
          refine AllReadyH.cons rfl (fun K hK => ?_) AllReadyH.nil
          rw [if_pos (by kernel_rfl)]
          refine wp_append_str _ _ _ 25 9 rfl w.heap.size 5 i0 Tryz.underlying25 Tryz.underlying9 hi hz0 hz1 hz2 v1 (acc.length + 2) (Lib.byteCells acc ++ Lib.strCells ⟨#[92, 120]⟩) rfl hown1 (⟨#[hexD ((s[q]'hlt).toNat / 16), hexD ((s[q]'hlt).toNat % 16)]⟩ : ByteArray) rfl (by simp only [maxLen]; have : (⟨#[hexD ((s[q]'hlt).toNat / 16), hexD ((s[q]'hlt).toNat % 16)]⟩ : ByteArray).size = 2 := rfl; omega) (by have : (⟨#[hexD ((s[q]'hlt).toNat / 16), hexD ((s[q]'hlt).toNat % 16)]⟩ : ByteArray).size = 2 := rfl; omega) hs1 ?_
          intro v' w4 hown' hgrow'
          have hb4 : Below w.heap.size w w4 := (below_drewN hb1 _).grown hgrow' hs1 (fun j e => (World.ownsRow.lt hown1 j e).1)
          refine hK.out _ _ trivial (fun _ => ?_)
          clear hK K
          refine wpAnyH_take (i := 7) (v := v') rfl (by kernel_rfl) (by kernel_rfl) (by kernel_rfl) (fun _ _ _ h => h) (Or.inl ⟨by kernel_rfl, fun w' hw => by go_simp⟩) trivial ?_
          refine wpAnyH_done (by kernel_rfl) (noPanS_normal ?_) _
          try simp only [Act.put, List.getElem_toArray, List.getElem_cons_zero, List.getElem_cons_succ, List.setIfInBounds_toArray, List.set_cons_zero, List.set_cons_succ]
          have hrow4 : Row8 w4 w.heap.size v' (acc ++ P) := by
            have e1 := Row8.more (m := [92, 120]) rfl hown1
            have e2 : Row8 w4 w.heap.size v' ((acc ++ [92, 120]) ++ [hexD ((s[q]'hlt).toNat / 16), hexD ((s[q]'hlt).toNat % 16)]) := by
              refine Row8.more (l := acc ++ [92, 120]) (U := ⟨#[hexD ((s[q]'hlt).toNat / 16), hexD ((s[q]'hlt).toNat % 16)]⟩) rfl ?_
              rw [Lib.byteCells_append, List.length_append]
              exact hown'
            rw [hP]
            rw [List.append_assoc] at e2
            exact e2
          go_wp2_with (fail)
          go_roundw
          case rel => exact ⟨q + m, acc ++ P, by go_num, by omega, HNX.out, hnl, hrow4, hb4⟩
          case measure => simp [intOf]; omega
      have hdw : decide (wl ≠ 0) = true := decide_eq_true hxx
      clear hr0
      by_cases h32 : r < 32
      · have hP : P = [92, 120, hexD ((s[q]'hlt).toNat / 16), hexD ((s[q]'hlt).toNat % 16)] := by
          have := HPC.out
          rw [if_neg (fun h => by have h2 := h.2; unfold plainK at h2; rw [decide_eq_false (show ¬ (32 : Int) ≤ (r : Int) by omega), Bool.and_false] at h2; exact absurd h2 (by decide))] at this
          rw [this]
          unfold escB; rw [if_neg hr34, if_neg hr92, if_neg hr10, if_neg hr13, if_neg hr9, if_neg (by omega), if_neg (by omega), if_neg (by omega)]
        have h32I : (r : Int) < 32 := by omega
        rw [hdw] at KC
        clear HX HPC hxx hdw
        go_wp2_with (first | (go_at_call 45; refine (KC.out _).mono ?_; rintro e x ⟨rfl, hbx⟩; have HR := hide (HROW.out.below hbx); have HBX := hide (bseq HB.out hbx); have hwx := hbx.size; clear hbx))
        refine Go.wp_mono (Q := noPanS _) ?_ noPanS_le
        refine wp_region_held_drew (S := fun W => True) (by kernel_rfl) trivial (fun hS => ?_)
        refine wpAnyH_take (i := 0) (v := u3) rfl (by kernel_rfl) (by kernel_rfl) (by kernel_rfl) (fun _ _ _ h => h) (Or.inl ⟨by kernel_rfl, fun w' hw => by go_simp⟩) trivial ?_
        refine wpAnyH_take (i := 2) (v := .string s) rfl (by kernel_rfl) (by kernel_rfl) (by kernel_rfl) (fun _ _ _ h => h) (Or.inl ⟨by kernel_rfl, fun w' hw => by go_simp⟩) trivial ?_
        refine wpAnyH_take (i := 3) (v := .int .i64 (q : Int)) rfl (by kernel_rfl) (by kernel_rfl) (by kernel_rfl) (fun _ _ _ h => h) (Or.inl ⟨by kernel_rfl, fun w' hw => by go_simp⟩) trivial ?_
        refine wpAnyH_take (i := 4) (v := .int .u8 ((s[q]'hlt).toNat : Int)) rfl (by kernel_rfl) (by kernel_rfl) (by kernel_rfl) (fun _ _ _ h => h) (Or.inl ⟨by kernel_rfl, fun w' hw => by go_simp⟩) trivial ?_
        have hsx : w.heap.size ≤ x.heap.size := HBX.out.size
        refine wpAnyH_ready (rs := [1]) (by kernel_rfl) (by simp) ?_
        refine AllReadyH.cons rfl (fun K hK => ?_) AllReadyH.nil
        · rw [if_pos (by kernel_rfl)]
          refine wp_append_str _ _ _ 25 9 rfl w.heap.size 5 i0 Tryz.underlying25 Tryz.underlying9 hi hz0 hz1 hz2 u3 acc.length (Lib.byteCells acc) rfl HR.out (⟨#[92, 120]⟩ : ByteArray) rfl (by simp only [maxLen]; have : (⟨#[92, 120]⟩ : ByteArray).size = 2 := rfl; omega) (by have : (⟨#[92, 120]⟩ : ByteArray).size = 2 := rfl; omega) hsx ?_
          intro v1 w1 hown1 hgrow1
          have hb1 : Below w.heap.size w w1 := HBX.out.drew.grown hgrow1 HBX.out.size (fun j e => (HR.out.lt j e).1)
          have hs1 : w.heap.size ≤ w1.heap.size := hb1.size
          refine hK.out _ _ trivial (fun _ => ?_)
          clear hK K
          refine wpAnyH_ready (rs := [5]) (by kernel_rfl) (by simp) ?_
          refine AllReadyH.cons rfl (fun K hK => ?_) AllReadyH.nil
          rw [if_pos (by kernel_rfl)]
          go_simp
          go_wp2_with (go_at_call 46; refine (rhex_any _ _).mono ?_; rintro e y ⟨rfl, n, hy⟩)
          subst hy
          refine hK.out _ _ trivial (fun _ => ?_)
          clear hK K
          refine wpAnyH_ready (rs := [6]) (by kernel_rfl) (by simp) ?_
          refine AllReadyH.cons rfl (fun K hK => ?_) AllReadyH.nil
          rw [if_pos (by kernel_rfl)]
          refine wp_append_str _ _ _ 25 9 rfl w.heap.size 5 i0 Tryz.underlying25 Tryz.underlying9 hi hz0 hz1 hz2 v1 (acc.length + 2) (Lib.byteCells acc ++ Lib.strCells ⟨#[92, 120]⟩) rfl hown1 (⟨#[hexD ((s[q]'hlt).toNat / 16), hexD ((s[q]'hlt).toNat % 16)]⟩ : ByteArray) rfl (by simp only [maxLen]; have : (⟨#[hexD ((s[q]'hlt).toNat / 16), hexD ((s[q]'hlt).toNat % 16)]⟩ : ByteArray).size = 2 := rfl; omega) (by have : (⟨#[hexD ((s[q]'hlt).toNat / 16), hexD ((s[q]'hlt).toNat % 16)]⟩ : ByteArray).size = 2 := rfl; omega) hs1 ?_
          intro v' w4 hown' hgrow'
          have hb4 : Below w.heap.size w w4 := (below_drewN hb1 _).grown hgrow' hs1 (fun j e => (World.ownsRow.lt hown1 j e).1)
          refine hK.out _ _ trivial (fun _ => ?_)
          clear hK K
          refine wpAnyH_take (i := 7) (v := v') rfl (by kernel_rfl) (by kernel_rfl) (by kernel_rfl) (fun _ _ _ h => h) (Or.inl ⟨by kernel_rfl, fun w' hw => by go_simp⟩) trivial ?_
          refine wpAnyH_done (by kernel_rfl) (noPanS_normal ?_) _
          try simp only [Act.put, List.getElem_toArray, List.getElem_cons_zero, List.getElem_cons_succ, List.setIfInBounds_toArray, List.set_cons_zero, List.set_cons_succ]
          have hrow4 : Row8 w4 w.heap.size v' (acc ++ P) := by
            have e1 := Row8.more (m := [92, 120]) rfl hown1
            have e2 : Row8 w4 w.heap.size v' ((acc ++ [92, 120]) ++ [hexD ((s[q]'hlt).toNat / 16), hexD ((s[q]'hlt).toNat % 16)]) := by
              refine Row8.more (l := acc ++ [92, 120]) (U := ⟨#[hexD ((s[q]'hlt).toNat / 16), hexD ((s[q]'hlt).toNat % 16)]⟩) rfl ?_
              rw [Lib.byteCells_append, List.length_append]
              exact hown'
            rw [hP]
            rw [List.append_assoc] at e2
            exact e2
          go_wp2_with (fail)
          go_roundw
          case rel => exact ⟨q + m, acc ++ P, by go_num, by omega, HNX.out, hnl, hrow4, hb4⟩
          case measure => simp [intOf]; omega
      have h32I : (32 : Int) ≤ (r : Int) := by omega
      by_cases h127 : r = 127
      · have hP : P = [92, 120, hexD ((s[q]'hlt).toNat / 16), hexD ((s[q]'hlt).toNat % 16)] := by
          have := HPC.out
          rw [if_neg (fun h => absurd h.2 (by rw [h127]; decide))] at this
          rw [this]
          rw [h127]; rfl
        have h127I : ((r : Int) == 127) = true := by rw [h127]; rfl
        rw [hdw] at KC
        clear HX HPC hxx hdw h127
        go_wp2_with (first | (go_at_call 45; refine (KC.out _).mono ?_; rintro e x ⟨rfl, hbx⟩; have HR := hide (HROW.out.below hbx); have HBX := hide (bseq HB.out hbx); have hwx := hbx.size; clear hbx))
        refine Go.wp_mono (Q := noPanS _) ?_ noPanS_le
        refine wp_region_held_drew (S := fun W => True) (by kernel_rfl) trivial (fun hS => ?_)
        refine wpAnyH_take (i := 0) (v := u3) rfl (by kernel_rfl) (by kernel_rfl) (by kernel_rfl) (fun _ _ _ h => h) (Or.inl ⟨by kernel_rfl, fun w' hw => by go_simp⟩) trivial ?_
        refine wpAnyH_take (i := 2) (v := .string s) rfl (by kernel_rfl) (by kernel_rfl) (by kernel_rfl) (fun _ _ _ h => h) (Or.inl ⟨by kernel_rfl, fun w' hw => by go_simp⟩) trivial ?_
        refine wpAnyH_take (i := 3) (v := .int .i64 (q : Int)) rfl (by kernel_rfl) (by kernel_rfl) (by kernel_rfl) (fun _ _ _ h => h) (Or.inl ⟨by kernel_rfl, fun w' hw => by go_simp⟩) trivial ?_
        refine wpAnyH_take (i := 4) (v := .int .u8 ((s[q]'hlt).toNat : Int)) rfl (by kernel_rfl) (by kernel_rfl) (by kernel_rfl) (fun _ _ _ h => h) (Or.inl ⟨by kernel_rfl, fun w' hw => by go_simp⟩) trivial ?_
        have hsx : w.heap.size ≤ x.heap.size := HBX.out.size
        refine wpAnyH_ready (rs := [1]) (by kernel_rfl) (by simp) ?_
        refine AllReadyH.cons rfl (fun K hK => ?_) AllReadyH.nil
        · rw [if_pos (by kernel_rfl)]
          refine wp_append_str _ _ _ 25 9 rfl w.heap.size 5 i0 Tryz.underlying25 Tryz.underlying9 hi hz0 hz1 hz2 u3 acc.length (Lib.byteCells acc) rfl HR.out (⟨#[92, 120]⟩ : ByteArray) rfl (by simp only [maxLen]; have : (⟨#[92, 120]⟩ : ByteArray).size = 2 := rfl; omega) (by have : (⟨#[92, 120]⟩ : ByteArray).size = 2 := rfl; omega) hsx ?_
          intro v1 w1 hown1 hgrow1
          have hb1 : Below w.heap.size w w1 := HBX.out.drew.grown hgrow1 HBX.out.size (fun j e => (HR.out.lt j e).1)
          have hs1 : w.heap.size ≤ w1.heap.size := hb1.size
          refine hK.out _ _ trivial (fun _ => ?_)
          clear hK K
          refine wpAnyH_ready (rs := [5]) (by kernel_rfl) (by simp) ?_
          refine AllReadyH.cons rfl (fun K hK => ?_) AllReadyH.nil
          rw [if_pos (by kernel_rfl)]
          go_simp
          go_wp2_with (go_at_call 46; refine (rhex_any _ _).mono ?_; rintro e y ⟨rfl, n, hy⟩)
          subst hy
          refine hK.out _ _ trivial (fun _ => ?_)
          clear hK K
          refine wpAnyH_ready (rs := [6]) (by kernel_rfl) (by simp) ?_
          refine AllReadyH.cons rfl (fun K hK => ?_) AllReadyH.nil
          rw [if_pos (by kernel_rfl)]
          refine wp_append_str _ _ _ 25 9 rfl w.heap.size 5 i0 Tryz.underlying25 Tryz.underlying9 hi hz0 hz1 hz2 v1 (acc.length + 2) (Lib.byteCells acc ++ Lib.strCells ⟨#[92, 120]⟩) rfl hown1 (⟨#[hexD ((s[q]'hlt).toNat / 16), hexD ((s[q]'hlt).toNat % 16)]⟩ : ByteArray) rfl (by simp only [maxLen]; have : (⟨#[hexD ((s[q]'hlt).toNat / 16), hexD ((s[q]'hlt).toNat % 16)]⟩ : ByteArray).size = 2 := rfl; omega) (by have : (⟨#[hexD ((s[q]'hlt).toNat / 16), hexD ((s[q]'hlt).toNat % 16)]⟩ : ByteArray).size = 2 := rfl; omega) hs1 ?_
          intro v' w4 hown' hgrow'
          have hb4 : Below w.heap.size w w4 := (below_drewN hb1 _).grown hgrow' hs1 (fun j e => (World.ownsRow.lt hown1 j e).1)
          refine hK.out _ _ trivial (fun _ => ?_)
          clear hK K
          refine wpAnyH_take (i := 7) (v := v') rfl (by kernel_rfl) (by kernel_rfl) (by kernel_rfl) (fun _ _ _ h => h) (Or.inl ⟨by kernel_rfl, fun w' hw => by go_simp⟩) trivial ?_
          refine wpAnyH_done (by kernel_rfl) (noPanS_normal ?_) _
          try simp only [Act.put, List.getElem_toArray, List.getElem_cons_zero, List.getElem_cons_succ, List.setIfInBounds_toArray, List.set_cons_zero, List.set_cons_succ]
          have hrow4 : Row8 w4 w.heap.size v' (acc ++ P) := by
            have e1 := Row8.more (m := [92, 120]) rfl hown1
            have e2 : Row8 w4 w.heap.size v' ((acc ++ [92, 120]) ++ [hexD ((s[q]'hlt).toNat / 16), hexD ((s[q]'hlt).toNat % 16)]) := by
              refine Row8.more (l := acc ++ [92, 120]) (U := ⟨#[hexD ((s[q]'hlt).toNat / 16), hexD ((s[q]'hlt).toNat % 16)]⟩) rfl ?_
              rw [Lib.byteCells_append, List.length_append]
              exact hown'
            rw [hP]
            rw [List.append_assoc] at e2
            exact e2
          go_wp2_with (fail)
          go_roundw
          case rel => exact ⟨q + m, acc ++ P, by go_num, by omega, HNX.out, hnl, hrow4, hb4⟩
          case measure => simp [intOf]; omega
      have n127 : ((r : Int) == 127) = false := beq_eq_false_iff_ne.2 (by omega)
      by_cases hr133 : r = 133
      · have hP : P = [92, 117, 123, 56, 53, 125] := by
          have := HPC.out
          rw [if_neg (fun h => absurd h.2 (by rw [hr133]; decide)), hr133] at this
          exact this
        have hdw : decide (wl ≠ 0) = true := decide_eq_true hxx
        have g1 : (32 : Int) ≤ (r : Int) := by omega
        have g2 : ((r : Int) == 127) = false := beq_eq_false_iff_ne.2 (by omega)
        have kp := fun W => rplain_any (r : Int) W
        rw [hdw] at KC
        rw [hr133] at KC kp g1 g2
        rw [show plainK ((133 : Nat) : Int) = false from by decide] at kp
        have KP := hide kp
        have KF := hide (fun W h => fmt_133 W h)
        have hl3 : (⟨#[92, 117, 123]⟩ : ByteArray).size = 3 := rfl
        have hl4 : (⟨#[56, 53]⟩ : ByteArray).size = 2 := rfl
        clear HX HPC hdw hxx kp n34 n92 n10 n13 n9
        have st0 := True.intro
        go_wp2_with (first | (go_at_call 45; refine (KC.out _).mono ?_; rintro e x ⟨rfl, hbx⟩; have HR := hide (HROW.out.below hbx); have HBX := hide (bseq HB.out hbx); have hwx := hbx.size; clear hbx) | (go_at_call 47; refine (KP.out _).mono ?_; rintro e x2 ⟨rfl, hx2⟩; subst hx2) | (at_builtin; refine Lib.wpList_append_own_string _ rfl _ _ 25 9 rfl w.heap.size 5 i0 Tryz.underlying25 Tryz.underlying9 hi hz0 hz1 hz2 _ acc.length (Lib.byteCells acc) rfl HR.out ⟨#[92, 117, 123]⟩ rfl (by simp only [maxLen]; omega) (by omega) (by clear st0; have := HBX.out.size; omega) ?_; intro v1 w1 hown1 hgrow1 _; have HR1 := hide (Row8.more (m := [92, 117, 123]) rfl hown1); have HB1 := hide (HBX.out.grown hgrow1 HBX.out.size (fun j e => (HR.out.lt j e).1)); clear st0 HR hown1 hgrow1) | (go_at_call 48; refine (KF.out _ (HZ.out.below HB1.out)).mono ?_; rintro e x3 ⟨rfl, hx3⟩; have HR2 := hide (HR1.out.below hx3); have HB2 := hide (bseq HB1.out hx3); clear HR1 hx3) | (at_builtin; refine Lib.wpList_append_own_string _ rfl _ _ 25 9 rfl w.heap.size 5 i0 Tryz.underlying25 Tryz.underlying9 hi hz0 hz1 hz2 v1 (List.length (α := UInt8) (acc ++ [92, 117, 123])) (Lib.byteCells (acc ++ [92, 117, 123])) rfl HR2.out ⟨#[56, 53]⟩ rfl (by simp only [maxLen, List.length_append, List.length_cons, List.length_nil]; omega) (by simp only [List.length_append, List.length_cons, List.length_nil]; omega) (by have := HB2.out.size; omega) ?_; intro v2 w2 hown2 hgrow2 _; have HR3 := hide (Row8.more (m := [56, 53]) rfl hown2); have HB3 := hide (HB2.out.grown hgrow2 HB2.out.size (fun j e => (HR2.out.lt j e).1)); have hs3 : w.heap.size ≤ w2.heap.size := HB3.out.size; clear HR2 hown2 hgrow2) | (at_builtin; refine wpList_append_own_at _ rfl _ _ 25 rfl w.heap.size 5 i0 (.int .u8 0) 1 1 Tryz.underlying25 hi hz0 hz1 hz2 rfl (by decide) v2 (List.length (α := UInt8) (acc ++ [92, 117, 123] ++ [56, 53])) (Lib.byteCells (acc ++ [92, 117, 123] ++ [56, 53])) rfl (HR3.out.alloc _) ⟨w2.heap.size, 0, none⟩ 1 1 [.int .u8 125] rfl rfl (cell1_new _ _ _) (by simp [Value.oneCell']) (by unfold maxLen; simp only [List.length_append, List.length_cons, List.length_nil]; omega) (by simp only [List.length_append, List.length_cons, List.length_nil]; omega) (by simp; omega) ?_; intro v' w4 hown' hgrow' _ _))
        have hb4 : Below w.heap.size w w4 := (HB3.out.alloc HB3.out.size _).grown hgrow' (by simp; omega) (fun j e => (HR3.out.lt j e).1)
        have hrow4 : Row8 w4 w.heap.size v' (acc ++ P) := by
          have e1 := Row8.more1 125 hown'
          rw [hP]
          simpa using e1
        subst hr133
        go_roundw
        case rel => exact ⟨q + m, acc ++ P, by go_num, by omega, HNX.out, hnl, hrow4, hb4⟩
        case measure => simp [intOf]; omega
      by_cases hr8232 : r = 8232
      · have hP : P = [92, 117, 123, 50, 48, 50, 56, 125] := by
          have := HPC.out
          rw [if_neg (fun h => absurd h.2 (by rw [hr8232]; decide)), hr8232] at this
          exact this
        have hdw : decide (wl ≠ 0) = true := decide_eq_true hxx
        have g1 : (32 : Int) ≤ (r : Int) := by omega
        have g2 : ((r : Int) == 127) = false := beq_eq_false_iff_ne.2 (by omega)
        have kp := fun W => rplain_any (r : Int) W
        rw [hdw] at KC
        rw [hr8232] at KC kp g1 g2
        rw [show plainK ((8232 : Nat) : Int) = false from by decide] at kp
        have KP := hide kp
        have KF := hide (fun W h => fmt_8232 W h)
        have hl3 : (⟨#[92, 117, 123]⟩ : ByteArray).size = 3 := rfl
        have hl4 : (⟨#[50, 48, 50, 56]⟩ : ByteArray).size = 4 := rfl
        clear HX HPC hdw hxx kp n34 n92 n10 n13 n9
        have st0 := True.intro
        go_wp2_with (first | (go_at_call 45; refine (KC.out _).mono ?_; rintro e x ⟨rfl, hbx⟩; have HR := hide (HROW.out.below hbx); have HBX := hide (bseq HB.out hbx); have hwx := hbx.size; clear hbx) | (go_at_call 47; refine (KP.out _).mono ?_; rintro e x2 ⟨rfl, hx2⟩; subst hx2) | (at_builtin; refine Lib.wpList_append_own_string _ rfl _ _ 25 9 rfl w.heap.size 5 i0 Tryz.underlying25 Tryz.underlying9 hi hz0 hz1 hz2 _ acc.length (Lib.byteCells acc) rfl HR.out ⟨#[92, 117, 123]⟩ rfl (by simp only [maxLen]; omega) (by omega) (by clear st0; have := HBX.out.size; omega) ?_; intro v1 w1 hown1 hgrow1 _; have HR1 := hide (Row8.more (m := [92, 117, 123]) rfl hown1); have HB1 := hide (HBX.out.grown hgrow1 HBX.out.size (fun j e => (HR.out.lt j e).1)); clear st0 HR hown1 hgrow1) | (go_at_call 48; refine (KF.out _ (HZ.out.below HB1.out)).mono ?_; rintro e x3 ⟨rfl, hx3⟩; have HR2 := hide (HR1.out.below hx3); have HB2 := hide (bseq HB1.out hx3); clear HR1 hx3) | (at_builtin; refine Lib.wpList_append_own_string _ rfl _ _ 25 9 rfl w.heap.size 5 i0 Tryz.underlying25 Tryz.underlying9 hi hz0 hz1 hz2 v1 (List.length (α := UInt8) (acc ++ [92, 117, 123])) (Lib.byteCells (acc ++ [92, 117, 123])) rfl HR2.out ⟨#[50, 48, 50, 56]⟩ rfl (by simp only [maxLen, List.length_append, List.length_cons, List.length_nil]; omega) (by simp only [List.length_append, List.length_cons, List.length_nil]; omega) (by have := HB2.out.size; omega) ?_; intro v2 w2 hown2 hgrow2 _; have HR3 := hide (Row8.more (m := [50, 48, 50, 56]) rfl hown2); have HB3 := hide (HB2.out.grown hgrow2 HB2.out.size (fun j e => (HR2.out.lt j e).1)); have hs3 : w.heap.size ≤ w2.heap.size := HB3.out.size; clear HR2 hown2 hgrow2) | (at_builtin; refine wpList_append_own_at _ rfl _ _ 25 rfl w.heap.size 5 i0 (.int .u8 0) 1 1 Tryz.underlying25 hi hz0 hz1 hz2 rfl (by decide) v2 (List.length (α := UInt8) (acc ++ [92, 117, 123] ++ [50, 48, 50, 56])) (Lib.byteCells (acc ++ [92, 117, 123] ++ [50, 48, 50, 56])) rfl (HR3.out.alloc _) ⟨w2.heap.size, 0, none⟩ 1 1 [.int .u8 125] rfl rfl (cell1_new _ _ _) (by simp [Value.oneCell']) (by unfold maxLen; simp only [List.length_append, List.length_cons, List.length_nil]; omega) (by simp only [List.length_append, List.length_cons, List.length_nil]; omega) (by simp; omega) ?_; intro v' w4 hown' hgrow' _ _))
        have hb4 : Below w.heap.size w w4 := (HB3.out.alloc HB3.out.size _).grown hgrow' (by simp; omega) (fun j e => (HR3.out.lt j e).1)
        have hrow4 : Row8 w4 w.heap.size v' (acc ++ P) := by
          have e1 := Row8.more1 125 hown'
          rw [hP]
          simpa using e1
        subst hr8232
        go_roundw
        case rel => exact ⟨q + m, acc ++ P, by go_num, by omega, HNX.out, hnl, hrow4, hb4⟩
        case measure => simp [intOf]; omega
      by_cases hr8233 : r = 8233
      · have hP : P = [92, 117, 123, 50, 48, 50, 57, 125] := by
          have := HPC.out
          rw [if_neg (fun h => absurd h.2 (by rw [hr8233]; decide)), hr8233] at this
          exact this
        have hdw : decide (wl ≠ 0) = true := decide_eq_true hxx
        have g1 : (32 : Int) ≤ (r : Int) := by omega
        have g2 : ((r : Int) == 127) = false := beq_eq_false_iff_ne.2 (by omega)
        have kp := fun W => rplain_any (r : Int) W
        rw [hdw] at KC
        rw [hr8233] at KC kp g1 g2
        rw [show plainK ((8233 : Nat) : Int) = false from by decide] at kp
        have KP := hide kp
        have KF := hide (fun W h => fmt_8233 W h)
        have hl3 : (⟨#[92, 117, 123]⟩ : ByteArray).size = 3 := rfl
        have hl4 : (⟨#[50, 48, 50, 57]⟩ : ByteArray).size = 4 := rfl
        clear HX HPC hdw hxx kp n34 n92 n10 n13 n9
        have st0 := True.intro
        go_wp2_with (first | (go_at_call 45; refine (KC.out _).mono ?_; rintro e x ⟨rfl, hbx⟩; have HR := hide (HROW.out.below hbx); have HBX := hide (bseq HB.out hbx); have hwx := hbx.size; clear hbx) | (go_at_call 47; refine (KP.out _).mono ?_; rintro e x2 ⟨rfl, hx2⟩; subst hx2) | (at_builtin; refine Lib.wpList_append_own_string _ rfl _ _ 25 9 rfl w.heap.size 5 i0 Tryz.underlying25 Tryz.underlying9 hi hz0 hz1 hz2 _ acc.length (Lib.byteCells acc) rfl HR.out ⟨#[92, 117, 123]⟩ rfl (by simp only [maxLen]; omega) (by omega) (by clear st0; have := HBX.out.size; omega) ?_; intro v1 w1 hown1 hgrow1 _; have HR1 := hide (Row8.more (m := [92, 117, 123]) rfl hown1); have HB1 := hide (HBX.out.grown hgrow1 HBX.out.size (fun j e => (HR.out.lt j e).1)); clear st0 HR hown1 hgrow1) | (go_at_call 48; refine (KF.out _ (HZ.out.below HB1.out)).mono ?_; rintro e x3 ⟨rfl, hx3⟩; have HR2 := hide (HR1.out.below hx3); have HB2 := hide (bseq HB1.out hx3); clear HR1 hx3) | (at_builtin; refine Lib.wpList_append_own_string _ rfl _ _ 25 9 rfl w.heap.size 5 i0 Tryz.underlying25 Tryz.underlying9 hi hz0 hz1 hz2 v1 (List.length (α := UInt8) (acc ++ [92, 117, 123])) (Lib.byteCells (acc ++ [92, 117, 123])) rfl HR2.out ⟨#[50, 48, 50, 57]⟩ rfl (by simp only [maxLen, List.length_append, List.length_cons, List.length_nil]; omega) (by simp only [List.length_append, List.length_cons, List.length_nil]; omega) (by have := HB2.out.size; omega) ?_; intro v2 w2 hown2 hgrow2 _; have HR3 := hide (Row8.more (m := [50, 48, 50, 57]) rfl hown2); have HB3 := hide (HB2.out.grown hgrow2 HB2.out.size (fun j e => (HR2.out.lt j e).1)); have hs3 : w.heap.size ≤ w2.heap.size := HB3.out.size; clear HR2 hown2 hgrow2) | (at_builtin; refine wpList_append_own_at _ rfl _ _ 25 rfl w.heap.size 5 i0 (.int .u8 0) 1 1 Tryz.underlying25 hi hz0 hz1 hz2 rfl (by decide) v2 (List.length (α := UInt8) (acc ++ [92, 117, 123] ++ [50, 48, 50, 57])) (Lib.byteCells (acc ++ [92, 117, 123] ++ [50, 48, 50, 57])) rfl (HR3.out.alloc _) ⟨w2.heap.size, 0, none⟩ 1 1 [.int .u8 125] rfl rfl (cell1_new _ _ _) (by simp [Value.oneCell']) (by unfold maxLen; simp only [List.length_append, List.length_cons, List.length_nil]; omega) (by simp only [List.length_append, List.length_cons, List.length_nil]; omega) (by simp; omega) ?_; intro v' w4 hown' hgrow' _ _))
        have hb4 : Below w.heap.size w w4 := (HB3.out.alloc HB3.out.size _).grown hgrow' (by simp; omega) (fun j e => (HR3.out.lt j e).1)
        have hrow4 : Row8 w4 w.heap.size v' (acc ++ P) := by
          have e1 := Row8.more1 125 hown'
          rw [hP]
          simpa using e1
        subst hr8233
        go_roundw
        case rel => exact ⟨q + m, acc ++ P, by go_num, by omega, HNX.out, hnl, hrow4, hb4⟩
        case measure => simp [intOf]; omega
      have hpk : plainK (r : Int) = true := by
        unfold plainK
        rw [n34, n92, n127, beq_eq_false_iff_ne.2 (by omega), beq_eq_false_iff_ne.2 (by omega), beq_eq_false_iff_ne.2 (by omega), decide_eq_true h32I]
        rfl
      have kp := fun W => rplain_any (r : Int) W
      rw [hpk] at kp
      have hP := HPC.out
      rw [if_pos ⟨hxx, hpk⟩, ← HX.out] at hP
      have hwl : acc.length + (s.extract q (q + m)).size ≤ 140737488355328 := by rw [ByteArray.size_extract]; omega
      rw [hdw] at KC
      have KP := hide kp
      have HP := hide hP
      clear HX HPC kp hpk hP hxx hdw
      go_wp2_with (first | (go_at_call 45; refine (KC.out _).mono ?_; rintro e x ⟨rfl, hbx⟩; have HR := hide (HROW.out.below hbx); have HBX := hide (bseq HB.out hbx); have hwx := hbx.size; clear hbx) | (go_at_call 47; refine (KP.out _).mono ?_; rintro e x2 ⟨rfl, hx2⟩; subst hx2) | (at_builtin; refine Lib.wpList_append_own_string _ rfl _ _ 25 9 rfl w.heap.size 5 i0 Tryz.underlying25 Tryz.underlying9 hi hz0 hz1 hz2 _ acc.length (Lib.byteCells acc) rfl HR.out (s.extract q (q + m)) rfl (by simp only [maxLen]; omega) (by omega) (by omega) ?_; intro v' w4 hown' hgrow' _))
      have hb4 : Below w.heap.size w w4 := HBX.out.grown hgrow' HBX.out.size (fun j e => (HR.out.lt j e).1)
      have hrow4 : Row8 w4 w.heap.size v' (acc ++ P) := Row8.more HP.out.symm hown'
      go_roundw
      case rel => exact ⟨q + m, acc ++ P, by go_num, by omega, HNX.out, hnl, hrow4, hb4⟩
      case measure => simp [intOf]; omega
    · have hltI : (s.size : Int) ≤ (q : Int) := by omega
      have hacc := HACC.out
      rw [List.drop_eq_nil_of_le (by rw [bl_len]; omega), qo_nil, List.append_nil] at hacc
      have HR := HROW
      go_wp2_with ((at_builtin; refine wpList_append_own_at _ rfl _ _ 25 rfl w.heap.size 5 i0 (.int .u8 0) 1 1 Tryz.underlying25 hi hz0 hz1 hz2 rfl (by decide) _ acc.length (Lib.byteCells acc) rfl (HR.out.alloc _) ⟨wr.heap.size, 0, none⟩ 1 1 [.int .u8 34] rfl rfl (cell1_new _ _ _) (by simp [Value.oneCell']) (by unfold maxLen; omega) (by omega) (by simp; omega) ?_; intro v' w4 hown' hgrow' _ _); have hcv := run_string_own8 _ _ _ _ (Row8.more1 34 hown'))
      go_ret
      refine ⟨rfl, ?_⟩
      exact (HB.out.alloc HB.out.size _).grown hgrow' (by simp; omega) (fun j e => (HROW.out.lt j e).1)
end Go.Proofs.YtaljllbfedfpoaaGreatDoor
namespace Go.Proofs.YtaljllbfedfpoaaGreatDoor
open Go.RowKit Go.Shelf
set_option linter.unusedVariables false

set_option maxRecDepth 100000 in
set_option maxHeartbeats 8000000 in
theorem quotes_road (s : ByteArray) (w : World) (hs : s.size ≤ 1048576) (hL : LaidW w) (hZ : LaidZ w) :
    Calls Tryz.prog 6 #[.string s] w fun e w' => e = .returned (.bool true) ∧ Below w.heap.size w w' := by
  have kq := quote_any s w (by omega) hZ
  have kr := fun W h => rquote_any s W (by omega) h
  generalize (⟨(34 :: (qo (bl s) ++ [34])).toArray⟩ : ByteArray) = Q at *
  have KQ := hide kq
  have KR := hide kr
  have HL := hide hL
  have HZ := hide hZ
  clear kq kr hL hZ
  go_enter Tryz.func6, Tryz.ntmps6
  go_wp2_with (first | (go_at_call 18; refine (KQ.out).mono ?_; rintro e x ⟨rfl, hx⟩; have HX := hide hx; clear hx) | (go_at_call 19; refine (KR.out _ (HZ.out.below HX.out)).mono ?_; rintro e y ⟨rfl, hy⟩; have HY := hide (bseq HX.out hy); clear hy) | (go_at_call 11; refine (works_any _ (HL.out.below HY.out) (HZ.out.below HY.out)).mono ?_; rintro e u ⟨rfl, hu⟩))
  go_ret
  exact ⟨rfl, bseq HY.out hu⟩
end Go.Proofs.YtaljllbfedfpoaaGreatDoor
namespace Go.Proofs.YtaljllbfedfpoaaGreatDoor
open Go.RowKit Go.Shelf
set_option linter.unusedVariables false

/-- A quoted text is one token. -/
theorem sc_quoted (l : List UInt8) : Sc (34 :: (qo l ++ [34])) 0 [] = .inl [(3, 0, l, 0)] := by
  have hlen : (34 :: (qo l ++ [34])).length = (qo l).length + 2 := by simp
  have h0 : 0 + skp blankC ((34 :: (qo l ++ [34])).drop 0) = 0 := rfl
  have hq : Qt ((34 :: (qo l ++ [34])).drop (0 + 1)) = (l, (qo l).length + 1, true) := Qt_qo [] l
  rw [Sc_eq [] (Nat.zero_le _) h0, hlen, if_neg (by omega), if_pos (show by' (34 :: (qo l ++ [34])) 0 = 34 from rfl), hq]
  simp only [if_true]
  rw [if_pos (Or.inl (by omega))]
  have hd : (34 :: (qo l ++ [34])).drop (0 + 1 + ((qo l).length + 1)) = [] := List.drop_eq_nil_of_le (by rw [hlen]; omega)
  have h1 : 0 + 1 + ((qo l).length + 1) + skp blankC ((34 :: (qo l ++ [34])).drop (0 + 1 + ((qo l).length + 1))) = (qo l).length + 2 := by rw [hd]; simp [skp]; omega
  rw [Sc_eq _ (by rw [hlen]; omega) h1, hlen, if_pos rfl]
  rfl
theorem one_cell {W : World} {a : Option Addr} {x0 : TkI} (h : SlK W a [x0]) : ∃ b off, a = some ⟨b, off, none⟩ ∧
    (W.cell? ⟨b, off, none⟩ = some (.int .i64 x0.1) ∧ W.cell? ⟨b, off + 1, none⟩ = some (.int .i64 x0.2.1) ∧ W.cell? ⟨b, off + 2, none⟩ = some (.string x0.2.2.1) ∧ W.cell? ⟨b, off + 3, none⟩ = some (.int .i64 x0.2.2.2)) := by
  rcases h with h | ⟨b, off, ha, hb, hc⟩
  · cases h
  · exact ⟨b, off, ha, hc 0 x0 rfl⟩
set_option maxRecDepth 100000 in
set_option maxHeartbeats 8000000 in
theorem back_road (s : ByteArray) (w : World) (hs : s.size ≤ 1048576) (hL : LaidW w) (hZ : LaidZ w) :
    Calls Tryz.prog 7 #[.string s] w fun e w' => e = .returned (.bool true) ∧ Below w.heap.size w w' := by
  have hqs := qo_len (bl s)
  rw [bl_len] at hqs
  obtain ⟨Q, hQ⟩ : ∃ Q : ByteArray, Q = ⟨(34 :: (qo (bl s) ++ [34])).toArray⟩ := ⟨_, rfl⟩
  have hQb : bl Q = 34 :: (qo (bl s) ++ [34]) := by rw [hQ]; rfl
  have kq := quote_any s w (by omega) hZ
  rw [← hQ] at kq
  have hsz : Q.size = (qo (bl s)).length + 2 := by rw [← bl_len, hQb]; simp
  have hok : ∀ i (h : i < Q.size), 32 ≤ (Q[i]'h).toNat ∧ (Q[i]'h).toNat ≠ 127 := by
    intro i h
    have hm : (Q[i]'h) ∈ bl Q := by
      have : (Q[i]'h) = (bl Q)[i]'(by rw [bl_len]; exact h) := rfl
      rw [this]
      exact List.getElem_mem _
    rw [hQb] at hm
    simp only [List.mem_cons, List.mem_append, List.not_mem_nil, or_false] at hm
    rcases hm with h1 | h1 | h1
    · rw [h1]; decide
    · exact qo_ok _ _ h1
    · rw [h1]; decide
  have hz0 : 0 < Q.size := by omega
  have e0 : (Q[0]'hz0).toNat = 34 := by
    have h1 := by'_get Q 0 hz0
    rw [← h1]
    show by' (bl Q) 0 = 34
    rw [hQb]; rfl
  have hzl : Q.size - 1 < Q.size := by omega
  have el : (Q[Q.size - 1]'hzl).toNat = 34 := by
    have h1 := by'_get Q (Q.size - 1) hzl
    rw [← h1]
    show by' (bl Q) (Q.size - 1) = 34
    rw [hQb, hsz]
    unfold by'
    rw [show (qo (bl s)).length + 2 - 1 = (qo (bl s)).length + 1 from rfl, List.getElem?_cons_succ, List.getElem?_append_right (Nat.le_refl _)]
    simp
  have KQ := hide kq
  have HOK := hide hok
  have HL := hide hL
  have HZ := hide hZ
  have HQB := hide hQb
  have h2 : (2 : Int) ≤ (Q.size : Int) := by omega
  have hqm : (Q.size : Int) ≤ 4194306 := by omega
  have hd2 : decide ((Q.size : Int) < 2) = false := decide_eq_false (by omega)
  have HSZ := hide hsz
  clear kq hok hL hZ hQb hQ hsz hqs
  go_enter Tryz.func7, Tryz.ntmps7
  go_wp2_with (go_at_call 18; refine (KQ.out).mono ?_; rintro e x ⟨rfl, hx⟩)
  go_loop [4] (fun i => ∃ k : Nat, i = .int .i64 k ∧ k ≤ Q.size) (fun i => Q.size - (intOf i).toNat)
  case atStart => exact ⟨0, rfl, Nat.zero_le _⟩
  case round =>
    obtain ⟨k, rfl, hk⟩ := hrel
    by_cases hlt : k < Q.size
    · have hltI : (k : Int) < (Q.size : Int) := by omega
      obtain ⟨o1, o2⟩ := HOK.out k hlt
      have o3 : (32 : Int) ≤ ((Q[k]'hlt).toNat : Int) := by omega
      have o4 : (((Q[k]'hlt).toNat : Int) == 127) = false := beq_eq_false_iff_ne.2 (by omega)
      clear o1 o2
      go_wp2
      go_round
      case rel => exact ⟨k + 1, by go_num, by omega⟩
      case measure => simp [intOf]; omega
    · have hge : (Q.size : Int) ≤ (k : Int) := by omega
      by_cases hbig : 16384 < Q.size
      · have hbigI : (16384 : Int) < (Q.size : Int) := by omega
        go_wp2_with (go_at_call 11; refine (works_any _ (HL.out.below hx) (HZ.out.below hx)).mono ?_; rintro e y ⟨rfl, hy⟩)
        go_ret
        exact ⟨rfl, bseq hx hy⟩
      · have hbigI : (Q.size : Int) ≤ 16384 := by omega
        have h34 : isAt Q 0 34 = true := by
          unfold isAt
          rw [decide_eq_true hz0, HQB.out]
          rfl
        have hQt : Qt ((bl Q).drop 1) = (bl s, (qo (bl s)).length + 1, true) := by rw [HQB.out]; exact Qt_qo [] (bl s)
        have ku := fun W => unq_ok Q W (by omega) h34 (bl s) ((qo (bl s)).length + 1) hQt (by have := HSZ.out; omega)
        rw [bl_back] at ku
        have ks := fun W h => scan_any Q W (by omega) h
        rw [HQB.out, sc_quoted] at ks
        have KU := hide ku
        have KS := hide ks
        have g0 := Tryz.noGuardTk
        have g1 := fun W => eql_tk 3 0 s 0 W
        have KW := hide (fun W h1 h2 => works_any W h1 h2)
        clear ku ks h34 hQt
        go_wp2_with (first | (go_at_call 16; refine (KU.out _).mono ?_; rintro e y ⟨rfl, hy⟩; have HY := hide (bseq hx hy); clear hy) | (go_at_call 12; refine (KS.out _ (HL.out.below HY.out)).mono ?_; rintro e z ⟨v, rfl, hrow, hbz⟩; obtain ⟨a, cap, rfl, hsl0⟩ := hrow.slk; have hsl : SlK z a [(3, 0, ⟨(bl s).toArray⟩, 0)] := hsl0; rw [bl_back] at hsl; obtain ⟨b0, off, ha, ⟨c00, c01, c02, c03⟩⟩ := one_cell hsl; subst ha; have HZZ := hide (bseq HY.out hbz); clear hsl hsl0 hrow hbz) | (go_at_call 11; refine (KW.out _ (HL.out.below HZZ.out) (HZ.out.below HZZ.out)).mono ?_; rintro e u ⟨rfl, hu⟩))
        go_ret
        exact ⟨rfl, bseq HZZ.out hu⟩
end Go.Proofs.YtaljllbfedfpoaaGreatDoor
namespace Go.Proofs.YtaljllbfedfpoaaGreatDoor
open Go.RowKit Go.Shelf
set_option linter.unusedVariables false

set_option maxRecDepth 100000 in
set_option maxHeartbeats 4000000 in
theorem scan_over (s : ByteArray) (w : World) (hs : 16384 < s.size) :
    Calls Tryz.prog 12 #[.string s] w fun e w' => ScPost (.inr (4, 0)) w e w' := by
  go_enter Tryz.func12, Tryz.ntmps12
  go_wp2_with (fail)
  refine wp_scope_mixR 0 (fun _ _ => False) (fun _ _ => 0) rfl (fun _ _ h => h.elim) (fun _ => ?_)
  go_wp2_with (fail)
  rw [jumpA_ret]
  go_ret2
  exact ⟨w.heap.size, rfl, Nat.le_refl _, heap_alloc_new w _, (Below.refl _ w).alloc (Nat.le_refl _) _⟩
set_option maxRecDepth 100000 in
set_option maxHeartbeats 4000000 in
theorem again_err (s : ByteArray) (c : Int) (a : Nat) (w : World) (hk : Calls Tryz.prog 12 #[.string s] w fun e w' => ScPost (.inr (c, a)) w e w') (hL : LaidW w) (hZ : LaidZ w) :
    Calls Tryz.prog 8 #[.string s] w fun e w' => e = .returned (.bool true) ∧ Below w.heap.size w w' := by
  have KS := hide hk
  have HL := hide hL
  have HZ := hide hZ
  clear hk hL hZ
  go_enter Tryz.func8, Tryz.ntmps8
  go_wp2_with (first | (go_at_call 12; refine (KS.out).mono ?_; rintro e x ⟨k, rfl, hk1, hk2, hbx⟩; have HBX := hide hbx; clear hk1 hk2 hbx) | (go_at_call 11; refine (works_any _ (HL.out.below HBX.out) (HZ.out.below HBX.out)).mono ?_; rintro e q ⟨rfl, hq⟩))
  go_ret
  exact ⟨rfl, bseq HBX.out hq⟩
theorem cut_tok {W : World} {B C : Nat} {k1 a1 a2 n1 : Int} {tx : ByteArray} {tt : TypeId} (hne : B ≠ C) (hB : W.heap[B]? = some (.cells #[.int .i64 k1, .int .i64 a1, .string tx, .int .i64 n1] tt (0, 0))) (hC : W.heap[C]? = some (.cells #[.int .i64 k1, .int .i64 a2, .string tx, .int .i64 n1] tt (0, 0))) :
    W.cell? ⟨B, 1, none⟩ = some (.int .i64 a1) ∧ (W.setCell ⟨B, 1, none⟩ (.int .i64 0)).cell? ⟨C, 1, none⟩ = some (.int .i64 a2) ∧
    ((W.setCell ⟨B, 1, none⟩ (.int .i64 0)).setCell ⟨C, 1, none⟩ (.int .i64 0)).heap[B]? = some (.cells #[.int .i64 k1, .int .i64 0, .string tx, .int .i64 n1] tt (0, 0)) ∧
    ((W.setCell ⟨B, 1, none⟩ (.int .i64 0)).setCell ⟨C, 1, none⟩ (.int .i64 0)).heap[C]? = some (.cells #[.int .i64 k1, .int .i64 0, .string tx, .int .i64 n1] tt (0, 0)) := by
  have R1 := heap_setCell_same W B 1 _ _ (.int .i64 0) hB
  have R2 : (W.setCell ⟨B, 1, none⟩ (.int .i64 0)).heap[C]? = _ := (heap_setCell_other W ⟨B, 1, none⟩ C (.int .i64 0) (Ne.symm hne)).trans hC
  have R3 := heap_setCell_same _ C 1 _ _ (.int .i64 0) R2
  have R4 := (heap_setCell_other (W.setCell ⟨B, 1, none⟩ (.int .i64 0)) ⟨C, 1, none⟩ B (.int .i64 0) hne).trans R1
  exact ⟨celS hB 1 _ rfl, celS R2 1 _ rfl, R4, R3⟩
theorem two_new (W : World) (X Y : Array Value) (t : TypeId) : ((W.alloc (.cells X t)).alloc (.cells Y t)).drew.heap[W.heap.size]? = some (.cells X t (0, 0)) ∧ ((W.alloc (.cells X t)).alloc (.cells Y t)).drew.heap[W.heap.size + 1]? = some (.cells Y t (0, 0)) ∧ Below W.heap.size W ((W.alloc (.cells X t)).alloc (.cells Y t)).drew := by
  refine ⟨?_, heap_alloc2_new W _ _, (((Below.refl _ W).alloc (Nat.le_refl _) _).alloc (by simp) _).drew⟩
  show ((W.alloc (.cells X t)).alloc (.cells Y t)).heap[W.heap.size]? = _
  rw [Below.heap_alloc _ _ _ (by simp)]
  exact heap_alloc_new W _
theorem row_keepA {W W' : World} {B : Nat} {o : Obj} (h : W.heap[B]? = some o) (hB : Below W.heap.size W W') : W'.heap[B]? = some o := by
  rw [hB.block _ (Array.getElem?_eq_some_iff.1 h).1]
  exact h

set_option maxHeartbeats 1000000 in
theorem dn_heap (W : World) (n : Nat) : (W.drewN n).heap = W.heap := by
  induction n with
  | zero => rfl
  | succ n ih => exact ih
theorem keep_dn {W X : World} {n B : Nat} {o : Obj} (h : W.heap[B]? = some o) (hb : Below (W.drewN n).heap.size (W.drewN n) X) : X.heap[B]? = some o ∧ B < (W.drewN n).heap.size := by
  have h1 : (W.drewN n).heap[B]? = some o := by rw [dn_heap]; exact h
  exact ⟨row_keepA h1 hb, (Array.getElem?_eq_some_iff.1 h1).1⟩
theorem RowT.one {W : World} {base : Nat} {v : Value} {t : Tk} (h : RowT W base v [t]) : ∃ g cap, v = .slice (some ⟨g, 0, none⟩) 1 cap ∧ base ≤ g ∧ W.cell? ⟨g, 0, none⟩ = some (.int .i64 t.1) ∧ W.cell? ⟨g, 1, none⟩ = some (.int .i64 (t.2.1 : Int)) ∧ W.cell? ⟨g, 2, none⟩ = some (.string ⟨t.2.2.1.toArray⟩) ∧ W.cell? ⟨g, 3, none⟩ = some (.int .i64 t.2.2.2) := by
  obtain ⟨a, cap, hv, hs⟩ := h.slk
  obtain ⟨b, off, ha, c0, c1, c2, c3⟩ := tok_cells (k := 0) (x := toI t) hs rfl
  rcases h.2 with ⟨h1, h2⟩ | ⟨g, cap', cur, hv', hg, hh, hnc, hcap, hs', hc⟩
  · cases h2
  · rw [hv, ha] at hv'
    cases hv'
    simp only [Nat.zero_mul, Nat.add_zero, Nat.zero_add] at c0 c1 c2 c3
    exact ⟨b, cap, by rw [hv, ha]; rfl, hg, c0, c1, c2, c3⟩
set_option maxRecDepth 100000 in
set_option maxHeartbeats 8000000 in
theorem again_ok (s : ByteArray) (ts : List Tk) (w : World) (hs : s.size ≤ 16384) (hR : Sc (bl s) 0 [] = .inl ts) (hL : LaidW w) (hZ : LaidZ w) :
    Calls Tryz.prog 8 #[.string s] w fun e w' => e = .returned (.bool true) ∧ Below w.heap.size w w' := by
  have hG := Sc_good hR
  have hok := Gd_ok hG
  have hsm := Sc_small hR
  have hcnt := Gd_count hG
  have hat := Gd_at hG
  rw [bl_len] at hsm hcnt
  have hbd : ∀ x ∈ ts.map toI, x.2.2.1.size ≤ 17592186044416 ∧ -9223372036854775808 ≤ x.2.2.2 ∧ x.2.2.2 ≤ 9223372036854775807 := by
    intro x hx
    obtain ⟨t, ht, rfl⟩ := List.mem_map.1 hx
    have h1 := hsm t ht
    refine ⟨?_, ok_range (hok t ht)⟩
    show (⟨t.2.2.1.toArray⟩ : ByteArray).size ≤ _
    have : (⟨t.2.2.1.toArray⟩ : ByteArray).size = t.2.2.1.length := by simp [ByteArray.size]
    omega
  obtain ⟨us, hU, hst⟩ := Sc_printed ts hok
  obtain ⟨hul, hua⟩ := strip_at hst
  have ks := scan_any s w hs hL
  rw [hR] at ks
  have kp := fun a cap W h hL hZ => print_any a cap (ts.map toI) W h hL hZ (by rw [List.length_map]; omega) hbd
  rw [prV_ok hok, List.length_map] at kp
  have g0 := Tryz.noGuardTk
  have KS := hide ks
  have HL := hide hL
  have HZ := hide hZ
  have HAT := hide hat
  have HUA := hide hua
  have hcI : (ts.length : Int) ≤ 16384 := by omega
  by_cases hJ : 16384 < (prJ (ts.map toI)).length
  · rw [if_pos hJ] at kp
    have KP := hide kp
    clear ks kp hL hZ hat hua hG hok hsm hbd hU hst hul
    go_enter Tryz.func8, Tryz.ntmps8
    go_wp2_with (fail)
    refine (KS.out).mono ?_
    rintro e x ⟨v, rfl, hrow, hbx⟩
    obtain ⟨a, cap, rfl, hsl⟩ := hrow.slk
    have HSL := hide hsl
    have HBX := hide hbx
    clear hsl hbx hrow
    go_wp2_with (first | (go_at_call 20; refine (KP.out a cap _ HSL.out (HL.out.below HBX.out) (HZ.out.below HBX.out)).mono ?_; rintro e y ⟨rfl, hby⟩; have HBY := hide (bseq HBX.out hby); clear hby) | (go_at_call 11; refine (works_any _ (HL.out.below HBY.out) (HZ.out.below HBY.out)).mono ?_; rintro e q ⟨rfl, hq⟩))
    go_ret
    exact ⟨rfl, bseq HBY.out hq⟩
  rw [if_neg hJ] at kp
  have KP := hide kp
  have hps : (⟨(prJ (ts.map toI)).toArray⟩ : ByteArray).size ≤ 16384 := by
    have : (⟨(prJ (ts.map toI)).toArray⟩ : ByteArray).size = (prJ (ts.map toI)).length := by simp [ByteArray.size]
    omega
  have ks2 := fun W hL => scan_any ⟨(prJ (ts.map toI)).toArray⟩ W hps hL
  rw [show bl ⟨(prJ (ts.map toI)).toArray⟩ = prJ (ts.map toI) by simp [bl], hU] at ks2
  have KS2 := hide ks2
  have kone : ∀ (lo hi : Nat) (t : Tk), Sc ((((bl s).drop lo)).take (hi - lo)) 0 [] = .inl [strip0 t] → ∀ W, LaidW W → Calls Tryz.prog 12 #[.string (s.extract lo hi)] W fun e w' => ScPost (.inl [strip0 t]) W e w' := by
    intro lo hi t h W hL
    have h1 := scan_any (s.extract lo hi) W (by rw [ByteArray.size_extract]; omega) hL
    rw [bl_extract, h] at h1
    exact h1
  have KONE := hide kone
  clear ks kp hL hZ hat hua hG hok hsm hbd hU hst ks2 kone hps hJ hR
  generalize (⟨(prJ (ts.map toI)).toArray⟩ : ByteArray) = P at *
  go_enter Tryz.func8, Tryz.ntmps8
  go_wp2_with (fail)
  refine (KS.out).mono ?_
  rintro e x ⟨v, rfl, hrow, hbx⟩
  obtain ⟨a, cap, rfl, hsl⟩ := hrow.slk
  have HSL := hide hsl
  have HBX := hide hbx
  clear hsl hbx hrow
  go_wp2_with (go_at_call 20; refine (KP.out a cap _ HSL.out (HL.out.below HBX.out) (HZ.out.below HBX.out)).mono ?_; rintro e y ⟨rfl, hby⟩; have HSL1 := hide (HSL.out.below hby); have HBY := hide (bseq HBX.out hby); clear hby HSL)
  refine (KS2.out _ (HL.out.below HBY.out)).mono ?_
  rintro e z ⟨v, rfl, hrow, hbz⟩
  obtain ⟨a2, cap2, rfl, hsl2⟩ := hrow.slk
  have HA := hide (HSL1.out.below hbz)
  have HB := hide hsl2
  have HBZ := hide (bseq HBY.out hbz)
  rw [hul]
  clear hsl2 hbz hrow HSL1
  go_wp2_with (fail)
  go_loopw [8] (fun i wr => ∃ k : Nat, i = .int .i64 (k : Int) ∧ k ≤ ts.length ∧ Below z.heap.size z wr) (fun i _ => ts.length - (intOf i).toNat)
  case atStart => exact ⟨0, rfl, Nat.zero_le _, Below.refl _ _⟩
  case round =>
    obtain ⟨k, rfl, hk, hB⟩ := hrel
    by_cases hlt : k < ts.length
    · obtain ⟨t, ht⟩ : ∃ t, ts[k]? = some t := ⟨_, List.getElem?_eq_getElem hlt⟩
      obtain ⟨hN1, hN2, hN3⟩ := HAT.out k t ht
      obtain ⟨A2, hu⟩ := HUA.out k t ht
      have hnext : ∀ u, ts[k + 1]? = some u → u.2.1 = nextAt (bl s) (ts.drop (k + 1)) := fun u h => (next_some h).symm
      have hlast : ¬ k + 1 < ts.length → nextAt (bl s) (ts.drop (k + 1)) = s.size := fun h => (next_none (by omega)).trans (bl_len s)
      have hprev : ∀ u, 0 < k → ts[k - 1]? = some u → u.2.1 < t.2.1 := by
        intro u h0 h
        have h1 := (HAT.out (k - 1) u h).1
        rw [Nat.sub_add_cancel h0, next_some ht] at h1
        exact h1
      rw [bl_len] at hN2
      generalize nextAt (bl s) (ts.drop (k + 1)) = N at *
      have kone := KONE.out t.2.1 N t hN3
      have hxs : (ts.map toI)[k]? = some (toI t) := by rw [List.getElem?_map, ht]; rfl
      have hys : (us.map toI)[k]? = some (toI (t.1, A2, t.2.2.1, t.2.2.2)) := by rw [List.getElem?_map, hu]; rfl
      obtain ⟨b0, off, rfl, v0, v1, v2, v3⟩ := tok_cells (HA.out.below hB) hxs
      obtain ⟨b1, off1, rfl, u0, u1, u2, u3⟩ := tok_cells (HB.out.below hB) hys
      obtain ⟨k1, A1, tl, n1⟩ := t
      simp only [toI] at v0 v1 v2 v3 u0 u1 u2 u3 hN1 hprev kone
      obtain ⟨tx, htx⟩ : ∃ tx, (⟨tl.toArray⟩ : ByteArray) = tx := ⟨_, rfl⟩
      rw [htx] at v2 u2
      have HV := hide (And.intro v0 (And.intro v1 (And.intro v2 v3)))
      have HU := hide (And.intro u0 (And.intro u1 (And.intro u2 u3)))
      have HBW := hide hB
      have HNX := hide hnext
      have HLA := hide hlast
      have HPR := hide hprev
      have HK1 := hide kone
      have HTX := hide htx
      have HTK := hide ht
      have hltI : (k : Int) < (ts.length : Int) := by omega
      clear hnext hlast hprev kone htx ht hu hxs hys hN3 hB KONE KP KS2 KS
      go_wp2_with (fail)
      go_cut [9, 10] (fun p q wx => ∃ B C : Nat, p = .pointer (some ⟨B, 0, none⟩) ∧ q = .pointer (some ⟨C, 0, none⟩) ∧ B ≠ C ∧ wr.heap.size ≤ B ∧ wr.heap.size ≤ C ∧ wx.heap[B]? = some (.cells #[.int .i64 k1, .int .i64 (A1 : Int), .string tx, .int .i64 n1] 28 (0, 0)) ∧ wx.heap[C]? = some (.cells #[.int .i64 k1, .int .i64 (A2 : Int), .string tx, .int .i64 n1] 28 (0, 0)) ∧ Below wr.heap.size wr wx)
      case first =>
        have al1 : ∀ {p : Addr} {v : Value}, wr.cell? p = some v → ∀ X, (wr.alloc X).cell? p = some v := fun h X => cell_belowS h ((Below.refl _ wr).alloc (Nat.le_refl _) X)
        have al2 : ∀ {p : Addr} {v : Value}, wr.cell? p = some v → ∀ X Y, ((wr.alloc X).alloc Y).cell? p = some v := fun h X Y => cell_belowS h (((Below.refl _ wr).alloc (Nat.le_refl _) X).alloc (by simp) Y)
        have v01 := al1 v0
        have v11 := al1 v1
        have v21 := al1 v2
        have v31 := al1 v3
        have v02 := al2 v0
        have v12 := al2 v1
        have v22 := al2 v2
        have v32 := al2 v3
        have u01 := al1 u0
        have u11 := al1 u1
        have u21 := al1 u2
        have u31 := al1 u3
        have u02 := al2 u0
        have u12 := al2 u1
        have u22 := al2 u2
        have u32 := al2 u3
        clear al1 al2
        go_region
        · go_wp2
          go_meet
          obtain ⟨n1', n2', n3'⟩ := two_new wr #[.int .i64 k1, .int .i64 (A1 : Int), .string tx, .int .i64 n1] #[.int .i64 k1, .int .i64 (A2 : Int), .string tx, .int .i64 n1] 28
          exact ⟨_, _, rfl, rfl, by omega, Nat.le_refl _, Nat.le_succ _, n1', n2', n3'⟩
        · go_wp2
          go_meet
          obtain ⟨n1', n2', n3'⟩ := two_new wr #[.int .i64 k1, .int .i64 (A2 : Int), .string tx, .int .i64 n1] #[.int .i64 k1, .int .i64 (A1 : Int), .string tx, .int .i64 n1] 28
          exact ⟨_, _, rfl, rfl, by omega, Nat.le_succ _, Nat.le_refl _, n2', n1', n3'⟩
      case rest =>
        obtain ⟨B, C, rfl, rfl, hne, hB1, hC1, rB, rC, hbc⟩ := hcut
        have HRB := hide rB
        have HRC := hide rC
        have HBC := hide (bseq HBW.out hbc)
        have HWB : Hid (z.heap.size ≤ B ∧ z.heap.size ≤ C) := hide ⟨Nat.le_trans HBW.out.size hB1, Nat.le_trans HBW.out.size hC1⟩
        clear rB rC hbc hB1 hC1 v0 v1 v2 v3 u0 u1 u2 u3 HV HU HBW
        go_upto_if 73 with (fail)
        go_cut [11] (fun e wx => e = .int .i64 (N : Int) ∧ wx = wc)
        case first =>
          by_cases h1 : k + 1 < ts.length
          · obtain ⟨u, hu⟩ : ∃ u, ts[k + 1]? = some u := ⟨_, List.getElem?_eq_getElem h1⟩
            have hue := HNX.out u hu
            obtain ⟨b9, off9, h9, c0, c1, c2, c3⟩ := tok_cells (HA.out.below HBC.out) (show (ts.map toI)[k + 1]? = some (toI u) by rw [List.getElem?_map, hu]; rfl)
            cases h9
            simp only [toI] at c1
            rw [hue] at c1
            have h1I : (k : Int) + 1 < (ts.length : Int) := by omega
            have e1 : ((k : Int) + 1).toNat = k + 1 := by omega
            clear c0 c2 c3 hue hu
            go_wp2_with (fail)
            go_meet
            exact ⟨rfl, rfl⟩
          · have h1I : (ts.length : Int) ≤ (k : Int) + 1 := by omega
            have e1 := HLA.out h1
            go_wp2_with (fail)
            go_meet
            exact ⟨by rw [e1], rfl⟩
        case rest =>
          obtain ⟨rfl, hw⟩ := hcut
          subst hw
          go_wp2_with (fail)
          go_cut [103] (fun c wx => c = .bool false ∧ ∃ n, wx = wc.drewN n)
          case first =>
            obtain ⟨⟨x0, x1⟩, x2, x3⟩ := four_at HRB.out
            have hA0 : (0 : Int) ≤ (A1 : Int) := by omega
            have hAN : (A1 : Int) < (N : Int) := by omega
            by_cases h0 : 0 < k
            · obtain ⟨u, hu⟩ : ∃ u, ts[k - 1]? = some u := ⟨_, List.getElem?_eq_getElem (by omega)⟩
              have hue := HPR.out u h0 hu
              obtain ⟨b9, off9, h9, c0, c1, c2, c3⟩ := tok_cells (HA.out.below HBC.out) (show (ts.map toI)[k - 1]? = some (toI u) by rw [List.getElem?_map, hu]; rfl)
              cases h9
              simp only [toI] at c1
              have h0I : (0 : Int) < (k : Int) := by omega
              have e1 : ((k : Int) - 1).toNat = k - 1 := by omega
              have e2 : (0 : Int) ≤ (k : Int) - 1 := by omega
              have e3 : (k : Int) - 1 < (ts.length : Int) := by omega
              have huI : (u.2.1 : Int) < (A1 : Int) := by omega
              generalize u.2.1 = U at *
              clear c0 c2 c3 hue hu
              have d1 : decide ((A1 : Int) < 0) = false := decide_eq_false (by omega)
              have d2 : decide ((N : Int) ≤ (A1 : Int)) = false := decide_eq_false (by omega)
              have d3 : decide ((0 : Int) < (k : Int)) = true := decide_eq_true (by omega)
              have d4 : decide ((A1 : Int) ≤ (U : Int)) = false := decide_eq_false (by omega)
              have d5 : decide (0 < k) = true := decide_eq_true h0
              have d6 : decide (A1 ≤ U) = false := decide_eq_false (by omega)
              have d7 : decide (N ≤ A1) = false := decide_eq_false (by omega)
              clear hA0 hAN h0I huI
              go_quiet (fail)
              go_wp2_with (fail)
              go_meet
              exact ⟨rfl, _, rfl⟩
            · have h0I : (k : Int) ≤ 0 := by omega
              have d1 : decide ((A1 : Int) < 0) = false := decide_eq_false (by omega)
              have d2 : decide ((N : Int) ≤ (A1 : Int)) = false := decide_eq_false (by omega)
              have d3 : decide ((0 : Int) < (k : Int)) = false := decide_eq_false (by omega)
              have d5 : decide (0 < k) = false := decide_eq_false h0
              have d7 : decide (N ≤ A1) = false := decide_eq_false (by omega)
              clear hA0 hAN h0I
              go_quiet (fail)
              go_wp2_with (fail)
              go_meet
              exact ⟨rfl, _, rfl⟩
          case rest =>
            obtain ⟨rfl, n, hw⟩ := hcut
            subst hw
            have HLZ := hide (HL.out.below (below_drewN (bseq HBZ.out HBC.out) n))
            have hAI : (A1 : Int) ≤ (N : Int) := by omega
            have hNI : (N : Int) ≤ (s.size : Int) := by omega
            obtain ⟨⟨x0, x1⟩, x2, x3⟩ := four_at HRB.out
            go_wp2_with (fail)
            refine (HK1.out _ HLZ.out).mono ?_
            rintro e X ⟨v, rfl, hrow, hbX⟩
            obtain ⟨rB, hlB⟩ := keep_dn HRB.out hbX
            obtain ⟨rC, hlC⟩ := keep_dn HRC.out hbX
            obtain ⟨q1, q2, q3, q4⟩ := cut_tok hne rB rC
            have f1 := frzS rB 1
            have f2 := frzS rC 1
            have f3 : (X.setCell ⟨B, 1, none⟩ (.int .i64 0)).frozen? ⟨C, 1, none⟩ = false := frzS ((heap_setCell_other X ⟨B, 1, none⟩ C (.int .i64 0) (Ne.symm hne)).trans rC) 1
            have hrowZ := hrow.keep (W' := (X.setCell ⟨B, 1, none⟩ (.int .i64 0)).setCell ⟨C, 1, none⟩ (.int .i64 0)) (fun j hj _ => (heap_setCell_other _ _ _ _ (show j ≠ C by omega)).trans (heap_setCell_other _ _ _ _ (show j ≠ B by omega)))
            obtain ⟨g, cap3, rfl, hg, z0, z1, z2, z3⟩ := hrowZ.one
            replace z1 : _ = some (Value.int .i64 (0 : Int)) := z1
            simp only [strip0] at z0 z2 z3
            rw [HTX.out] at z2
            obtain ⟨⟨y0, y1⟩, y2, y3⟩ := four_at q3
            obtain ⟨⟨p0, p1⟩, p2, p3⟩ := four_at q4
            have g1 := fun W => eql_tk k1 0 tx n1 W
            have HBE := hide (((bseq (below_drewN HBC.out n) hbX).setCell (p := ⟨B, 1, none⟩) HWB.out.1 (.int .i64 0)).setCell (p := ⟨C, 1, none⟩) HWB.out.2 (.int .i64 0))
            clear rB rC q3 q4 hrowZ hrow hbX hlB hlC x0 x1 x2 x3 HLZ hg
            go_wp2_with (fail)
            go_quiet (fail)
            go_wp2_with (fail)
            go_roundw
            case rel => exact ⟨k + 1, by go_num, by omega, below_drewN HBE.out nq⟩
            case measure => simp [intOf]; omega
    · have hge : (ts.length : Int) ≤ (k : Int) := by omega
      have HBW := hide (bseq HBZ.out hB)
      clear hB
      go_wp2_with (go_at_call 11; refine (works_any _ (HL.out.below HBW.out) (HZ.out.below HBW.out)).mono ?_; rintro e q ⟨rfl, hq⟩)
      go_ret
      exact ⟨rfl, bseq HBW.out hq⟩
theorem again_road (s : ByteArray) (w : World) (hL : LaidW w) (hZ : LaidZ w) :
    Calls Tryz.prog 8 #[.string s] w fun e w' => e = .returned (.bool true) ∧ Below w.heap.size w w' := by
  by_cases hs : 16384 < s.size
  · exact again_err s 4 0 w (scan_over s w hs) hL hZ
  · have ks := scan_any s w (by omega) hL
    cases hR : Sc (bl s) 0 [] with
    | inl ts => exact again_ok s ts w (by omega) hR hL hZ
    | inr f =>
      rw [hR] at ks
      exact again_err s f.1 f.2 w ks hL hZ
end Go.Proofs.YtaljllbfedfpoaaGreatDoor
namespace Go.Proofs.YtaljllbfedfpoaaGreatDoor
open Go.RowKit Go.Shelf
set_option linter.unusedVariables false

set_option maxRecDepth 100000 in
set_option maxHeartbeats 4000000 in
theorem rmay_1 (a : Int) (t : ByteArray) (n : Int) (w : World) (hs : t.size ≤ 140737488355328) :
    Calls Tryz.prog 54 #[.agg #[.int .i64 1, .int .i64 a, .string t, .int .i64 n]] w fun e w' => e = .returned (.bool (isRunL (bl t) && !(numK (bl t)).isSome && (n == 0))) ∧ Below w.heap.size w w' := by
  have hsI : (t.size : Int) ≤ 140737488355328 := by omega
  have hB0 : Below w.heap.size w (w.alloc (.cells #[.int .i64 1, .int .i64 a, .string t, .int .i64 n] 28)) := (Below.refl _ _).alloc (Nat.le_refl _) _
  have hc : (w.alloc (.cells #[.int .i64 1, .int .i64 a, .string t, .int .i64 n] 28)).heap[w.heap.size]? = some (.cells #[.int .i64 1, .int .i64 a, .string t, .int .i64 n] 28 (0, 0)) := heap_alloc_new w _
  have hlt0 : w.heap.size < (w.alloc (.cells #[.int .i64 1, .int .i64 a, .string t, .int .i64 n] 28)).heap.size := (Array.getElem?_eq_some_iff.1 hc).1
  have HB0 := hide hB0
  have HC := hide hc
  clear hB0 hc
  go_enter Tryz.func54, Tryz.ntmps54
  go_wp2_with (fail)
  go_loop [3] (fun i => ∃ k : Nat, i = .int .i64 (k : Int) ∧ k ≤ t.size ∧ skp runC (bl t) = k + skp runC ((bl t).drop k)) (fun i => t.size - (intOf i).toNat)
  case atStart => exact ⟨0, rfl, Nat.zero_le _, by simp⟩
  case round =>
    obtain ⟨k, rfl, hk, hsk⟩ := hrel
    by_cases hlt : k < t.size
    · have hltI : (k : Int) < (t.size : Int) := by omega
      have hlb : k < (bl t).length := by rw [bl_len]; exact hlt
      have hby : by' (bl t) k = (t[k]'hlt).toNat := by'_get t k hlt
      have kr := fun W => rrun_any (t[k]'hlt).toNat W (UInt8.toNat_lt _)
      cases hr : runC (by' (bl t) k) with
      | true =>
        have hst := skp_step hlb hr
        rw [hby] at hr
        rw [hr] at kr
        have HST := hide (show skp runC (bl t) = (k + 1) + skp runC ((bl t).drop (k + 1)) by rw [hsk, hst]; omega)
        have KR := hide kr
        clear hst hsk hby hr kr
        go_wp2_with (go_at_call 35; refine (KR.out _).mono ?_; rintro e x ⟨rfl, hx⟩; subst hx)
        go_round
        case rel => exact ⟨k + 1, by go_num, by omega, HST.out⟩
        case measure => simp [intOf]; omega
      | false =>
        have hst := skp_stop hlb hr
        rw [hby] at hr
        rw [hr] at kr
        have hf : isRunL (bl t) = false := by
          unfold isRunL
          rw [hsk, hst, decide_eq_false (show ¬ k + 0 = (bl t).length by rw [bl_len]; omega), Bool.and_false]
        have HF := hide hf
        have KR := hide kr
        clear hst hsk hby hr kr hf
        go_wp2_with (go_at_call 35; refine (KR.out _).mono ?_; rintro e x ⟨rfl, hx⟩; subst hx)
        go_ret
        exact ⟨by rw [HF.out]; rfl, HB0.out⟩
    · have hge : (t.size : Int) ≤ (k : Int) := by omega
      rw [List.drop_eq_nil_of_le (by rw [bl_len]; omega)] at hsk
      have hsk2 : skp runC (bl t) = t.size := by rw [hsk]; simp [skp]; omega
      have hf : isRunL (bl t) = decide ((0 : Int) < (t.size : Int)) := by
        unfold isRunL
        rw [hsk2, decide_eq_true (show t.size = (bl t).length from (bl_len t).symm), Bool.and_true]
        by_cases h0 : 0 < t.size
        · rw [decide_eq_true h0, decide_eq_true (by omega)]
        · rw [decide_eq_false h0, decide_eq_false (by omega)]
      have kn := fun W => rnumber_any t W hs
      obtain ⟨I, hI⟩ : ∃ I, (numK (bl t)).isSome = I := ⟨_, rfl⟩
      rw [hI] at kn
      have HI := hide hI
      clear hI
      have KN := hide kn
      have HF := hide hf
      clear kn hsk hsk2 hf
      have hn2 := fun (x : World) (hbx : Below (w.alloc (.cells #[.int .i64 1, .int .i64 a, .string t, .int .i64 n] 28)).heap.size (w.alloc (.cells #[.int .i64 1, .int .i64 a, .string t, .int .i64 n] 28)) x) => four_at ((hbx.block _ hlt0).trans HC.out)
      have HN2 := hide hn2
      clear hn2
      by_cases h0 : (0 : Int) < (t.size : Int)
      · have hd : decide ((0 : Int) < (t.size : Int)) = true := decide_eq_true h0
        cases I
        all_goals
          go_wp2_with (go_at_call 36; refine (KN.out _).mono ?_; rintro e x ⟨n', rfl, hn', hbx⟩; obtain ⟨⟨q0, q1⟩, q2, q3⟩ := HN2.out x hbx)
          go_ret
          exact ⟨by rw [HF.out, hd, HI.out]; simp, bseq HB0.out hbx⟩
      · have hd : decide ((0 : Int) < (t.size : Int)) = false := decide_eq_false h0
        go_wp2_with (go_at_call 36; refine (KN.out _).mono ?_; rintro e x ⟨n', rfl, hn', hbx⟩; obtain ⟨⟨q0, q1⟩, q2, q3⟩ := HN2.out x hbx)
        go_ret
        exact ⟨by rw [HF.out, hd, HI.out]; simp, bseq HB0.out hbx⟩
set_option maxRecDepth 100000 in
set_option maxHeartbeats 4000000 in
theorem rmay_2 (a : Int) (t : ByteArray) (n : Int) (w : World) : Calls Tryz.prog 54 #[.agg #[.int .i64 2, .int .i64 a, .string t, .int .i64 n]] w fun e w' => e = .returned (.bool (decide (bl t = []) && decide (0 ≤ n))) ∧ Below w.heap.size w w' := by
  have e1 : t.toList.isEmpty = decide (bl t = []) := by
    rw [ByteArray.toList_eq]
    unfold bl
    cases t.data.toList <;> simp
  cases hd : decide (bl t = []) with
  | true =>
    rw [hd] at e1
    go_enter Tryz.func54, Tryz.ntmps54
    go_wp2_with (fail)
    try go_ret
    exact ⟨rfl, by first | exact Below.refl _ _ | exact (Below.refl _ _).alloc (Nat.le_refl _) _⟩
  | false =>
    rw [hd] at e1
    go_enter Tryz.func54, Tryz.ntmps54
    go_wp2_with (fail)
    try go_ret
    exact ⟨rfl, by first | exact Below.refl _ _ | exact (Below.refl _ _).alloc (Nat.le_refl _) _⟩
set_option maxRecDepth 100000 in
set_option maxHeartbeats 4000000 in
theorem rmay_3 (a : Int) (t : ByteArray) (n : Int) (w : World) : Calls Tryz.prog 54 #[.agg #[.int .i64 3, .int .i64 a, .string t, .int .i64 n]] w fun e w' => e = .returned (.bool (n == 0)) ∧ Below w.heap.size w w' := by
  go_enter Tryz.func54, Tryz.ntmps54
  go_wp2_with (fail)
  try go_ret
  exact ⟨rfl, by first | exact Below.refl _ _ | exact (Below.refl _ _).alloc (Nat.le_refl _) _⟩
set_option maxRecDepth 100000 in
set_option maxHeartbeats 4000000 in
theorem rmay_else (k a : Int) (t : ByteArray) (n : Int) (w : World) (h1 : (k == 1) = false) (h2 : (k == 2) = false) (h3 : (k == 3) = false) : Calls Tryz.prog 54 #[.agg #[.int .i64 k, .int .i64 a, .string t, .int .i64 n]] w fun e w' => e = .returned (.bool false) ∧ Below w.heap.size w w' := by
  go_enter Tryz.func54, Tryz.ntmps54
  go_wp2_with (fail)
  try go_ret
  exact ⟨rfl, by first | exact Below.refl _ _ | exact (Below.refl _ _).alloc (Nat.le_refl _) _⟩
theorem rmay_any (k a : Int) (t : ByteArray) (n : Int) (w : World) (hs : t.size ≤ 140737488355328) :
    Calls Tryz.prog 54 #[.agg #[.int .i64 k, .int .i64 a, .string t, .int .i64 n]] w fun e w' => e = .returned (.bool (mayI (k, a, t, n))) ∧ Below w.heap.size w w' := by
  unfold mayI
  simp only
  by_cases h1 : k = 1
  · subst h1; exact rmay_1 a t n w hs
  rw [if_neg h1]
  by_cases h2 : k = 2
  · subst h2; exact rmay_2 a t n w
  rw [if_neg h2]
  by_cases h3 : k = 3
  · subst h3; exact rmay_3 a t n w
  rw [if_neg h3]
  exact rmay_else k a t n w (beq_eq_false_iff_ne.2 h1) (beq_eq_false_iff_ne.2 h2) (beq_eq_false_iff_ne.2 h3)
end Go.Proofs.YtaljllbfedfpoaaGreatDoor
namespace Go.Proofs.YtaljllbfedfpoaaGreatDoor
open Go.RowKit Go.Shelf
set_option linter.unusedVariables false
set_option linter.unusedSimpArgs false

theorem row8_nil (w : World) (base : Nat) : Row8 w base (.slice none 0 0) [] := ⟨rfl, .inl ⟨rfl, rfl⟩⟩
theorem may_kind {x : TkI} (h : mayI x = true) : x.1 = 1 ∨ x.1 = 2 ∨ x.1 = 3 := by
  unfold mayI at h
  by_cases h1 : x.1 = 1
  · exact .inl h1
  · by_cases h2 : x.1 = 2
    · exact .inr (.inl h2)
    · by_cases h3 : x.1 = 3
      · exact .inr (.inr h3)
      · rw [if_neg h1, if_neg h2, if_neg h3] at h; cases h
set_option maxRecDepth 100000 in
set_option maxHeartbeats 16000000 in
theorem rprint_any (a : Option Addr) (cap : Nat) (xs : List TkI) (w : World) (hx : SlK w a xs) (hL : LaidW w) (hZ : LaidZ w) (hl : xs.length ≤ 9223372036854775807) (hJ : (prJ xs).length ≤ 1000000000)
    (hb : ∀ x ∈ xs, x.2.2.1.size ≤ 17592186044416 ∧ -9223372036854775808 ≤ x.2.2.2 ∧ x.2.2.2 ≤ 9223372036854775807) :
    Calls Tryz.prog 24 #[.slice a xs.length cap] w fun e w' => e = .returned (.tuple #[.string ⟨(prV xs).1.toArray⟩, .int .i64 (prV xs).2]) ∧ Below w.heap.size w w' := by
  have HX := hide hx
  have HBD := hide hb
  have HL := hide hL
  have HZ := hide hZ
  obtain ⟨i0, hi, hz0, hz1, hz2⟩ := info_parts Tryz.info8s
  clear hx hb hL hZ
  go_enter Tryz.func24, Tryz.ntmps24
  go_wp2_with (fail)
  go_loopw [4, 5] (fun v i wr => ∃ j : Nat, i = .int .i64 j ∧ j ≤ xs.length ∧ (xs.take j).all mayI = true ∧ Row8 wr w.heap.size v (prJ (xs.take j)) ∧ Below w.heap.size w wr) (fun _ i _ => xs.length - (intOf i).toNat)
  case atStart => exact ⟨0, rfl, Nat.zero_le _, rfl, row8_nil _ _, Below.refl _ _⟩
  case round =>
    obtain ⟨j, rfl, hj, hall, hrow, hB⟩ := hrel
    have HALL := hide hall
    have HB := hide hB
    have HROW := hide hrow
    have hBw := hB.size
    clear hall hB hrow
    by_cases hlt : j < xs.length
    · have hxk : xs[j]? = some xs[j] := List.getElem?_eq_getElem hlt
      have hcl := fun W (h : Below w.heap.size w W) => tok_cells (HX.out.below h) hxk
      obtain ⟨hb1, hb2, hb3⟩ := HBD.out _ (List.getElem_mem hlt)
      have hall2 : (xs.take (j + 1)).all mayI = mayI xs[j] := by
        rw [List.take_succ_eq_append_getElem hlt, List.all_append, HALL.out]
        simp
      have hno : mayI xs[j] = false → prV xs = ([], 70) := by
        intro h
        unfold prV
        rw [if_neg]
        intro h2
        have := List.all_eq_true.1 h2 _ (List.getElem_mem hlt)
        rw [h] at this
        exact absurd this (by decide)
      have hnx := prJ_take hlt
      have hmo : (prJ (xs.take (j + 1))).length ≤ 1000000000 := Nat.le_trans (prJ_mono (xs := xs) (k := j + 1) (by omega)) hJ
      have hkd := @may_kind xs[j]
      generalize xs[j] = x0 at *
      obtain ⟨k', a', t', n'⟩ := x0
      simp only at hb1 hb2 hb3 hcl hkd
      obtain ⟨b0, off, ha, v0, v1, v2', v3⟩ := hcl wr HB.out
      subst ha
      have hcl2 : ∀ W, Below w.heap.size w W → W.cell? ⟨b0, off + j * 4, none⟩ = some (.int .i64 k') ∧ W.cell? ⟨b0, off + j * 4 + 1, none⟩ = some (.int .i64 a') ∧ W.cell? ⟨b0, off + j * 4 + 2, none⟩ = some (.string t') ∧ W.cell? ⟨b0, off + j * 4 + 3, none⟩ = some (.int .i64 n') := by
        intro W h
        obtain ⟨b1, off1, ha1, h1⟩ := hcl W h
        cases ha1
        exact h1
      have HCL := hide hcl2
      have hltI : (j : Int) < (xs.length : Int) := by omega
      have km := fun W => rmay_any k' a' t' n' W (by omega)
      clear hcl hcl2 hxk
      cases hm : mayI (k', a', t', n') with
      | false =>
        rw [hm] at km
        have hv := hno hm
        have KM := hide km
        have HV := hide hv
        clear km hall2 hno hm hv hnx hmo hkd
        go_wp2_with (first | (go_at_call 54; refine (KM.out _).mono ?_; rintro e x ⟨rfl, hbx⟩; have HR1 := hide (HROW.out.below hbx); have HB1 := hide (bseq HB.out hbx); have x1 : w.heap.size ≤ x.heap.size := HB1.out.size; obtain ⟨c0, c1, c2, c3⟩ := HCL.out x (bseq HB.out hbx); clear hbx))
        go_ret2
        exact ⟨by rw [HV.out]; rfl, HB1.out⟩
      | true =>
        rw [hm] at km hall2
        have KM := hide km
        have HALL2 := hide hall2
        have HK := hide (hkd hm)
        generalize hacc : prJ (xs.take j) = acc at *
        have hPT : pT (k', a', t', n') = pT (k', a', t', n') := rfl
        generalize hPP : pT (k', a', t', n') = P at *
        have HPT := hide hPP.symm
        clear km hall2 hno hm hkd hPT hPP hacc
        by_cases hj0 : j = 0
        · rw [if_pos hj0, List.append_nil] at hnx
          have hjI : (j : Int) ≤ 0 := by omega
          clear hj0
          have hw : (List.length (α := UInt8) acc) + P.length ≤ 1000000000 := by
            have h9 := hmo
            rw [hnx] at h9
            simp only [List.length_append, List.length_cons, List.length_nil] at h9 ⊢
            omega
          have hacl : acc.length + 1 ≤ 1000000001 := by
            have h9 := hmo
            rw [hnx] at h9
            simp only [List.length_append, List.length_cons, List.length_nil] at h9
            omega
          have HNX := hide hnx
          have hPs : (⟨P.toArray⟩ : ByteArray).size = P.length := by simp [ByteArray.size]
          clear hnx hmo
          rcases HK.out with hk | hk | hk
          · subst hk
            have hP : P = bl t' := HPT.out
            have HP := hide (show t'.data.toList = P from hP.symm)
            have htz : t'.size = P.length := by rw [hP, bl_len]
            clear hP
            go_wp2_with (first | (go_at_call 54; refine (KM.out _).mono ?_; rintro e x ⟨rfl, hbx⟩; have HR1 := hide (HROW.out.below hbx); have HB1 := hide (bseq HB.out hbx); have x1 : w.heap.size ≤ x.heap.size := HB1.out.size; obtain ⟨c0, c1, c2, c3⟩ := HCL.out x (bseq HB.out hbx); clear hbx) | (at_builtin; refine Lib.wpList_append_own_string _ rfl _ _ 25 9 rfl w.heap.size 5 i0 Tryz.underlying25 Tryz.underlying9 hi hz0 hz1 hz2 u4 (List.length (α := UInt8) acc) (Lib.byteCells acc) rfl HR1.out t' rfl (by simp only [maxLen]; omega) (by omega) (by have := HB1.out.size; omega) ?_; intro v' w4 hown' hgrow' _))
            have hb4 : Below w.heap.size w w4 := HB1.out.grown hgrow' HB1.out.size (fun j e => (HR1.out.lt j e).1)
            have hrow4 : Row8 w4 w.heap.size v' (acc ++ P) := Row8.more HP.out hown'
            go_roundw
            case rel => exact ⟨j + 1, by go_num, by omega, HALL2.out, by rw [HNX.out]; exact hrow4, hb4⟩
            case measure => simp [intOf]; omega
          · subst hk
            have hP : P = Lib.itoa n' := HPT.out
            have ki := fun W h => itoa_any n' hb2 hb3 W h
            rw [← hP] at ki
            have KI := hide ki
            clear ki hP
            go_wp2_with (first | (go_at_call 54; refine (KM.out _).mono ?_; rintro e x ⟨rfl, hbx⟩; have HR1 := hide (HROW.out.below hbx); have HB1 := hide (bseq HB.out hbx); have x1 : w.heap.size ≤ x.heap.size := HB1.out.size; obtain ⟨c0, c1, c2, c3⟩ := HCL.out x (bseq HB.out hbx); clear hbx) | (go_at_call 55; refine (KI.out _ (HL.out.below HB1.out)).mono ?_; rintro e z ⟨rfl, hbz⟩; have HR3 := hide (HR1.out.below hbz); have HB3 := hide (bseq HB1.out hbz); clear hbz) | (at_builtin; refine Lib.wpList_append_own_string _ rfl _ _ 25 9 rfl w.heap.size 5 i0 Tryz.underlying25 Tryz.underlying9 hi hz0 hz1 hz2 u4 (List.length (α := UInt8) acc) (Lib.byteCells acc) rfl HR3.out ⟨P.toArray⟩ rfl (by simp only [maxLen]; omega) (by omega) (by have := HB3.out.size; omega) ?_; intro v' w4 hown' hgrow' _))
            have hb4 : Below w.heap.size w w4 := HB3.out.grown hgrow' HB3.out.size (fun j e => (HR3.out.lt j e).1)
            have hrow4 : Row8 w4 w.heap.size v' (acc ++ P) := Row8.more (by simp) hown'
            go_roundw
            case rel => exact ⟨j + 1, by go_num, by omega, HALL2.out, by rw [HNX.out]; exact hrow4, hb4⟩
            case measure => simp [intOf]; omega
          · subst hk
            have hP : P = 34 :: (qo (bl t') ++ [34]) := HPT.out
            have kq := fun W h => rquote_any t' W (by omega) h
            rw [← hP] at kq
            have KQ := hide kq
            clear kq hP
            go_wp2_with (first | (go_at_call 54; refine (KM.out _).mono ?_; rintro e x ⟨rfl, hbx⟩; have HR1 := hide (HROW.out.below hbx); have HB1 := hide (bseq HB.out hbx); have x1 : w.heap.size ≤ x.heap.size := HB1.out.size; obtain ⟨c0, c1, c2, c3⟩ := HCL.out x (bseq HB.out hbx); clear hbx) | (go_at_call 19; refine (KQ.out _ (HZ.out.below HB1.out)).mono ?_; rintro e z ⟨rfl, hbz⟩; have HR3 := hide (HR1.out.below hbz); have HB3 := hide (bseq HB1.out hbz); clear hbz) | (at_builtin; refine Lib.wpList_append_own_string _ rfl _ _ 25 9 rfl w.heap.size 5 i0 Tryz.underlying25 Tryz.underlying9 hi hz0 hz1 hz2 u4 (List.length (α := UInt8) acc) (Lib.byteCells acc) rfl HR3.out ⟨P.toArray⟩ rfl (by simp only [maxLen]; omega) (by omega) (by have := HB3.out.size; omega) ?_; intro v' w4 hown' hgrow' _))
            have hb4 : Below w.heap.size w w4 := HB3.out.grown hgrow' HB3.out.size (fun j e => (HR3.out.lt j e).1)
            have hrow4 : Row8 w4 w.heap.size v' (acc ++ P) := Row8.more (by simp) hown'
            go_roundw
            case rel => exact ⟨j + 1, by go_num, by omega, HALL2.out, by rw [HNX.out]; exact hrow4, hb4⟩
            case measure => simp [intOf]; omega
        · rw [if_neg hj0] at hnx
          have hjI : (0 : Int) < (j : Int) := by omega
          have hw : (List.length (α := UInt8) (acc ++ [32])) + P.length ≤ 1000000000 := by
            have h9 := hmo
            rw [hnx] at h9
            simp only [List.length_append, List.length_cons, List.length_nil] at h9 ⊢
            omega
          have hacl : acc.length + 1 ≤ 1000000001 := by
            have h9 := hmo
            rw [hnx] at h9
            simp only [List.length_append, List.length_cons, List.length_nil] at h9
            omega
          have HNX := hide hnx
          have hPs : (⟨P.toArray⟩ : ByteArray).size = P.length := by simp [ByteArray.size]
          clear hnx hmo
          rcases HK.out with hk | hk | hk
          · subst hk
            have hP : P = bl t' := HPT.out
            have HP := hide (show t'.data.toList = P from hP.symm)
            have htz : t'.size = P.length := by rw [hP, bl_len]
            clear hP
            go_wp2_with (first | (go_at_call 54; refine (KM.out _).mono ?_; rintro e x ⟨rfl, hbx⟩; have HR1 := hide (HROW.out.below hbx); have HB1 := hide (bseq HB.out hbx); have x1 : w.heap.size ≤ x.heap.size := HB1.out.size; obtain ⟨c0, c1, c2, c3⟩ := HCL.out x (bseq HB.out hbx); clear hbx) | (at_builtin; refine wpList_append_own_at _ rfl _ _ 25 rfl w.heap.size 5 i0 (.int .u8 0) 1 1 Tryz.underlying25 hi hz0 hz1 hz2 rfl (by decide) u4 acc.length (Lib.byteCells acc) rfl (HR1.out.alloc _) ⟨x.heap.size, 0, none⟩ 1 1 [.int .u8 32] rfl rfl (cell1_new _ _ _) (by simp [Value.oneCell']) (by unfold maxLen; omega) (by omega) (by simp; omega) ?_; intro v2 y hown2 hgrow2 _ _; have HR2 := hide (Row8.more1 32 hown2); have hb2 : Below w.heap.size w y := (HB1.out.alloc HB1.out.size _).grown hgrow2 (by simp; omega) (fun j e => (HR1.out.lt j e).1); have HB2 := hide hb2; have y1 : w.heap.size ≤ y.heap.size := hb2.size; obtain ⟨d0, d1, d2, d3⟩ := HCL.out y hb2; clear HR1 hown2 hgrow2 hb2) | (at_builtin; refine Lib.wpList_append_own_string _ rfl _ _ 25 9 rfl w.heap.size 5 i0 Tryz.underlying25 Tryz.underlying9 hi hz0 hz1 hz2 v2 (List.length (α := UInt8) (acc ++ [32])) (Lib.byteCells (acc ++ [32])) rfl HR2.out t' rfl (by simp only [maxLen]; omega) (by omega) (by have := HB2.out.size; omega) ?_; intro v' w4 hown' hgrow' _))
            have hb4 : Below w.heap.size w w4 := HB2.out.grown hgrow' HB2.out.size (fun j e => (HR2.out.lt j e).1)
            have hrow4 : Row8 w4 w.heap.size v' ((acc ++ [32]) ++ P) := Row8.more HP.out hown'
            go_roundw
            case rel => exact ⟨j + 1, by go_num, by omega, HALL2.out, by rw [HNX.out]; exact hrow4, hb4⟩
            case measure => simp [intOf]; omega
          · subst hk
            have hP : P = Lib.itoa n' := HPT.out
            have ki := fun W h => itoa_any n' hb2 hb3 W h
            rw [← hP] at ki
            have KI := hide ki
            clear ki hP
            go_wp2_with (first | (go_at_call 54; refine (KM.out _).mono ?_; rintro e x ⟨rfl, hbx⟩; have HR1 := hide (HROW.out.below hbx); have HB1 := hide (bseq HB.out hbx); have x1 : w.heap.size ≤ x.heap.size := HB1.out.size; obtain ⟨c0, c1, c2, c3⟩ := HCL.out x (bseq HB.out hbx); clear hbx) | (at_builtin; refine wpList_append_own_at _ rfl _ _ 25 rfl w.heap.size 5 i0 (.int .u8 0) 1 1 Tryz.underlying25 hi hz0 hz1 hz2 rfl (by decide) u4 acc.length (Lib.byteCells acc) rfl (HR1.out.alloc _) ⟨x.heap.size, 0, none⟩ 1 1 [.int .u8 32] rfl rfl (cell1_new _ _ _) (by simp [Value.oneCell']) (by unfold maxLen; omega) (by omega) (by simp; omega) ?_; intro v2 y hown2 hgrow2 _ _; have HR2 := hide (Row8.more1 32 hown2); have hb2 : Below w.heap.size w y := (HB1.out.alloc HB1.out.size _).grown hgrow2 (by simp; omega) (fun j e => (HR1.out.lt j e).1); have HB2 := hide hb2; have y1 : w.heap.size ≤ y.heap.size := hb2.size; obtain ⟨d0, d1, d2, d3⟩ := HCL.out y hb2; clear HR1 hown2 hgrow2 hb2) | (go_at_call 55; refine (KI.out _ (HL.out.below HB2.out)).mono ?_; rintro e z ⟨rfl, hbz⟩; have HR3 := hide (HR2.out.below hbz); have HB3 := hide (bseq HB2.out hbz); clear hbz) | (at_builtin; refine Lib.wpList_append_own_string _ rfl _ _ 25 9 rfl w.heap.size 5 i0 Tryz.underlying25 Tryz.underlying9 hi hz0 hz1 hz2 v2 (List.length (α := UInt8) (acc ++ [32])) (Lib.byteCells (acc ++ [32])) rfl HR3.out ⟨P.toArray⟩ rfl (by simp only [maxLen]; omega) (by omega) (by have := HB3.out.size; omega) ?_; intro v' w4 hown' hgrow' _))
            have hb4 : Below w.heap.size w w4 := HB3.out.grown hgrow' HB3.out.size (fun j e => (HR3.out.lt j e).1)
            have hrow4 : Row8 w4 w.heap.size v' ((acc ++ [32]) ++ P) := Row8.more (by simp) hown'
            go_roundw
            case rel => exact ⟨j + 1, by go_num, by omega, HALL2.out, by rw [HNX.out]; exact hrow4, hb4⟩
            case measure => simp [intOf]; omega
          · subst hk
            have hP : P = 34 :: (qo (bl t') ++ [34]) := HPT.out
            have kq := fun W h => rquote_any t' W (by omega) h
            rw [← hP] at kq
            have KQ := hide kq
            clear kq hP
            go_wp2_with (first | (go_at_call 54; refine (KM.out _).mono ?_; rintro e x ⟨rfl, hbx⟩; have HR1 := hide (HROW.out.below hbx); have HB1 := hide (bseq HB.out hbx); have x1 : w.heap.size ≤ x.heap.size := HB1.out.size; obtain ⟨c0, c1, c2, c3⟩ := HCL.out x (bseq HB.out hbx); clear hbx) | (at_builtin; refine wpList_append_own_at _ rfl _ _ 25 rfl w.heap.size 5 i0 (.int .u8 0) 1 1 Tryz.underlying25 hi hz0 hz1 hz2 rfl (by decide) u4 acc.length (Lib.byteCells acc) rfl (HR1.out.alloc _) ⟨x.heap.size, 0, none⟩ 1 1 [.int .u8 32] rfl rfl (cell1_new _ _ _) (by simp [Value.oneCell']) (by unfold maxLen; omega) (by omega) (by simp; omega) ?_; intro v2 y hown2 hgrow2 _ _; have HR2 := hide (Row8.more1 32 hown2); have hb2 : Below w.heap.size w y := (HB1.out.alloc HB1.out.size _).grown hgrow2 (by simp; omega) (fun j e => (HR1.out.lt j e).1); have HB2 := hide hb2; have y1 : w.heap.size ≤ y.heap.size := hb2.size; obtain ⟨d0, d1, d2, d3⟩ := HCL.out y hb2; clear HR1 hown2 hgrow2 hb2) | (go_at_call 19; refine (KQ.out _ (HZ.out.below HB2.out)).mono ?_; rintro e z ⟨rfl, hbz⟩; have HR3 := hide (HR2.out.below hbz); have HB3 := hide (bseq HB2.out hbz); clear hbz) | (at_builtin; refine Lib.wpList_append_own_string _ rfl _ _ 25 9 rfl w.heap.size 5 i0 Tryz.underlying25 Tryz.underlying9 hi hz0 hz1 hz2 v2 (List.length (α := UInt8) (acc ++ [32])) (Lib.byteCells (acc ++ [32])) rfl HR3.out ⟨P.toArray⟩ rfl (by simp only [maxLen]; omega) (by omega) (by have := HB3.out.size; omega) ?_; intro v' w4 hown' hgrow' _))
            have hb4 : Below w.heap.size w w4 := HB3.out.grown hgrow' HB3.out.size (fun j e => (HR3.out.lt j e).1)
            have hrow4 : Row8 w4 w.heap.size v' ((acc ++ [32]) ++ P) := Row8.more (by simp) hown'
            go_roundw
            case rel => exact ⟨j + 1, by go_num, by omega, HALL2.out, by rw [HNX.out]; exact hrow4, hb4⟩
            case measure => simp [intOf]; omega
    · have hge : (xs.length : Int) ≤ (j : Int) := by omega
      have htk : xs.take j = xs := List.take_of_length_le (by omega)
      rw [htk] at HALL HROW
      have hv : prV xs = if 16384 < (prJ xs).length then ([], 4) else (prJ xs, 0) := by unfold prV; rw [if_pos HALL.out]
      have hcv := run_string_own8 _ _ _ _ HROW.out
      have hlen8 : ∃ a8 c8, u4 = .slice a8 (prJ xs).length c8 := by
        rcases HROW.out.2 with ⟨h1, h2⟩ | ⟨g, cp, cur, h1, _⟩
        · exact ⟨none, 0, by rw [h1, h2]⟩
        · exact ⟨_, _, h1⟩
      obtain ⟨a8, c8, hu4⟩ := hlen8
      subst hu4
      generalize prJ xs = J at *
      by_cases hbig : 16384 < J.length
      · have hbigI : (16384 : Int) < (J.length : Int) := by omega
        rw [if_pos hbig] at hv
        have HV := hide hv
        clear hv htk hcv
        go_wp2_with (fail)
        go_ret2
        exact ⟨by rw [HV.out]; rfl, HB.out⟩
      · have hbigI : (J.length : Int) ≤ (16384 : Int) := by omega
        rw [if_neg hbig] at hv
        have HV := hide hv
        clear hv htk
        go_wp2_with (fail)
        go_ret2
        exact ⟨by rw [HV.out]; rfl, HB.out⟩
end Go.Proofs.YtaljllbfedfpoaaGreatDoor
namespace Go.Proofs.YtaljllbfedfpoaaGreatDoor
open Go.RowKit Go.Shelf
set_option linter.unusedVariables false

theorem slk_left {W : World} {a : Option Addr} {xs ys : List TkI} (h : SlK W a (xs ++ ys)) : SlK W a xs := by
  rcases h with h | ⟨b, off, ha, hb, hc⟩
  · exact .inl (List.append_eq_nil_iff.1 h).1
  · refine .inr ⟨b, off, ha, hb, fun i x hx => hc i x ?_⟩
    rw [List.getElem?_append_left (List.getElem?_eq_some_iff.1 hx).1]
    exact hx
set_option maxRecDepth 100000 in
set_option maxHeartbeats 4000000 in
theorem kept_any (g c : Nat) (b : Option Addr) (d : Nat) (xs : List TkI) (w : World) (ha : SlK w (some ⟨g, 0, none⟩) (xs ++ marksI 5)) (hb : SlK w b xs) (hc : xs.length + 5 ≤ c) (hl : xs.length ≤ 1048576) :
    Calls Tryz.prog 25 #[.slice (some ⟨g, 0, none⟩) xs.length c, .slice b xs.length d] w fun e w' => e = .returned (.bool true) ∧ ∃ n, w' = w.drewN n := by
  have HA := hide ha
  have HB := hide hb
  have g0 := Tryz.noGuardTk
  have hlI : (xs.length : Int) ≤ 1048576 := by omega
  have hcI : (xs.length : Int) + 5 ≤ (c : Int) := by omega
  clear ha hb
  go_enter Tryz.func25, Tryz.ntmps25
  go_wp2_with (fail)
  go_loop [6] (fun i => ∃ k : Nat, i = .int .i64 (k : Int) ∧ k ≤ 5) (fun i => 5 - (intOf i).toNat)
  case atStart => exact ⟨0, rfl, Nat.zero_le _⟩
  case round =>
    obtain ⟨k, rfl, hk⟩ := hrel
    by_cases hlt : k < 5
    · have hltI : (k : Int) < 5 := by omega
      have hxk : (xs ++ marksI 5)[xs.length + k]? = some (9, 0, ⟨#[]⟩, (k : Int)) := by
        rw [List.getElem?_append_right (by omega), Nat.add_sub_cancel_left]
        exact marks_at 5 k hlt
      obtain ⟨b0, off, h0, v0, v1, v2, v3⟩ := tok_cells HA.out hxk
      cases h0
      simp only [Nat.zero_add] at v0 v1 v2 v3
      have g1 := fun W => eql_tk 9 0 ⟨#[]⟩ (k : Int) W
      clear hxk
      go_wp2_with (fail)
      go_round
      case rel => exact ⟨k + 1, by go_num, by omega⟩
      case measure => simp [intOf]; omega
    · have hltI : (5 : Int) ≤ (k : Int) := by omega
      have ks := same_toks (some ⟨g, 0, none⟩) b c d xs w (slk_left HA.out) HB.out hl
      have KS := hide ks
      clear ks
      go_wp2_with (go_at_call 15; refine (KS.out).mono ?_; rintro e x ⟨rfl, n, hx⟩; subst hx)
      go_ret
      exact ⟨rfl, n, rfl⟩
theorem flat_len (xs : List TkI) (S : Nat) (hb : ∀ x ∈ xs, (pT x).length ≤ 4 * x.2.2.1.size + 23) (hS : (xs.map (fun x => x.2.2.1.size)).sum ≤ S) : (xs.flatMap (fun y => (32 : UInt8) :: pT y)).length ≤ 4 * S + 24 * xs.length := by
  induction xs generalizing S with
  | nil => simp
  | cons x xs ih =>
    simp only [List.map_cons, List.sum_cons] at hS
    have h1 := hb x List.mem_cons_self
    have h2 := ih (S - x.2.2.1.size) (fun y hy => hb y (List.mem_cons_of_mem _ hy)) (by omega)
    rw [List.flatMap_cons, List.length_append]
    simp only [List.length_cons]
    omega
theorem prJ_len (xs : List TkI) (S : Nat) (hn : ∀ x ∈ xs, -9223372036854775808 ≤ x.2.2.2 ∧ x.2.2.2 ≤ 9223372036854775807) (hS : (xs.map (fun x => x.2.2.1.size)).sum ≤ S) : (prJ xs).length ≤ 4 * S + 24 * xs.length := by
  have hb : ∀ x ∈ xs, (pT x).length ≤ 4 * x.2.2.1.size + 23 := by
    intro x hx
    unfold pT
    split
    · have := Lib.itoa_length_le _ (hn x hx).1 (hn x hx).2
      omega
    · split
      · have := qo_len (bl x.2.2.1)
        rw [bl_len] at this
        simp only [List.length_cons, List.length_append, List.length_nil]
        omega
      · rw [bl_len]; omega
  have h1 := flat_len xs S hb hS
  cases xs with
  | nil => simp [prJ]
  | cons x xs =>
    rw [List.flatMap_cons, List.length_append, List.length_cons] at h1
    simp only [prJ, List.length_append]
    omega
theorem sum_mem {xs : List TkI} {S : Nat} (hS : (xs.map (fun x => x.2.2.1.size)).sum ≤ S) : ∀ x ∈ xs, x.2.2.1.size ≤ S := by
  induction xs generalizing S with
  | nil => intro x hx; simp at hx
  | cons y ys ih =>
    simp only [List.map_cons, List.sum_cons] at hS
    intro x hx
    rcases List.mem_cons.1 hx with h | h
    · subst h; omega
    · exact Nat.le_trans (ih (S := S - y.2.2.1.size) (by omega) x h) (by omega)
set_option maxRecDepth 100000 in
set_option maxHeartbeats 8000000 in
theorem prints_road (a : Option Addr) (cap : Nat) (xs : List TkI) (w : World) (hx : SlK w a xs) (hl : xs.length ≤ 1048576) (hna : a = none → xs.length = 0 ∧ cap = 0) (hS : (xs.map (fun x => x.2.2.1.size)).sum ≤ 1048576)
    (hn : ∀ x ∈ xs, -9223372036854775808 ≤ x.2.2.2 ∧ x.2.2.2 ≤ 9223372036854775807) (hL : LaidW w) (hZ : LaidZ w) :
    Calls Tryz.prog 10 #[.slice a xs.length cap] w fun e w' => e = .returned (.bool true) ∧ Below w.heap.size w w' := by
  have hbd : ∀ x ∈ xs, x.2.2.1.size ≤ 17592186044416 ∧ -9223372036854775808 ≤ x.2.2.2 ∧ x.2.2.2 ≤ 9223372036854775807 := fun x h => ⟨Nat.le_trans (sum_mem hS x h) (by omega), hn x h⟩
  have hJ : (prJ xs).length ≤ 1000000000 := Nat.le_trans (prJ_len xs 1048576 hn hS) (by omega)
  have ks := spare_any a cap xs w hx hl hna
  have kp := fun g c W h hL hZ => print_any (some ⟨g, 0, none⟩) c xs W h hL hZ (by omega) hbd
  have kr := fun W h hL hZ => rprint_any a cap xs W h hL hZ (by omega) hJ hbd
  generalize (⟨(prV xs).1.toArray⟩ : ByteArray) = Q at *
  generalize (prV xs).2 = E at *
  have KS := hide ks
  have KP := hide kp
  have KR := hide kr
  have HX := hide hx
  have HL := hide hL
  have HZ := hide hZ
  clear ks kp kr hx hL hZ hbd hJ hS hn
  go_enter Tryz.func10, Tryz.ntmps10
  go_wp2_with (first | (go_at_call 23; refine (KS.out).mono ?_; rintro e x ⟨g, c, rfl, hc, hsl, hbx⟩; have HSL := hide hsl; have HBX := hide hbx; clear hsl hbx) | (go_at_call 20; refine (KP.out g c _ (slk_left HSL.out) (HL.out.below HBX.out) (HZ.out.below HBX.out)).mono ?_; rintro e y ⟨rfl, hby⟩; have HSL2 := hide (HSL.out.below hby); have HBY := hide (bseq HBX.out hby); clear hby HSL) | (go_at_call 24; refine (KR.out _ (HX.out.below HBY.out) (HL.out.below HBY.out) (HZ.out.below HBY.out)).mono ?_; rintro e z ⟨rfl, hbz⟩; have HSL3 := hide (HSL2.out.below hbz); have HBZ := hide (bseq HBY.out hbz); clear hbz HSL2) | (go_at_call 25; refine (kept_any g c a cap xs _ HSL3.out (HX.out.below HBZ.out) hc hl).mono ?_; rintro e u ⟨rfl, n, hu⟩; have HBU := hide (below_drewN HBZ.out n); rw [← hu] at HBU; clear hu HSL3) | (go_at_call 11; refine (works_any _ (HL.out.below HBU.out) (HZ.out.below HBU.out)).mono ?_; rintro e q ⟨rfl, hq⟩))
  go_ret
  exact ⟨rfl, bseq HBU.out hq⟩
end Go.Proofs.YtaljllbfedfpoaaGreatDoor
