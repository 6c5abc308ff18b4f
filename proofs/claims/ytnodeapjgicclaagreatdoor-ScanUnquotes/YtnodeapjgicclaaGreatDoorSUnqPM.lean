/- ScanUnquotes holds of every text: what the program reads out of it, or its fault and the place, is what the document says. Condition: the six variables of the library are as the program lays them. -/
import Derived.Test.YtnodeapjgicclaaGreatDoorSQtdW
import Derived.Test.YtnodeapjgicclaaGreatDoorProg
import Derived.WalkKit
import Derived.LaidEql
import Derived.Stop.Asserts
import Derived.RowKitTokens
import Derived.LaidLaws
import Derived.LaidHandle
import Derived.Below
import Derived.Test.YtnodeapjgicclaaGreatDoorSWrk
import Derived.Test.YtnodeapjgicclaaGreatDoorSRQtd
import Derived.Test.YtnodeapjgicclaaGreatDoorUFirst
import Derived.ProofKit
import Derived.ChangeOld
import Derived.ChangeMaps5
import Derived.SizedLaws
import Derived.JoinedCond
import Derived.Test.YtnodeapjgicclaaGreatDoorCards
import Derived.Test.YtnodeapjgicclaaGreatDoorTie
import Derived.Test.YtnodeapjgicclaaGreatDoorSFmt
import Derived.Test.YtnodeapjgicclaaGreatDoorSNum
import Derived.OpenShut
import Derived.Deep.DeepHandedRow
import Derived.Deep.DeepWitnessRowRef
import Derived.Lib.LaidTab
import Derived.LaidMore
namespace Go.Proofs.YtnodeapjgicclaaGreatDoor
open Go.RowKit Go.Shelf
set_option linter.unusedVariables false

set_option maxRecDepth 100000 in
set_option maxHeartbeats 4000000 in
theorem unq_ok (s : ByteArray) (w : World) (hs : s.size ≤ 16384) (h0 : isAt s 0 34 = true) (T : List UInt8) (E : Nat) (hQ : Qt ((bl s).drop 1) = (T, E, true)) (hE : 1 + E = s.size) :
    Calls Tryz.prog 10 #[.string s] w fun e w' => e = .returned (.tuple #[.string ⟨T.toArray⟩, .nilIface]) ∧ Below w.heap.size w w' := by
  have hR0 : Rd (w.alloc (.cells #[.string s, .int .i64 0] 44)) w.heap.size s 0 := heap_alloc_new w _
  have hB0 : Below w.heap.size w (w.alloc (.cells #[.string s, .int .i64 0] 44)) := (Below.refl _ _).alloc (Nat.le_refl _) _
  have HR := hide hR0
  have HG := hide (grown_drewN (w.alloc (.cells #[.string s, .int .i64 0] 44)) 0 (some w.heap.size))
  have hs' : s.size ≤ 140737488355328 := by omega
  have h1 : 1 ≤ s.size := by omega
  have kq := fun x (h : Rd x w.heap.size s 1) => quoted_any w.heap.size s 1 x h h1 hs'
  rw [hQ] at kq
  simp only [if_true] at kq
  rw [hE] at kq
  have KQ := hide kq
  have kd := fun x (h : Rd x w.heap.size s s.size) => done_any w.heap.size s s.size x h (Nat.le_refl _)
  rw [decide_eq_true rfl] at kd
  have KD := hide kd
  clear hR0 kq kd hQ
  go_enter Tryz.func10, Tryz.ntmps10
  go_wp2_with (first | (go_at_call 15; refine (takes_yes w.heap.size s 0 34 _ HR.out (Nat.zero_le _) hs' h0).mono ?_; rintro e x ⟨rfl, hRx, hgx⟩; have HRX := hide hRx; have HGX := hide (grown_trans HG.out hgx); clear hRx hgx HR) | (go_at_call 18; refine (KQ.out _ HRX.out).mono ?_; rintro e y ⟨rfl, hRy, hgy⟩; have HRY := hide hRy; have HGY := hide (grown_trans HGX.out hgy); clear hRy hgy HRX) | (go_at_call 14; refine (KD.out _ HRY.out).mono ?_; rintro e z ⟨rfl, nz, hz⟩; subst hz))
  go_ret2
  refine ⟨rfl, ?_⟩
  exact below_drewN (hB0.grown HGY.out hB0.size (fun k e => by cases e; exact Nat.le_refl _)) nz
end Go.Proofs.YtnodeapjgicclaaGreatDoor
namespace Go.Proofs.YtnodeapjgicclaaGreatDoor
open Go.RowKit Go.Shelf
set_option linter.unusedVariables false

set_option maxRecDepth 100000 in
set_option maxHeartbeats 4000000 in
theorem unq_long (s : ByteArray) (w : World) (hs : 16384 < s.size) (h2 : s.size ≤ 140737488355328) :
    Calls Tryz.prog 10 #[.string s] w fun e w' => ∃ k, e = .returned (.tuple #[.string ⟨#[]⟩, .iface 40 (.pointer (some ⟨k, 0, none⟩))]) ∧ w.heap.size ≤ k ∧ w'.heap[k]? = some (.cells #[.int .i64 4, .int .i64 0] 42 (0, 0)) ∧ Below w.heap.size w w' := by
  go_enter Tryz.func10, Tryz.ntmps10
  go_wp2_with (fail)
  go_ret2
  exact ⟨w.heap.size, rfl, Nat.le_refl _, heap_alloc_new w _, (Below.refl _ w).alloc (Nat.le_refl _) _⟩
set_option maxRecDepth 100000 in
set_option maxHeartbeats 4000000 in
theorem unq_no (s : ByteArray) (w : World) (hs : s.size ≤ 16384) (h0 : isAt s 0 34 = false) :
    Calls Tryz.prog 10 #[.string s] w fun e w' => ∃ k, e = .returned (.tuple #[.string ⟨#[]⟩, .iface 40 (.pointer (some ⟨k, 0, none⟩))]) ∧ w.heap.size ≤ k ∧ w'.heap[k]? = some (.cells #[.int .i64 71, .int .i64 0] 42 (0, 0)) ∧ Below w.heap.size w w' := by
  have hR0 : Rd (w.alloc (.cells #[.string s, .int .i64 0] 44)) w.heap.size s 0 := heap_alloc_new w _
  have hB0 : Below w.heap.size w (w.alloc (.cells #[.string s, .int .i64 0] 44)) := (Below.refl _ _).alloc (Nat.le_refl _) _
  have HR := hide hR0
  have HG := hide (grown_drewN (w.alloc (.cells #[.string s, .int .i64 0] 44)) 0 (some w.heap.size))
  have hs' : s.size ≤ 140737488355328 := by omega
  clear hR0
  go_enter Tryz.func10, Tryz.ntmps10
  go_wp2_with (first | (go_at_call 15; refine (takes_no w.heap.size s 0 34 _ HR.out (Nat.zero_le _) hs' h0).mono ?_; rintro e x ⟨rfl, hRx, hgx⟩; have HGX := hide (grown_trans HG.out hgx); have x1 := hRx.at; clear hRx hgx HR))
  replace x1 : x.cell? ⟨w.heap.size, 1, none⟩ = some (.int .i64 0) := x1
  refine Go.wp_mono (Q := noPanS _) ?_ noPanS_le
  refine wp_region_held_drew (S := fun W => W.cell? ⟨w.heap.size, 1, none⟩ = some (.int .i64 0)) (by kernel_rfl) x1 (fun hS => ?_)
  refine wpAnyH_take (i := 0) (v := .pointer (some ⟨w.heap.size, 1, none⟩)) rfl (by kernel_rfl) (by kernel_rfl) (by kernel_rfl) (fun _ _ _ h => h) (Or.inl ⟨by kernel_rfl, fun w' hw => by go_simp⟩) hS ?_
  refine wpAnyH_take (i := 1) (v := .int .i64 0) rfl (by kernel_rfl) (by kernel_rfl) (by kernel_rfl) (fun _ _ _ h => h) (Or.inl ⟨by kernel_rfl, fun w' hw => by go_simp⟩) hS ?_
  refine wpAnyH_take (i := 2) (v := .agg #[.int .i64 71, .int .i64 0]) rfl (by kernel_rfl) (by kernel_rfl) (by kernel_rfl) (fun _ _ _ h => h) (Or.inl ⟨by kernel_rfl, fun w' hw => by go_simp⟩) hS ?_
  refine wpAnyH_take (i := 5) (v := .string ⟨#[]⟩) rfl (by kernel_rfl) (by kernel_rfl) (by kernel_rfl) (fun _ _ _ h => h) (Or.inl ⟨by kernel_rfl, fun w' hw => by go_simp⟩) hS ?_
  refine wpAnyH_ready (rs := [3]) (by kernel_rfl) (by simp) ?_
  refine AllReadyH.cons rfl (fun K hK => ?_) AllReadyH.nil
  rw [if_pos (by kernel_rfl)]
  go_simp
  have hBA : Below x.heap.size x (x.alloc (.cells #[.int .i64 71, .int .i64 0] 42)).drew := ((Below.refl _ x).alloc (Nat.le_refl _) _).drew
  have hS2 : (x.alloc (.cells #[.int .i64 71, .int .i64 0] 42)).drew.cell? ⟨w.heap.size, 1, none⟩ = some (.int .i64 0) := (hBA.cell (World.block_lt_of_cell? _ _ x1)).trans x1
  have hN : (x.alloc (.cells #[.int .i64 71, .int .i64 0] 42)).drew.heap[x.heap.size]? = some (.cells #[.int .i64 71, .int .i64 0] 42 (0, 0)) := heap_alloc_new x _
  refine hK.out _ _ hS2 (fun _ => ?_)
  clear hK K
  generalize (x.alloc (.cells #[.int .i64 71, .int .i64 0] 42)).drew = Y at *
  refine wpAnyH_take (i := 4) (v := .iface 40 (.pointer (some ⟨x.heap.size, 0, none⟩))) rfl (by kernel_rfl) (by kernel_rfl) (by kernel_rfl) (fun _ _ _ h => h) (Or.inl ⟨by kernel_rfl, fun w' hw => by go_simp⟩) hS2 ?_
  refine wpAnyH_take (i := 6) (v := .iface 40 (.pointer (some ⟨x.heap.size, 0, none⟩))) rfl (by kernel_rfl) (by kernel_rfl) (by kernel_rfl) (fun _ _ _ h => h) (Or.inl ⟨by kernel_rfl, fun w' hw => by go_simp⟩) hS2 ?_
  refine wpAnyH_done (by kernel_rfl) (noPanS_normal ?_) _
  try simp only [Act.put, List.getElem_toArray, List.getElem_cons_zero, List.getElem_cons_succ, List.setIfInBounds_toArray, List.set_cons_zero, List.set_cons_succ]
  go_wp2_with (fail)
  go_ret2
  refine ⟨x.heap.size, rfl, ?_, hN, ?_⟩
  · exact Nat.le_trans hB0.size HGX.out.size
  · exact bseq (hB0.grown HGX.out hB0.size (fun k e => by cases e; exact Nat.le_refl _)) hBA
set_option maxRecDepth 100000 in
set_option maxHeartbeats 4000000 in
theorem unq_bad (s : ByteArray) (w : World) (hs : s.size ≤ 16384) (h0 : isAt s 0 34 = true) (T : List UInt8) (E P : Nat) (hQ : Qt ((bl s).drop 1) = (T, E, false)) (hE : 1 + E = P) :
    Calls Tryz.prog 10 #[.string s] w fun e w' => ∃ k, e = .returned (.tuple #[.string ⟨#[]⟩, .iface 40 (.pointer (some ⟨k, 0, none⟩))]) ∧ w.heap.size ≤ k ∧ w'.heap[k]? = some (.cells #[.int .i64 71, .int .i64 (P : Int)] 42 (0, 0)) ∧ Below w.heap.size w w' := by
  have hR0 : Rd (w.alloc (.cells #[.string s, .int .i64 0] 44)) w.heap.size s 0 := heap_alloc_new w _
  have hB0 : Below w.heap.size w (w.alloc (.cells #[.string s, .int .i64 0] 44)) := (Below.refl _ _).alloc (Nat.le_refl _) _
  have HR := hide hR0
  have HG := hide (grown_drewN (w.alloc (.cells #[.string s, .int .i64 0] 44)) 0 (some w.heap.size))
  have hs' : s.size ≤ 140737488355328 := by omega
  clear hR0
  have h1 : 1 ≤ s.size := by unfold isAt at h0; simp at h0; omega
  have kq := fun x (h : Rd x w.heap.size s 1) => quoted_any w.heap.size s 1 x h h1 hs'
  rw [hQ] at kq
  simp only at kq
  rw [hE] at kq
  simp only [Bool.false_eq_true, if_false] at kq
  have KQ := hide kq
  clear kq hQ
  go_enter Tryz.func10, Tryz.ntmps10
  go_wp2_with (first | (go_at_call 15; refine (takes_yes w.heap.size s 0 34 _ HR.out (Nat.zero_le _) hs' h0).mono ?_; rintro e x ⟨rfl, hRx, hgx⟩; have HRX := hide hRx; have HGX := hide (grown_trans HG.out hgx); clear hRx hgx HR) | (go_at_call 18; refine (KQ.out _ HRX.out).mono ?_; rintro e y ⟨rfl, hRy, hgy⟩; have HRY := hide hRy; have HGY := hide (grown_trans HGX.out hgy); have x1 := hRy.at; clear hRy hgy HRX))
  refine Go.wp_mono (Q := noPanS _) ?_ noPanS_le
  refine wp_region_held_drew (S := fun W => W.cell? ⟨w.heap.size, 1, none⟩ = some (.int .i64 (P : Int))) (by kernel_rfl) x1 (fun hS => ?_)
  refine wpAnyH_take (i := 0) (v := .pointer (some ⟨w.heap.size, 1, none⟩)) rfl (by kernel_rfl) (by kernel_rfl) (by kernel_rfl) (fun _ _ _ h => h) (Or.inl ⟨by kernel_rfl, fun w' hw => by go_simp⟩) hS ?_
  refine wpAnyH_take (i := 1) (v := .int .i64 (P : Int)) rfl (by kernel_rfl) (by kernel_rfl) (by kernel_rfl) (fun _ _ _ h => h) (Or.inl ⟨by kernel_rfl, fun w' hw => by go_simp⟩) hS ?_
  refine wpAnyH_take (i := 2) (v := .agg #[.int .i64 71, .int .i64 (P : Int)]) rfl (by kernel_rfl) (by kernel_rfl) (by kernel_rfl) (fun _ _ _ h => h) (Or.inl ⟨by kernel_rfl, fun w' hw => by go_simp⟩) hS ?_
  refine wpAnyH_take (i := 5) (v := .string ⟨#[]⟩) rfl (by kernel_rfl) (by kernel_rfl) (by kernel_rfl) (fun _ _ _ h => h) (Or.inl ⟨by kernel_rfl, fun w' hw => by go_simp⟩) hS ?_
  refine wpAnyH_ready (rs := [3]) (by kernel_rfl) (by simp) ?_
  refine AllReadyH.cons rfl (fun K hK => ?_) AllReadyH.nil
  rw [if_pos (by kernel_rfl)]
  go_simp
  have hBA : Below y.heap.size y (y.alloc (.cells #[.int .i64 71, .int .i64 (P : Int)] 42)).drew := ((Below.refl _ y).alloc (Nat.le_refl _) _).drew
  have hS2 : (y.alloc (.cells #[.int .i64 71, .int .i64 (P : Int)] 42)).drew.cell? ⟨w.heap.size, 1, none⟩ = some (.int .i64 (P : Int)) := (hBA.cell (World.block_lt_of_cell? _ _ x1)).trans x1
  have hN : (y.alloc (.cells #[.int .i64 71, .int .i64 (P : Int)] 42)).drew.heap[y.heap.size]? = some (.cells #[.int .i64 71, .int .i64 (P : Int)] 42 (0, 0)) := heap_alloc_new y _
  refine hK.out _ _ hS2 (fun _ => ?_)
  clear hK K
  generalize (y.alloc (.cells #[.int .i64 71, .int .i64 (P : Int)] 42)).drew = Y at *
  refine wpAnyH_take (i := 4) (v := .iface 40 (.pointer (some ⟨y.heap.size, 0, none⟩))) rfl (by kernel_rfl) (by kernel_rfl) (by kernel_rfl) (fun _ _ _ h => h) (Or.inl ⟨by kernel_rfl, fun w' hw => by go_simp⟩) hS2 ?_
  refine wpAnyH_take (i := 6) (v := .iface 40 (.pointer (some ⟨y.heap.size, 0, none⟩))) rfl (by kernel_rfl) (by kernel_rfl) (by kernel_rfl) (fun _ _ _ h => h) (Or.inl ⟨by kernel_rfl, fun w' hw => by go_simp⟩) hS2 ?_
  refine wpAnyH_done (by kernel_rfl) (noPanS_normal ?_) _
  try simp only [Act.put, List.getElem_toArray, List.getElem_cons_zero, List.getElem_cons_succ, List.setIfInBounds_toArray, List.set_cons_zero, List.set_cons_succ]
  go_wp2_with (fail)
  go_ret2
  refine ⟨y.heap.size, rfl, ?_, hN, ?_⟩
  · exact Nat.le_trans hB0.size HGY.out.size
  · exact bseq (hB0.grown HGY.out hB0.size (fun k e => by cases e; exact Nat.le_refl _)) hBA
set_option maxRecDepth 100000 in
set_option maxHeartbeats 4000000 in
theorem unq_more (s : ByteArray) (w : World) (hs : s.size ≤ 16384) (h0 : isAt s 0 34 = true) (T : List UInt8) (E P : Nat) (hQ : Qt ((bl s).drop 1) = (T, E, true)) (hE : 1 + E = P) (hP : P < s.size) :
    Calls Tryz.prog 10 #[.string s] w fun e w' => ∃ k, e = .returned (.tuple #[.string ⟨#[]⟩, .iface 40 (.pointer (some ⟨k, 0, none⟩))]) ∧ w.heap.size ≤ k ∧ w'.heap[k]? = some (.cells #[.int .i64 71, .int .i64 (P : Int)] 42 (0, 0)) ∧ Below w.heap.size w w' := by
  have hR0 : Rd (w.alloc (.cells #[.string s, .int .i64 0] 44)) w.heap.size s 0 := heap_alloc_new w _
  have hB0 : Below w.heap.size w (w.alloc (.cells #[.string s, .int .i64 0] 44)) := (Below.refl _ _).alloc (Nat.le_refl _) _
  have HR := hide hR0
  have HG := hide (grown_drewN (w.alloc (.cells #[.string s, .int .i64 0] 44)) 0 (some w.heap.size))
  have hs' : s.size ≤ 140737488355328 := by omega
  clear hR0
  have h1 : 1 ≤ s.size := by unfold isAt at h0; simp at h0; omega
  have kq := fun x (h : Rd x w.heap.size s 1) => quoted_any w.heap.size s 1 x h h1 hs'
  rw [hQ] at kq
  simp only at kq
  rw [hE] at kq
  simp only [if_true] at kq
  have KQ := hide kq
  have kd := fun x (h : Rd x w.heap.size s P) => done_any w.heap.size s P x h (by omega)
  rw [decide_eq_false (by omega)] at kd
  have KD := hide kd
  clear kq kd hQ
  go_enter Tryz.func10, Tryz.ntmps10
  go_wp2_with (first | (go_at_call 15; refine (takes_yes w.heap.size s 0 34 _ HR.out (Nat.zero_le _) hs' h0).mono ?_; rintro e x ⟨rfl, hRx, hgx⟩; have HRX := hide hRx; have HGX := hide (grown_trans HG.out hgx); clear hRx hgx HR) | (go_at_call 18; refine (KQ.out _ HRX.out).mono ?_; rintro e y ⟨rfl, hRy, hgy⟩; have HRY := hide hRy; have HGY := hide (grown_trans HGX.out hgy); have x1 := hRy.at; clear hRy hgy HRX) | (go_at_call 14; refine (KD.out _ HRY.out).mono ?_; rintro e z ⟨rfl, nz, hz⟩; have HGZ := hide (grown_trans HGY.out (grown_drewN _ nz _)); rw [← hz] at HGZ; have x2 : World.cell? z ⟨w.heap.size, 1, none⟩ = some (.int .i64 (P : Int)) := (congrArg (fun W => World.cell? W ⟨w.heap.size, 1, none⟩) hz).trans x1; clear hz HRY x1))
  have x1 := x2
  refine Go.wp_mono (Q := noPanS _) ?_ noPanS_le
  refine wp_region_held_drew (S := fun W => W.cell? ⟨w.heap.size, 1, none⟩ = some (.int .i64 (P : Int))) (by kernel_rfl) x1 (fun hS => ?_)
  refine wpAnyH_take (i := 0) (v := .pointer (some ⟨w.heap.size, 1, none⟩)) rfl (by kernel_rfl) (by kernel_rfl) (by kernel_rfl) (fun _ _ _ h => h) (Or.inl ⟨by kernel_rfl, fun w' hw => by go_simp⟩) hS ?_
  refine wpAnyH_take (i := 1) (v := .int .i64 (P : Int)) rfl (by kernel_rfl) (by kernel_rfl) (by kernel_rfl) (fun _ _ _ h => h) (Or.inl ⟨by kernel_rfl, fun w' hw => by go_simp⟩) hS ?_
  refine wpAnyH_take (i := 2) (v := .agg #[.int .i64 71, .int .i64 (P : Int)]) rfl (by kernel_rfl) (by kernel_rfl) (by kernel_rfl) (fun _ _ _ h => h) (Or.inl ⟨by kernel_rfl, fun w' hw => by go_simp⟩) hS ?_
  refine wpAnyH_take (i := 5) (v := .string ⟨#[]⟩) rfl (by kernel_rfl) (by kernel_rfl) (by kernel_rfl) (fun _ _ _ h => h) (Or.inl ⟨by kernel_rfl, fun w' hw => by go_simp⟩) hS ?_
  refine wpAnyH_ready (rs := [3]) (by kernel_rfl) (by simp) ?_
  refine AllReadyH.cons rfl (fun K hK => ?_) AllReadyH.nil
  rw [if_pos (by kernel_rfl)]
  go_simp
  have hBA : Below z.heap.size z (z.alloc (.cells #[.int .i64 71, .int .i64 (P : Int)] 42)).drew := ((Below.refl _ z).alloc (Nat.le_refl _) _).drew
  have hS2 : (z.alloc (.cells #[.int .i64 71, .int .i64 (P : Int)] 42)).drew.cell? ⟨w.heap.size, 1, none⟩ = some (.int .i64 (P : Int)) := (hBA.cell (World.block_lt_of_cell? _ _ x1)).trans x1
  have hN : (z.alloc (.cells #[.int .i64 71, .int .i64 (P : Int)] 42)).drew.heap[z.heap.size]? = some (.cells #[.int .i64 71, .int .i64 (P : Int)] 42 (0, 0)) := heap_alloc_new z _
  refine hK.out _ _ hS2 (fun _ => ?_)
  clear hK K
  generalize (z.alloc (.cells #[.int .i64 71, .int .i64 (P : Int)] 42)).drew = Y at *
  refine wpAnyH_take (i := 4) (v := .iface 40 (.pointer (some ⟨z.heap.size, 0, none⟩))) rfl (by kernel_rfl) (by kernel_rfl) (by kernel_rfl) (fun _ _ _ h => h) (Or.inl ⟨by kernel_rfl, fun w' hw => by go_simp⟩) hS2 ?_
  refine wpAnyH_take (i := 6) (v := .iface 40 (.pointer (some ⟨z.heap.size, 0, none⟩))) rfl (by kernel_rfl) (by kernel_rfl) (by kernel_rfl) (fun _ _ _ h => h) (Or.inl ⟨by kernel_rfl, fun w' hw => by go_simp⟩) hS2 ?_
  refine wpAnyH_done (by kernel_rfl) (noPanS_normal ?_) _
  try simp only [Act.put, List.getElem_toArray, List.getElem_cons_zero, List.getElem_cons_succ, List.setIfInBounds_toArray, List.set_cons_zero, List.set_cons_succ]
  go_wp2_with (fail)
  go_ret2
  refine ⟨z.heap.size, rfl, ?_, hN, ?_⟩
  · exact Nat.le_trans hB0.size HGZ.out.size
  · exact bseq (hB0.grown HGZ.out hB0.size (fun k e => by cases e; exact Nat.le_refl _)) hBA
end Go.Proofs.YtnodeapjgicclaaGreatDoor
namespace Go.Proofs.YtnodeapjgicclaaGreatDoor
open Go.RowKit Go.Extern.Stop Go.Stop Go.Extern
set_option linter.unusedVariables false

theorem As.valueOfPP (t : Addr) (w : World) : (ReflectliteValue.unpack (.iface 55 (.pointer (some t)))).run Tryz.prog w
    = .ok (.agg #[.pointer (some ⟨7, 55, none⟩), .pointer (some ⟨w.heap.size, 0, none⟩), .int .u64 150]) (w.alloc (.cells #[.pointer (some t)] 55)) := by kernel_rfl
theorem As.typePP (a : Addr) (w : World) : (ReflectliteValue.methodAny (ReflectliteValue.valueError "reflectlite.Value.Type" 0) (fun t _ _ _ => ReflectliteType.toType t) #[.agg #[.pointer (some ⟨7, 55, none⟩), .pointer (some a), .int .u64 150]]).run Tryz.prog w
    = .ok (.iface 95 (.agg #[.pointer (some ⟨7, 55, none⟩)])) w := by kernel_rfl
theorem As.mKind (h : Value) (w : World) : (Go.method 274 95 (.agg #[h]) "Kind").run Tryz.prog w = .ok (104, h) w := by kernel_rfl
theorem As.mElem (h : Value) (w : World) : (Go.method 274 95 (.agg #[h]) "Elem").run Tryz.prog w = .ok (117, .agg #[h]) w := by kernel_rfl
theorem As.mImpl (h : Value) (w : World) : (Go.method 274 95 (.agg #[h]) "Implements").run Tryz.prog w = .ok (118, .agg #[h]) w := by kernel_rfl
theorem As.mAsgn (h : Value) (w : World) : (Go.method 274 95 (.agg #[h]) "AssignableTo").run Tryz.prog w = .ok (115, .agg #[h]) w := by kernel_rfl
theorem As.kindPP (w : World) : ((ReflectliteType.abiMethod fun t => (fun a : Nat => Value.int IntKind.u8 (a : Int)) <$> Rtype.kind t) #[.pointer (some ⟨7, 55, none⟩)]).run Tryz.prog w = .ok (.int .u8 22) w := by kernel_rfl
theorem As.kindP (w : World) : ((ReflectliteType.abiMethod fun t => (fun a : Nat => Value.int IntKind.u8 (a : Int)) <$> Rtype.kind t) #[.pointer (some ⟨7, 40, none⟩)]).run Tryz.prog w = .ok (.int .u8 22) w := by kernel_rfl
theorem As.elemPP (w : World) : (ReflectliteType.method ReflectliteType.elem #[.agg #[.pointer (some ⟨7, 55, none⟩)]]).run Tryz.prog w = .ok (.iface 95 (.agg #[.pointer (some ⟨7, 40, none⟩)])) w := by kernel_rfl
theorem As.implP (w : World) : (ReflectliteType.relation "Implements" ReflectliteType.implements_ #[.agg #[.pointer (some ⟨7, 40, none⟩)], .iface 95 (.agg #[.pointer (some ⟨7, 24, none⟩)])]).run Tryz.prog w = .ok (.bool true) w := by kernel_rfl
theorem As.typeOfP (v : Value) (w : World) : (ReflectliteType.typeOf #[.iface 40 v]).run Tryz.prog w = .ok (.iface 95 (.agg #[.pointer (some ⟨7, 40, none⟩)])) w := by kernel_rfl
theorem As.asgnP (w : World) : (ReflectliteType.relation "AssignableTo" ReflectliteType.assignableTo #[.agg #[.pointer (some ⟨7, 40, none⟩)], .iface 95 (.agg #[.pointer (some ⟨7, 40, none⟩)])]).run Tryz.prog w = .ok (.bool true) w := by kernel_rfl
theorem As.valueOfP (e : Addr) (w : World) : (ReflectliteValue.unpack (.iface 40 (.pointer (some e)))).run Tryz.prog w
    = .ok (.agg #[.pointer (some ⟨7, 40, none⟩), .pointer (some ⟨w.heap.size, 0, none⟩), .int .u64 150]) (w.alloc (.cells #[.pointer (some e)] 40)) := by kernel_rfl
theorem As.partsPP (a : Addr) (w : World) : (ReflectliteValue.parts (.agg #[.pointer (some ⟨7, 55, none⟩), .pointer (some a), .int .u64 150])).run Tryz.prog w = .ok (some (55, a, 150)) w := by kernel_rfl
theorem As.partsPa (a : Addr) (w : World) : (ReflectliteValue.parts (.agg #[.pointer (some ⟨7, 40, none⟩), .pointer (some a), .int .u64 406])).run Tryz.prog w = .ok (some (40, a, 406)) w := by kernel_rfl
theorem As.partsP (a : Addr) (w : World) : (ReflectliteValue.parts (.agg #[.pointer (some ⟨7, 40, none⟩), .pointer (some a), .int .u64 150])).run Tryz.prog w = .ok (some (40, a, 150)) w := by kernel_rfl
theorem As.elemOfPP (w : World) : (Rtype.elem? 55).run Tryz.prog w = .ok (some 40) w := by kernel_rfl
theorem As.mkP (p : Addr) (w : World) : (ReflectliteValue.mk 40 p ReflectliteValue.flagAddr).run Tryz.prog w = .ok (.agg #[.pointer (some ⟨7, 40, none⟩), .pointer (some p), .int .u64 406]) w := by kernel_rfl
theorem As.directP (w : World) : (Rtype.directlyAssignable 40 40).run Tryz.prog w = .ok true w := by kernel_rfl
theorem As.via (z : Sem Value) (f : TypeId → Addr → Nat → Nat → Sem Value) (v : Value) : ReflectliteValue.method z f #[v] = (do match ← ReflectliteValue.parts v with | none => z | some (t, a, fl) => f t a fl (fl % 32)) := rfl
theorem As.isNilPP (a p : Addr) (W : World) (ha : W.cell? a = some (.pointer (some p))) :
    (ReflectliteValue.method (ReflectliteValue.valueError "reflectlite.Value.IsNil" 0) ReflectliteValue.isNil #[.agg #[.pointer (some ⟨7, 55, none⟩), .pointer (some a), .int .u64 150]]).run Tryz.prog W = .ok (.bool false) W := by
  rw [As.via]
  simp only [Sem.run_bind, As.partsPP, Result.andThen]
  simp [ReflectliteValue.isNil, loadVar, isAgg, underlying, Tryz.underlying55, ha, Result.andThen]
theorem As.elemVPP (a p : Addr) (W : World) (ha : W.cell? a = some (.pointer (some p))) :
    (ReflectliteValue.method (ReflectliteValue.valueError "reflectlite.Value.Elem" 0) ReflectliteValue.elem #[.agg #[.pointer (some ⟨7, 55, none⟩), .pointer (some a), .int .u64 150]]).run Tryz.prog W
      = .ok (.agg #[.pointer (some ⟨7, 40, none⟩), .pointer (some p), .int .u64 406]) W := by
  rw [As.via]
  simp only [Sem.run_bind, As.partsPP, Result.andThen]
  simp [ReflectliteValue.elem, loadVar, isAgg, underlying, Tryz.underlying55, ha, Result.andThen, As.elemOfPP, As.mkP]
theorem As.setP (ta b e : Addr) (old : Value) (W : World) (hb : W.cell? b = some (.pointer (some e))) (ht : W.cell? ta = some old) (hf : W.frozen? ta = false) :
    (ReflectliteValue.set #[.agg #[.pointer (some ⟨7, 40, none⟩), .pointer (some ta), .int .u64 406], .agg #[.pointer (some ⟨7, 40, none⟩), .pointer (some b), .int .u64 150]]).run Tryz.prog W
      = .ok (.tuple #[]) (W.setCell ta (.pointer (some e))) := by
  suffices h : ∃ k : Option (TypeId × Addr × Nat) → Option (TypeId × Addr × Nat) → Sem Value, (∀ v x, ReflectliteValue.set #[v, x] = (do let p ← ReflectliteValue.parts v; let q ← ReflectliteValue.parts x; k p q)) ∧ (k (some (40, ta, 406)) (some (40, b, 150))).run Tryz.prog W = .ok (.tuple #[]) (W.setCell ta (.pointer (some e))) by
    obtain ⟨k, h1, h2⟩ := h
    rw [h1]
    simp only [Sem.run_bind, As.partsPa, As.partsP, Result.andThen]
    exact h2
  refine ⟨_, fun v x => rfl, ?_⟩
  simp [ReflectliteValue.flagAddr, loadVar, isAgg, underlying, Tryz.underlying40, hb, Result.andThen, As.directP, storeVar, Value.cells, storeCells, Addr.add]
  rw [run_store Tryz.prog W ta _ _ (by rfl)]
  simp [ht, hf]
/-- What the handle of 'error' is in a world. -/
def LaidE (w : World) : Prop := w.cell? ⟨0, 0, none⟩ = some (.iface 95 (.agg #[.pointer (some ⟨7, 24, none⟩)]))
end Go.Proofs.YtnodeapjgicclaaGreatDoor
namespace Go.Proofs.YtnodeapjgicclaaGreatDoor
open Go.RowKit Go.Extern.Stop Go.Stop Go.Extern
set_option linter.unusedVariables false

theorem cell_old {W W' : World} {p : Addr} {v : Value} (h : W.cell? p = some v) (hB : Below W.heap.size W W') : W'.cell? p = some v := (hB.cell (World.block_lt_of_cell? _ _ h)).trans h
theorem LaidE.below {W W' : World} (h : LaidE W) (hB : Below W.heap.size W W') : LaidE W' := cell_old h hB
set_option maxRecDepth 100000 in
set_option maxHeartbeats 4000000 in
/-- errors.As of a fault, at a variable for one. -/
theorem as_hit (e t : Addr) (old : Value) (w : World) (hg : LaidE w) (ht0 : w.cell? t = some old) (hf0 : w.frozen? t = false) :
    Calls Tryz.prog 23 #[.iface 40 (.pointer (some e)), .iface 55 (.pointer (some t))] w fun ev w' => ev = .returned (.bool true) ∧ ∃ W4, Below w.heap.size w W4 ∧ w' = W4.setCell t (.pointer (some e)) := by
  have x1 := @run_callFunc_extern Tryz.prog 35 _ (fun args => ReflectliteValue.unpack (args.getD 0 (.tuple #[]))) Tryz.func35 (by kernel_rfl) (by kernel_rfl) (by kernel_rfl) (by kernel_rfl)
  have x2 := @run_callFunc_extern Tryz.prog 36 _ (ReflectliteValue.methodAny (ReflectliteValue.valueError "reflectlite.Value.Type" 0) (fun t _ _ _ => ReflectliteType.toType t)) Tryz.func36 (by kernel_rfl) (by kernel_rfl) (by kernel_rfl) (by kernel_rfl)
  have x3 := @run_callFunc_extern Tryz.prog 37 _ (ReflectliteValue.method (ReflectliteValue.valueError "reflectlite.Value.IsNil" 0) ReflectliteValue.isNil) Tryz.func37 (by kernel_rfl) (by kernel_rfl) (by kernel_rfl) (by kernel_rfl)
  have x4 := @run_callFunc_extern Tryz.prog 104 _ (ReflectliteType.abiMethod fun t => do pure (.int .u8 (← Rtype.kind t))) Tryz.func104 (by kernel_rfl) (by kernel_rfl) (by kernel_rfl) (by kernel_rfl)
  have x5 := @run_callFunc_extern Tryz.prog 117 _ (ReflectliteType.method ReflectliteType.elem) Tryz.func117 (by kernel_rfl) (by kernel_rfl) (by kernel_rfl) (by kernel_rfl)
  have x6 := @run_callFunc_extern Tryz.prog 118 _ (ReflectliteType.relation "Implements" ReflectliteType.implements_) Tryz.func118 (by kernel_rfl) (by kernel_rfl) (by kernel_rfl) (by kernel_rfl)
  have x7 := @run_callFunc_extern Tryz.prog 52 _ ReflectliteType.typeOf Tryz.func52 (by kernel_rfl) (by kernel_rfl) (by kernel_rfl) (by kernel_rfl)
  have x8 := @run_callFunc_extern Tryz.prog 115 _ (ReflectliteType.relation "AssignableTo" ReflectliteType.assignableTo) Tryz.func115 (by kernel_rfl) (by kernel_rfl) (by kernel_rfl) (by kernel_rfl)
  have x9 := @run_callFunc_extern Tryz.prog 53 _ (ReflectliteValue.method (ReflectliteValue.valueError "reflectlite.Value.Elem" 0) ReflectliteValue.elem) Tryz.func53 (by kernel_rfl) (by kernel_rfl) (by kernel_rfl) (by kernel_rfl)
  have x10 := @run_callFunc_extern Tryz.prog 54 _ ReflectliteValue.set Tryz.func54 (by kernel_rfl) (by kernel_rfl) (by kernel_rfl) (by kernel_rfl)
  have y1 := As.valueOfPP
  have y2 := As.typePP
  have y3 := As.mKind
  have y4 := As.mElem
  have y5 := As.mImpl
  have y6 := As.mAsgn
  have y7 := As.kindPP
  have y8 := As.kindP
  have y9 := As.elemPP
  have y10 := As.implP
  have y11 := As.typeOfP
  have y12 := As.asgnP
  have y13 := As.valueOfP
  have b1 : Below w.heap.size w (w.alloc (.cells #[.pointer (some t)] 55)) := (Below.refl _ w).alloc (Nat.le_refl _) _
  have b2 := b1.alloc b1.size (.cells #[.pointer (some ⟨7, 55, none⟩), .pointer (some ⟨w.heap.size, 0, none⟩), .int .u64 150] 75)
  have b3 := b2.alloc b2.size (.cells #[.pointer (some ⟨7, 55, none⟩), .pointer (some ⟨w.heap.size, 0, none⟩), .int .u64 150] 75)
  have b4 := b3.alloc b3.size (.cells #[.pointer (some e)] 40)
  have n8 := As.isNilPP ⟨w.heap.size, 0, none⟩ t _ (show ((w.alloc (.cells #[.pointer (some t)] 55)).alloc (.cells #[.pointer (some ⟨7, 55, none⟩), .pointer (some ⟨w.heap.size, 0, none⟩), .int .u64 150] 75)).cell? _ = _ by simp)
  have hg2 := cell_old hg b2
  have el := As.elemVPP ⟨w.heap.size, 0, none⟩ t _ (show (((w.alloc (.cells #[.pointer (some t)] 55)).alloc (.cells #[.pointer (some ⟨7, 55, none⟩), .pointer (some ⟨w.heap.size, 0, none⟩), .int .u64 150] 75)).alloc (.cells #[.pointer (some ⟨7, 55, none⟩), .pointer (some ⟨w.heap.size, 0, none⟩), .int .u64 150] 75)).cell? _ = _ by
    rw [World.cell?_alloc_lt _ _ ⟨w.heap.size, 0, none⟩ (by simp; omega)]; simp)
  have htl : t.block < w.heap.size := World.block_lt_of_cell? _ _ ht0
  have st := As.setP t ⟨w.heap.size + 1 + 1 + 1, 0, none⟩ e old _ (show ((((w.alloc (.cells #[.pointer (some t)] 55)).alloc (.cells #[.pointer (some ⟨7, 55, none⟩), .pointer (some ⟨w.heap.size, 0, none⟩), .int .u64 150] 75)).alloc (.cells #[.pointer (some ⟨7, 55, none⟩), .pointer (some ⟨w.heap.size, 0, none⟩), .int .u64 150] 75)).alloc (.cells #[.pointer (some e)] 40)).cell? _ = _ by
      rw [World.cell?_alloc_at _ _ _ _ (by simp)]; rfl) (cell_old ht0 b4)
    (by rw [World.frozen?_alloc_old _ _ t (by simp; omega), World.frozen?_alloc_old _ _ t (by simp; omega), World.frozen?_alloc_old _ _ t (by simp; omega), World.frozen?_alloc_old _ _ t (Nat.ne_of_lt htl)]; exact hf0)
  have B4 := hide b4
  clear b1 b2 b3 b4 htl
  unfold LaidE at hg
  go_enter Tryz.func23, Tryz.ntmps23
  go_wp2
  refine wp_loop_rounds 1 ?_
  rw [rounds_succ]
  go_wp2
  go_ret
  exact ⟨rfl, _, B4.out, rfl⟩
/-- What isFault says of an error: none, or one with this code at this place. -/
def fltV (c a e at' : Int) : Bool := decide (c = e) && decide (a = at') && !decide (e = 0)
set_option maxRecDepth 100000 in
set_option maxHeartbeats 4000000 in
theorem isFault_nil (e at' : Int) (w : World) : Calls Tryz.prog 7 #[.nilIface, .int .i64 e, .int .i64 at'] w fun ev w' => ev = .returned (.bool (e == 0)) ∧ w' = w := by
  go_enter Tryz.func7, Tryz.ntmps7
  go_wp2
  go_ret
  exact ⟨rfl, rfl⟩
set_option maxRecDepth 100000 in
set_option maxHeartbeats 4000000 in
theorem isFault_some (k : Nat) (c a e at' : Int) (w : World) (hk : w.heap[k]? = some (.cells #[.int .i64 c, .int .i64 a] 42 (0, 0))) (hE : LaidE w) :
    Calls Tryz.prog 7 #[.iface 40 (.pointer (some ⟨k, 0, none⟩)), .int .i64 e, .int .i64 at'] w fun ev w' => ev = .returned (.bool (fltV c a e at')) ∧ Below w.heap.size w w' := by
  have b0 : Below w.heap.size w (w.alloc (.cells #[.pointer none] 40)) := (Below.refl _ w).alloc (Nat.le_refl _) _
  have h0 : (w.alloc (.cells #[.pointer none] 40)).heap[w.heap.size]? = some (.cells #[.pointer none] 40 (0, 0)) := heap_alloc_new w _
  have ka := as_hit ⟨k, 0, none⟩ ⟨w.heap.size, 0, none⟩ (.pointer none) (w.alloc (.cells #[.pointer none] 40)) (hE.below b0) (celS h0 0 _ rfl) (frzS h0 0)
  have KA := hide ka
  have HK := hide hk
  have B0 := hide b0
  have H0 := hide h0
  have key : ∀ W4, Below (w.alloc (.cells #[.pointer none] 40)).heap.size (w.alloc (.cells #[.pointer none] 40)) W4 → (W4.setCell ⟨w.heap.size, 0, none⟩ (.pointer (some ⟨k, 0, none⟩))).cell? ⟨w.heap.size, 0, none⟩ = some (.pointer (some ⟨k, 0, none⟩)) ∧ (W4.setCell ⟨w.heap.size, 0, none⟩ (.pointer (some ⟨k, 0, none⟩))).cell? ⟨k, 0, none⟩ = some (.int .i64 c) ∧ (W4.setCell ⟨w.heap.size, 0, none⟩ (.pointer (some ⟨k, 0, none⟩))).cell? ⟨k, 1, none⟩ = some (.int .i64 a) ∧ Below w.heap.size w (W4.setCell ⟨w.heap.size, 0, none⟩ (.pointer (some ⟨k, 0, none⟩))) := by
    intro W4 hB
    have hlt : k < w.heap.size := (Array.getElem?_eq_some_iff.1 hk).1
    have r1 : W4.heap[w.heap.size]? = _ := (hB.block _ (Array.getElem?_eq_some_iff.1 h0).1).trans h0
    have r2 := heap_setCell_same W4 w.heap.size 0 _ _ (.pointer (some ⟨k, 0, none⟩)) r1
    have hBw : Below w.heap.size w W4 := bseq b0 hB
    have r3 : W4.heap[k]? = _ := (hBw.block _ hlt).trans hk
    have r4 := (heap_setCell_other W4 ⟨w.heap.size, 0, none⟩ k (.pointer (some ⟨k, 0, none⟩)) (Nat.ne_of_lt hlt)).trans r3
    exact ⟨celS r2 0 _ rfl, celS r4 0 _ rfl, celS r4 1 _ rfl, hBw.setCell (p := ⟨w.heap.size, 0, none⟩) (Nat.le_refl _) _⟩
  have KEY := hide key
  clear ka hk b0 h0 key
  unfold fltV
  by_cases c1 : c = e
  · subst c1
    by_cases c2 : a = at'
    · subst c2
      by_cases c3 : c = 0
      · subst c3
        go_enter Tryz.func7, Tryz.ntmps7
        go_wp2_with (go_at_call 23; refine (KA.out).mono ?_; rintro ev x ⟨rfl, W4, hB4, rfl⟩; obtain ⟨k1, k2, k3, k4⟩ := KEY.out W4 hB4; have K4 := hide k4; clear k4 hB4)
        go_ret
        exact ⟨rfl, K4.out⟩
      · have d3 : (c == 0) = false := by simp [c3]
        have d4 : (c != 0) = true := by simp [c3]
        go_enter Tryz.func7, Tryz.ntmps7
        go_wp2_with (go_at_call 23; refine (KA.out).mono ?_; rintro ev x ⟨rfl, W4, hB4, rfl⟩; obtain ⟨k1, k2, k3, k4⟩ := KEY.out W4 hB4; have K4 := hide k4; clear k4 hB4)
        go_ret
        exact ⟨by simp [c3], K4.out⟩
    · have d2 : (a == at') = false := by simp [c2]
      go_enter Tryz.func7, Tryz.ntmps7
      go_wp2_with (go_at_call 23; refine (KA.out).mono ?_; rintro ev x ⟨rfl, W4, hB4, rfl⟩; obtain ⟨k1, k2, k3, k4⟩ := KEY.out W4 hB4; have K4 := hide k4; clear k4 hB4)
      go_ret
      exact ⟨by simp [c2], K4.out⟩
  · have d1 : (c == e) = false := by simp [c1]
    go_enter Tryz.func7, Tryz.ntmps7
    go_wp2_with (go_at_call 23; refine (KA.out).mono ?_; rintro ev x ⟨rfl, W4, hB4, rfl⟩; obtain ⟨k1, k2, k3, k4⟩ := KEY.out W4 hB4; have K4 := hide k4; clear k4 hB4)
    go_ret
    exact ⟨by simp [c1], K4.out⟩
end Go.Proofs.YtnodeapjgicclaaGreatDoor
namespace Go.Proofs.YtnodeapjgicclaaGreatDoor
open Go.RowKit Go.Shelf
set_option linter.unusedVariables false

set_option maxRecDepth 100000 in
set_option maxHeartbeats 1000000 in
theorem unq_over (s : ByteArray) (w : World) (hs : 16384 < s.size) :
    Calls Tryz.prog 10 #[.string s] w fun e w' => ∃ k, e = .returned (.tuple #[.string ⟨#[]⟩, .iface 40 (.pointer (some ⟨k, 0, none⟩))]) ∧ w.heap.size ≤ k ∧ w'.heap[k]? = some (.cells #[.int .i64 4, .int .i64 0] 42 (0, 0)) ∧ Below w.heap.size w w' := by
  go_enter Tryz.func10, Tryz.ntmps10
  go_wp2_with (fail)
  go_ret2
  exact ⟨w.heap.size, rfl, Nat.le_refl _, heap_alloc_new w _, (Below.refl _ w).alloc (Nat.le_refl _) _⟩
/-- What Unquote answers: the text, the code, the place. -/
def unV (s : ByteArray) : ByteArray × Int × Nat :=
  if 16384 < s.size then (⟨#[]⟩, 4, 0) else if isAt s 0 34 = false then (⟨#[]⟩, 71, 0)
  else if (Qt ((bl s).drop 1)).2.2 = true ∧ 1 + (Qt ((bl s).drop 1)).2.1 = s.size then (⟨(Qt ((bl s).drop 1)).1.toArray⟩, 0, 0) else (⟨#[]⟩, 71, 1 + (Qt ((bl s).drop 1)).2.1)
def UqPost (R : ByteArray × Int × Nat) (w : World) (e : Ending) (w' : World) : Prop :=
  (R.2.1 = 0 ∧ R.2.2 = 0 ∧ e = .returned (.tuple #[.string R.1, .nilIface]) ∧ Below w.heap.size w w') ∨
  (R.2.1 ≠ 0 ∧ ∃ k, e = .returned (.tuple #[.string R.1, .iface 40 (.pointer (some ⟨k, 0, none⟩))]) ∧ w.heap.size ≤ k ∧ w'.heap[k]? = some (.cells #[.int .i64 R.2.1, .int .i64 (R.2.2 : Int)] 42 (0, 0)) ∧ Below w.heap.size w w')
theorem unq_any (s : ByteArray) (w : World) : Calls Tryz.prog 10 #[.string s] w fun e w' => UqPost (unV s) w e w' := by
  unfold unV
  by_cases h1 : 16384 < s.size
  · rw [if_pos h1]
    exact (unq_over s w h1).mono fun e w' h => .inr ⟨by decide, h⟩
  rw [if_neg h1]
  cases h0 : isAt s 0 34 with
  | false =>
    simp only [if_true]
    exact (unq_no s w (by omega) h0).mono fun e w' h => .inr ⟨by decide, h⟩
  | true =>
    simp only [Bool.true_eq_false, if_false]
    obtain ⟨T, E, ok, hQ⟩ : ∃ T E ok, Qt ((bl s).drop 1) = (T, E, ok) := ⟨_, _, _, rfl⟩
    have hle := Qt_le ((bl s).drop 1)
    rw [hQ, List.length_drop, bl_len] at hle
    have hp : 0 < s.size := by
      unfold isAt at h0
      simp at h0
      exact h0.1
    rw [hQ]
    simp only at hle ⊢
    cases ok with
    | false =>
      simp only [Bool.false_eq_true, false_and, if_false]
      exact (unq_bad s w (by omega) h0 T E (1 + E) hQ rfl).mono fun e w' h => .inr ⟨show (71 : Int) ≠ 0 by decide, h⟩
    | true =>
      by_cases hE : 1 + E = s.size
      · rw [if_pos ⟨rfl, hE⟩]
        exact (unq_ok s w (by omega) h0 T E hQ hE).mono fun e w' h => .inl ⟨rfl, rfl, h⟩
      · rw [if_neg (fun c => hE c.2)]
        exact (unq_more s w (by omega) h0 T E (1 + E) hQ rfl (by omega)).mono fun e w' h => .inr ⟨show (71 : Int) ≠ 0 by decide, h⟩
theorem qdV_eq (l : List UInt8) {T : List UInt8} {E : Nat} {ok : Bool} (h : Qt (l.drop 1) = (T, E, ok)) : qdV l = (if ok = true then T else [], 1 + E, ok) := by unfold qdV; rw [h]
set_option maxRecDepth 100000 in
set_option maxHeartbeats 2000000 in
theorem runq_any (s : ByteArray) (w : World) : Calls Tryz.prog 11 #[.string s] w fun e w' => e = .returned (.tuple #[.string (unV s).1, .int .i64 (unV s).2.1, .int .i64 ((unV s).2.2 : Int)]) ∧ Below w.heap.size w w' := by
  unfold unV
  by_cases h1 : 16384 < s.size
  · rw [if_pos h1]
    have h1I : (16384 : Int) < (s.size : Int) := by omega
    go_enter Tryz.func11, Tryz.ntmps11
    go_wp2_with (fail)
    go_ret3
    exact ⟨rfl, Below.refl _ _⟩
  rw [if_neg h1]
  have h1I : (s.size : Int) ≤ 16384 := by omega
  by_cases hz : s.size = 0
  · have h0 : isAt s 0 34 = false := by unfold isAt; rw [hz]; rfl
    rw [h0]
    simp only [if_true]
    have hzI : ((s.size : Int) == 0) = true := by rw [hz]; rfl
    clear h0 h1 hz
    go_enter Tryz.func11, Tryz.ntmps11
    go_wp2_with (fail)
    go_ret3
    exact ⟨rfl, Below.refl _ _⟩
  have hzI : ((s.size : Int) == 0) = false := beq_eq_false_iff_ne.2 (by omega)
  have hp : 0 < s.size := by omega
  have hb0 : by' (bl s) 0 = (s[0]'hp).toNat := by'_get s 0 hp
  by_cases h34 : (s[0]'hp).toNat = 34
  · have h0 : isAt s 0 34 = true := by unfold isAt; rw [hb0, h34]; simp [hp]
    rw [h0]
    simp only [Bool.true_eq_false, if_false]
    have h34I : (((s[0]'hp).toNat : Int) != 34) = false := by rw [h34]; rfl
    obtain ⟨T, E, ok, hQ⟩ : ∃ T E ok, Qt ((bl s).drop 1) = (T, E, ok) := ⟨_, _, _, rfl⟩
    have hle := Qt_le ((bl s).drop 1)
    rw [hQ, List.length_drop, bl_len] at hle
    have kq := fun W => rquoted_any s W (by omega) hp
    rw [qdV_eq _ hQ] at kq
    rw [hQ]
    simp only at hle kq ⊢
    obtain ⟨P, hP⟩ : ∃ P, 1 + E = P := ⟨_, rfl⟩
    rw [hP] at kq ⊢
    have hPI : (P : Int) ≤ (s.size : Int) := by omega
    cases ok with
    | false =>
      simp only [Bool.false_eq_true, false_and, if_false] at kq ⊢
      have KQ := hide kq
      clear kq hle hP hQ h0 hb0 h34 hz h1
      go_enter Tryz.func11, Tryz.ntmps11
      go_wp2_with (go_at_call 20; refine (KQ.out _).mono ?_; rintro e x ⟨rfl, hbx⟩; have HBX := hide hbx; clear hbx)
      go_ret3
      exact ⟨rfl, HBX.out⟩
    | true =>
      simp only [if_true, true_and] at kq ⊢
      have KQ := hide kq
      by_cases hE : P = s.size
      · rw [if_pos hE]
        have hd : decide ((P : Int) < (s.size : Int)) = false := decide_eq_false (by omega)
        have hd2 : decide (P < s.size) = false := decide_eq_false (by omega)
        generalize (⟨T.toArray⟩ : ByteArray) = TT at *
        clear kq hle hP hQ h0 hb0 h34 hz h1 hE hPI
        go_enter Tryz.func11, Tryz.ntmps11
        go_wp2_with (go_at_call 20; refine (KQ.out _).mono ?_; rintro e x ⟨rfl, hbx⟩; have HBX := hide hbx; clear hbx)
        go_ret3
        exact ⟨rfl, HBX.out⟩
      · rw [if_neg hE]
        have hlt : (P : Int) < (s.size : Int) := by omega
        generalize (⟨T.toArray⟩ : ByteArray) = TT at *
        clear kq hle hP hQ h0 hb0 h34 hz h1 hE hPI
        go_enter Tryz.func11, Tryz.ntmps11
        go_wp2_with (go_at_call 20; refine (KQ.out _).mono ?_; rintro e x ⟨rfl, hbx⟩; have HBX := hide hbx; clear hbx)
        go_ret3
        exact ⟨rfl, HBX.out⟩
  · have h0 : isAt s 0 34 = false := by unfold isAt; rw [hb0]; simp [h34]
    rw [h0]
    simp only [if_true]
    have h34I : (((s[0]'hp).toNat : Int) != 34) = true := by rw [bne_iff_ne]; omega
    clear h0 h1 hz h34 hb0
    go_enter Tryz.func11, Tryz.ntmps11
    go_wp2_with (fail)
    go_ret3
    exact ⟨rfl, Below.refl _ _⟩
set_option maxRecDepth 100000 in
set_option maxHeartbeats 2000000 in
theorem unquotes_road (s : ByteArray) (w : World) (hL : LaidW w) (hZ : LaidZ w) (hE : LaidE w) :
    Calls Tryz.prog 4 #[.string s] w fun e w' => e = .returned (.bool true) ∧ Below w.heap.size w w' := by
  have ku := unq_any s w
  have kr := fun W => runq_any s W
  obtain ⟨R, hR⟩ : ∃ R, unV s = R := ⟨_, rfl⟩
  rw [hR] at ku kr
  obtain ⟨T, c, p⟩ := R
  simp only at kr
  clear hR
  have KU := hide ku
  have KR := hide kr
  have HL := hide hL
  have HZ := hide hZ
  have HE := hide hE
  clear ku kr hL hZ hE
  go_enter Tryz.func4, Tryz.ntmps4
  go_wp2_with (fail)
  refine (KU.out).mono ?_
  rintro e x1 (⟨hc, hp, rfl, hb1⟩ | ⟨hc, k, rfl, hk1, hk2, hb1⟩)
  · simp only at hc hp
    subst hc
    subst hp
    have HB1 := hide hb1
    clear hb1
    go_wp2_with (first | (go_at_call 11; refine (KR.out _).mono ?_; rintro e x2 ⟨rfl, hb2⟩; have HB2 := hide (bseq HB1.out hb2); clear hb2) | (go_at_call 7; refine (isFault_nil 0 0 _).mono ?_; rintro e x4 ⟨rfl, hx4⟩; subst hx4; rw [show ((0 : Int) == 0) = true from rfl]) | (go_at_call 9; refine (works_any _ (HL.out.below HB2.out) (HZ.out.below HB2.out)).mono ?_; rintro e q ⟨rfl, hq⟩))
    go_ret
    exact ⟨rfl, bseq HB2.out hq⟩
  · simp only at hc hk2
    have hv : fltV c (p : Int) c (p : Int) = true := by simp [fltV, hc]
    have HB1 := hide hb1
    have HK1 := hide hk2
    clear hb1 hk1 hk2 hc
    go_wp2_with (first | (go_at_call 11; refine (KR.out _).mono ?_; rintro e x2 ⟨rfl, hb2⟩; have HB2 := hide (bseq HB1.out hb2); have HK2 := hide ((hb2.block _ (Array.getElem?_eq_some_iff.1 HK1.out).1).trans HK1.out); clear hb2) | (go_at_call 7; refine (isFault_some k c (p : Int) c (p : Int) _ HK2.out (HE.out.below HB2.out)).mono ?_; rintro e x4 ⟨rfl, hb4⟩; have HB4 := hide (bseq HB2.out hb4); clear hb4; rw [hv]) | (go_at_call 9; refine (works_any _ (HL.out.below HB4.out) (HZ.out.below HB4.out)).mono ?_; rintro e q ⟨rfl, hq⟩))
    go_ret
    exact ⟨rfl, bseq HB4.out hq⟩
end Go.Proofs.YtnodeapjgicclaaGreatDoor
namespace Go.Proofs.YtnodeapjgicclaaGreatDoor
open Go.ChangeShapes Go.WideShapes Go.ChangeAt Go.RowKit
set_option linter.unusedVariables false

theorem own : ownKnob Tryz.prog.godebug = none := by kernel_rfl
theorem laidOut : laidOutB Tryz.prog = true := by kernel_rfl
theorem size_of_sized {s : ByteArray} (h : s.data.toList.length ≤ reachBytes) : s.size ≤ 140737488351232 := by
  have : s.data.toList.length = s.size := by simp
  have e : reachBytes = 140737488351232 := by decide
  omega
theorem bulk_pos {H : Type} (d : DataW H) : 1 ≤ Rows.uptoBulk d := by
  cases d with
  | lit l => cases l <;> simp [Rows.uptoBulk]
  | _ => simp [Rows.uptoBulk]
theorem bulk_len {H : Type} (l : List (DataW H)) : l.length ≤ Rows.uptoBulkAll l := by
  induction l with
  | nil => simp [Rows.uptoBulkAll]
  | cons d r ih =>
    have := bulk_pos d
    simp only [Rows.uptoBulkAll, List.length_cons]
    omega
theorem bulk_string {H : Type} (s : ByteArray) : s.size ≤ Rows.uptoBulk (H := H) (.lit (.string s.data.toList)) := by
  simp [Rows.uptoBulk]
theorem bulk_nums {H : Type} {d : DataW H} {zs : List Int} (h : d = .nil ∧ zs = [] ∨ ∃ el sp, d = .slice el sp ∧ el.length = zs.length) : zs.length ≤ Rows.uptoBulk d := by
  rcases h with ⟨_, rfl⟩ | ⟨el, sp, rfl, h⟩
  · simp
  · have := bulk_len el
    simp only [Rows.uptoBulk]
    omega
theorem bulk_of {H : Type} {l : List (DataW H)} (h : Rows.uptoSmall H l = true) : Rows.uptoBulkAll l ≤ 1048576 := of_decide_eq_true h

end Go.Proofs.YtnodeapjgicclaaGreatDoor
namespace Go.Proofs.YtnodeapjgicclaaGreatDoor
open Go.ChangeShapes Go.WideShapes Go.ChangeAt Go.RowKit
set_option linter.unusedVariables false

/-- The five variables, as the rows list them. -/
def laidL : List (String × DataW Unit) := [("math/bits.deBruijn32tab", Rows.laid_math_bits_deBruijn32tab), ("math/bits.deBruijn64tab", Rows.laid_math_bits_deBruijn64tab), ("internal/strconv.uint64pow10", Rows.laid_internal_strconv_uint64pow10), ("strconv.ErrRange", Rows.laid_strconv_ErrRange), ("strconv.ErrSyntax", Rows.laid_strconv_ErrSyntax)]
theorem gTab64 : Tryz.prog.globalNamed "math/bits.deBruijn64tab" = some 6 := by kernel_rfl
theorem gPow : Tryz.prog.globalNamed "internal/strconv.uint64pow10" = some 3 := by kernel_rfl
theorem gRange : Tryz.prog.globalNamed "strconv.ErrRange" = some 2 := by kernel_rfl
theorem gSyntax : Tryz.prog.globalNamed "strconv.ErrSyntax" = some 1 := by kernel_rfl
theorem tTab64 : (Tryz.prog.globals[6]?).map (·.type) = some 147 := by kernel_rfl
theorem tPow : (Tryz.prog.globals[3]?).map (·.type) = some 140 := by kernel_rfl
theorem tRange : (Tryz.prog.globals[2]?).map (·.type) = some 24 := by kernel_rfl
theorem tSyntax : (Tryz.prog.globals[1]?).map (·.type) = some 24 := by kernel_rfl
theorem laid_of {W : World} (h : laidMetH Tryz.prog laidL W) : LaidW W ∧ LaidZ W := by
  rw [MakeChecks.laidMetH_plain _ _ _ (by kernel_rfl)] at h
  obtain ⟨ps, ⟨g0, t0, cs0, f0, p0, q0, hg0, ht0, hv0, hd0, ⟨g1, t1, cs1, f1, p1, q1, hg1, ht1, hv1, hd1, ⟨g2, t2, cs2, f2, p2, q2, hg2, ht2, hv2, hd2, ⟨g3, t3, cs3, f3, p3, q3, hg3, ht3, hv3, hd3, ⟨g4, t4, cs4, f4, p4, q4, hg4, ht4, hv4, hd4, _, _⟩, _⟩, _⟩, _⟩, _⟩, _, _⟩ := h
  obtain rfl := Option.some.inj (gTab64.symm.trans hg1)
  obtain rfl := Option.some.inj (tTab64.symm.trans ht1)
  obtain rfl := Option.some.inj (gPow.symm.trans hg2)
  obtain rfl := Option.some.inj (tPow.symm.trans ht2)
  obtain rfl := Option.some.inj (gRange.symm.trans hg3)
  obtain rfl := Option.some.inj (tRange.symm.trans ht3)
  obtain rfl := Option.some.inj (gSyntax.symm.trans hg4)
  obtain rfl := Option.some.inj (tSyntax.symm.trans ht4)
  have k1 := Lib.cells_of_tab (k := .u8) (zs := [0, 1, 56, 2, 57, 49, 28, 3, 61, 58, 42, 50, 38, 29, 17, 4, 62, 47, 59, 36, 45, 43, 51, 22, 53, 39, 33, 30, 24, 18, 12, 5, 63, 55, 48, 27, 60, 41, 37, 16, 46, 35, 44, 21, 52, 32, 23, 11, 54, 26, 40, 15, 34, 20, 31, 10, 25, 14, 19, 9, 13, 8, 7, 6]) Tryz.underlying147 Tryz.underlying5 (by kernel_rfl) (by kernel_rfl) hd1
  have k2 := Lib.cells_of_tab (k := .u64) (zs := Lib.pow10Tab) Tryz.underlying140 Tryz.underlying122 (by kernel_rfl) (by kernel_rfl) hd2
  obtain ⟨_, u3, v3, e3, _, _⟩ := iface_of_trod Tryz.underlying24 hd3
  obtain ⟨_, u4, v4, e4, _, _⟩ := iface_of_trod Tryz.underlying24 hd4
  have c3 := World.var?_cell gRange hv3 0
  have c4 := World.var?_cell gSyntax hv4 0
  have c1 := World.var?_cell gTab64 hv1 15
  refine ⟨⟨⟨u4, v4, ?_⟩, ⟨u3, v3, ?_⟩, ?_⟩, ?_⟩
  · rw [c4, ← Array.getElem?_toList, e4]; rfl
  · rw [c3, ← Array.getElem?_toList, e3]; rfl
  · show W.var? _ _ = _
    rw [hv2, ← k2]
  · show W.cell? _ = _
    rw [c1, ← Array.getElem?_toList, k1]
    rfl
theorem door_met (os : Os) (args : Array Value) : laidMetH Tryz.prog laidL ((World.doorLaid Tryz.prog 100 os).forCall (fun _ _ => 0) ⟨#[], args, []⟩).memory :=
  laidMetH_of_parts3 (fuel := 8) (laidMet_of_run' 8 (by kernel_rfl) (by kernel_rfl)) (by kernel_rfl) (by kernel_rfl)
end Go.Proofs.YtnodeapjgicclaaGreatDoor
namespace Go.Proofs.YtnodeapjgicclaaGreatDoor
open Go.ChangeShapes Go.WideShapes Go.ChangeAt Go.RowKit
set_option linter.unusedVariables false

theorem gErrT : Tryz.prog.globalNamed "errors.errorType" = some 0 := by kernel_rfl
theorem errOnly : ((List.range Tryz.prog.types.size).filter fun t => Tryz.prog.rowNamed t [101, 114, 114, 111, 114]) = [24] := by kernel_rfl
theorem cutRt : (Tryz.prog.cutTypes.find? (·.1 == "internal/reflectlite.rtype")).map (·.2) = some 95 := by kernel_rfl
theorem handErr (ty : TypeId) (h : ty = 24) : typeHandle Tryz.prog ty = .pointer (some ⟨7, 24, none⟩) := by subst h; kernel_rfl
theorem laid_of6 {W : World} {L : List (String × DataW Unit)} (hL : (L.filter fun x => x.2.handleName?.isNone) = laidL) (hH : (L.filter fun x => x.2.handleName?.isSome) = [("errors.errorType", Rows.laid_errors_errorType)]) (h : laidMetH Tryz.prog L W) : LaidW W ∧ LaidZ W ∧ LaidE W := by
  unfold laidMetH at h
  rw [hH] at h
  obtain ⟨h1, h2⟩ := h
  rw [hL] at h1
  obtain ⟨a, b⟩ := laid_of (W := W) (by rw [MakeChecks.laidMetH_plain _ _ _ (by kernel_rfl)]; exact h1)
  have h3 := h2 _ (List.mem_singleton.2 rfl)
  simp only [show (Rows.laid_errors_errorType : DataW Unit).funcsIn? = none from rfl] at h3
  obtain ⟨name, u, ty, e1, e2, e3, e4, e5⟩ := h3
  have en : name = [101, 114, 114, 111, 114] := (Option.some.inj ((show (Rows.laid_errors_errorType : DataW Unit).handleName? = some [101, 114, 114, 111, 114] from rfl).symm.trans e1)).symm
  subst en
  obtain rfl := Option.some.inj (cutRt.symm.trans e2)
  have hm : ty ∈ (List.range Tryz.prog.types.size).filter fun t => Tryz.prog.rowNamed t [101, 114, 114, 111, 114] := List.mem_filter.2 ⟨List.mem_range.2 e3, e4⟩
  rw [errOnly] at hm
  have ht := List.mem_singleton.1 hm
  refine ⟨a, b, ?_⟩
  have c := World.var?_cell gErrT e5 0
  rw [handErr ty ht] at c
  unfold LaidE
  rw [c]
  rfl
theorem door_met6 (os : Os) (args : Array Value) {L : List (String × DataW Unit)} (hL : (L.filter fun x => x.2.handleName?.isNone) = laidL)
    (hH : (L.filter fun x => x.2.handleName?.isSome && x.2.funcsIn?.isNone) = [("errors.errorType", Rows.laid_errors_errorType)]) (hF : funcsListed L = []) : laidMetH Tryz.prog L ((World.doorLaid Tryz.prog 100 os).forCall (fun _ _ => 0) ⟨#[], args, []⟩).memory :=
  laidMetH_of_parts3 (fuel := 8) (by rw [hL]; exact laidMet_of_run' 8 (by kernel_rfl) (by kernel_rfl)) (by rw [hH]; kernel_rfl) (by rw [hF]; rfl)
end Go.Proofs.YtnodeapjgicclaaGreatDoor
namespace Go.Proofs.YtnodeapjgicclaaGreatDoor.scanUnquotes
open Go.ChangeShapes Go.WideShapes Go.ChangeAt Go.RowKit Go.Proofs.YtnodeapjgicclaaGreatDoor
set_option linter.unusedVariables false

set_option maxRecDepth 100000 in
theorem contract (H : Type) (enc : TypeId × Value → H) (W : World) (base : Nat) (args : Array Value) (ds gs : List (DataW H)) (before : List MemPlace)
    (hval : ∀ (j : Nat) t v, Tryz.f4.params[j]? = some t → args[j]? = some v → Value.okWide Tryz.prog W .any base t v)
    (hW : DataW.Whole enc Tryz.prog Tryz.f4.params.toList Rows.scanUnquotesSpec.vars false W args.toList ds gs before) (hlaid : laidMetH Tryz.prog Rows.scanUnquotesRow.laid W) :
    Calls Tryz.prog 4 args W fun e W' => ∃ v, e = .returned v ∧ Rows.scanUnquotesSpec.post enc Tryz.prog Tryz.f4 false true false false W args v W' := by
  have hW' := hW
  obtain ⟨hL, hZ, hE⟩ := laid_of6 rfl rfl hlaid
  obtain ⟨p, q, hA0, hV, rfl, hfz, hnd⟩ := hW
  have hA : DataW.TrodAll enc Tryz.prog W 0 (fun _ => true) true Tryz.f4.params.toList args.toList ds p := hA0
  rw [Tryz.params4] at hA hval
  obtain ⟨v0, vs0, d0, ds0, p0, q0, hargs, rfl, rfl, h0, r0⟩ := trodAll_cons hA
  obtain ⟨rfl, rfl, rfl⟩ := trodAll_nil r0
  obtain rfl : args = #[v0] := by cases args; simp_all
  obtain ⟨rfl, rfl⟩ := trodVars_none hV
  obtain ⟨a0, rfl, rfl, rfl, l0⟩ := Go.ChangeMaps.open_string Tryz.underlying9 (hval 0 9 v0 rfl rfl) h0
  have n0 : a0.size ≤ 9223372036854775807 := l0
  clear hA0
  refine (unquotes_road a0 W hL hZ hE).mono fun e W' ⟨he, bel⟩ => ?_
  subst he
  exact ⟨_, rfl, _, _, _, [], _, [], hW', trodAll_mk1 (shut_bool Tryz.underlying4 _), (trodAll_cons_mk (Go.ChangeMaps.shut_string Tryz.underlying9 l0) trodAll_mk0), rfl, bel.frame _, fun h => by cases h⟩

theorem reads (os : Os) {H : Type} (enc : TypeId × Value → H) : ∃ places, DataW.whole enc Tryz.prog ((World.doorLaid Tryz.prog 100 os).forCall (fun _ _ => 0) ⟨#[], #[.string ⟨#[]⟩], []⟩).memory Tryz.f4.params.toList Rows.scanUnquotesSpec.vars false (#[.string ⟨#[]⟩] : Array Value).toList 8 = some ([.lit (.string [])], [], places) :=
  ⟨[], by kernel_rfl⟩

set_option maxRecDepth 100000 in
theorem liftedUpto (os : Os) (started : os.Started) (H : Type) (enc : TypeId × Value → H) (F : Stop.Interp) :
    ReturnsInHanded {} Tryz.checked os 4 .any ((OpenSpec.ofChange Rows.scanUnquotesSpec).preRow enc Tryz.prog Tryz.f4 Rows.scanUnquotesRow.domain false Rows.scanUnquotesRow.laid) (((OpenSpec.ofChange Rows.scanUnquotesSpec).at F).post enc Tryz.prog Tryz.f4 false true false false) := by
  obtain ⟨places, hx⟩ := reads os enc
  refine returnsInHanded_of_row (C := Tryz.checked) (s := OpenSpec.ofChange Rows.scanUnquotesSpec) own started (by kernel_rfl) Tryz.func4
    (witness_row_atRef (enc := enc) (C := Tryz.checked) false (World.doorLaid Tryz.prog 100 os) #[.string ⟨#[]⟩] rfl (by kernel_rfl) (by kernel_rfl) (by kernel_rfl)
      (OpenSpec.preRow_of_cond 8 hx (by kernel_rfl) (fun k hk => by cases hk) (by kernel_rfl) (door_met6 os _ rfl rfl rfl))) ?_
  intro W base args ds gs before hval hW _ hcond hsz hL _ _
  exact contract H enc W base args ds gs before hval hW hL

theorem saidUpto : Rows.ScanUnquotesSaid :=
  OpenClaim.holds_of_cond 4 Tryz.f4 rfl rfl rfl rfl rfl rfl rfl ⟨rfl, rfl, rfl, rfl, rfl⟩ rfl rfl rfl rfl rfl (by kernel_rfl) Tryz.func4 (by kernel_rfl)
    (of_decide_eq_true (by kernel_rfl)) (by unfold Func.isWrapper; first | (rw [if_pos (by decide +kernel)]; kernel_rfl) | (rw [if_neg (by decide +kernel)]; exact ⟨rfl, rfl⟩))
    (fun os started H enc _ F => by rw [OpenClaim.pre_eq_preRow]; exact liftedUpto os started H enc F)

theorem plain (f : FuncId) (fn : Func) (hf : Tryz.pinned.checked.prog.funcNamed "vellum/vellumlaw07.ScanUnquotes" = some f) (hfn : Tryz.pinned.checked.prog.funcs[f]? = some fn) :
    true = Tryz.pinned.checked.prog.looks [] ∧ ∀ (j : Nat) t, fn.params[j]? = some t → Tryz.pinned.checked.prog.wantsStandIn t = false := by
  obtain rfl : f = 4 := Option.some.inj ((show Tryz.prog.funcNamed "vellum/vellumlaw07.ScanUnquotes" = some 4 by kernel_rfl).symm.trans hf) |>.symm
  obtain rfl : fn = Tryz.f4 := (Option.some.inj (Tryz.func4.symm.trans hfn)).symm
  refine ⟨by kernel_rfl, fun j t ht => ?_⟩
  rw [Tryz.params4] at ht
  have hm := Array.mem_of_getElem? ht
  simp at hm
  rcases hm with rfl
  all_goals first | exact (show Tryz.prog.wantsStandIn _ = false by kernel_rfl)

theorem cardUpto : Rows.ScanUnquotesCardSaid :=
  Claim7.holds_tied_plain_at .later [] _ _ _ _ saidUpto (fun _ h => by cases h) (by kernel_rfl) (fun _ h => by cases h) scanUnquotes_row_tie rfl ⟨rfl, rfl⟩ (by kernel_rfl) rfl plain (by kernel_rfl)
end Go.Proofs.YtnodeapjgicclaaGreatDoor.scanUnquotes

namespace Go.Proofs.YtnodeapjgicclaaGreatDoor
/-- ScanUnquotes, as its card states it. -/
theorem scanUnquotes_card : Rows.ScanUnquotesCardSaid := scanUnquotes.cardUpto
#print axioms scanUnquotes_card
end Go.Proofs.YtnodeapjgicclaaGreatDoor
