/- Package seek: back over one character. -/
import Derived.Test.YtodooppapciegaaGreatDoorXPut
import Derived.Test.YtodooppapciegaaGreatDoorXCh
namespace Go.Proofs.YtodooppapciegaaGreatDoor
open Go.RowKit Go.Shelf
set_option linter.unusedVariables false

set_option maxRecDepth 100000 in
set_option maxHeartbeats 2000000 in
theorem xback_any (b : Nat) (s : ByteArray) (p : Nat) (f : Bool) (v : Value) (c : Nat) (w : World) (h : Rx w b s p f v) (hp : p ≤ s.size) (hs : s.size ≤ 140737488355328) (hc : (lastV (bl (s.extract 0 p))).2.1 = (c : Int)) (hcp : c ≤ p) :
    Calls Tryz.prog 53 #[.pointer (some ⟨b, 0, none⟩)] w fun e w' => e = .returned (.tuple #[]) ∧ Rx w' b s (p - c) f v ∧ GrX (fun j => j = b) w w' := by
  have kl := fun W => last_any (s.extract 0 p) W (by rw [ByteArray.size_extract]; omega)
  rw [hc] at kl
  generalize (lastV (bl (s.extract 0 p))).1 = r at kl
  generalize (lastV (bl (s.extract 0 p))).2.2 = g at kl
  have KL := hide kl
  have HH := hide h
  have hpI : (p : Int) ≤ (s.size : Int) := by omega
  have hsI : (s.size : Int) ≤ 140737488355328 := by omega
  have hcI : (c : Int) ≤ (p : Int) := by omega
  have mk : ∀ W : World, Below w.heap.size w W → (Below w.heap.size w W ∧ W.cell? ⟨b, 0, none⟩ = some (.string s) ∧ W.cell? ⟨b, 1, none⟩ = some (.int .i64 (p : Int))) := fun W hW => ⟨hW, (h.below hW).text, (h.below hW).at⟩
  have MK := hide mk
  clear mk kl h hc
  go_enter Tryz.func53, Tryz.ntmps53
  go_wp2_with (fail)
  refine wp_region_held_drew (S := fun W => Below w.heap.size w W ∧ W.cell? ⟨b, 0, none⟩ = some (.string s) ∧ W.cell? ⟨b, 1, none⟩ = some (.int .i64 (p : Int))) (by kernel_rfl) (MK.out _ (Below.refl _ w).drew) (fun hS => ?_)
  refine wpAnyH_take (i := 0) (v := (.pointer (some ⟨b, 0, none⟩))) rfl (by kernel_rfl) (by kernel_rfl) (by kernel_rfl) (fun _ _ _ h => h) (Or.inl ⟨by kernel_rfl, fun w' hw => by (obtain ⟨_, z0, z1⟩ := hw; go_simp)⟩) hS ?_
  refine wpAnyH_take (i := 1) (v := (.pointer (some ⟨b, 0, none⟩))) rfl (by kernel_rfl) (by kernel_rfl) (by kernel_rfl) (fun _ _ _ h => h) (Or.inl ⟨by kernel_rfl, fun w' hw => by (obtain ⟨_, z0, z1⟩ := hw; go_simp)⟩) hS ?_
  refine wpAnyH_take (i := 2) (v := (.pointer (some ⟨b, 0, none⟩))) rfl (by kernel_rfl) (by kernel_rfl) (by kernel_rfl) (fun _ _ _ h => h) (Or.inl ⟨by kernel_rfl, fun w' hw => by (obtain ⟨_, z0, z1⟩ := hw; go_simp)⟩) hS ?_
  refine wpAnyH_take (i := 3) (v := (.string s)) rfl (by kernel_rfl) (by kernel_rfl) (by kernel_rfl) (fun _ _ _ h => h) (Or.inl ⟨by kernel_rfl, fun w' hw => by (obtain ⟨_, z0, z1⟩ := hw; go_simp)⟩) hS ?_
  refine wpAnyH_take (i := 4) (v := (.pointer (some ⟨b, 0, none⟩))) rfl (by kernel_rfl) (by kernel_rfl) (by kernel_rfl) (fun _ _ _ h => h) (Or.inl ⟨by kernel_rfl, fun w' hw => by (obtain ⟨_, z0, z1⟩ := hw; go_simp)⟩) hS ?_
  refine wpAnyH_take (i := 5) (v := (.pointer (some ⟨b, 0, none⟩))) rfl (by kernel_rfl) (by kernel_rfl) (by kernel_rfl) (fun _ _ _ h => h) (Or.inl ⟨by kernel_rfl, fun w' hw => by (obtain ⟨_, z0, z1⟩ := hw; go_simp)⟩) hS ?_
  refine wpAnyH_take (i := 6) (v := (.pointer (some ⟨b, 1, none⟩))) rfl (by kernel_rfl) (by kernel_rfl) (by kernel_rfl) (fun _ _ _ h => h) (Or.inl ⟨by kernel_rfl, fun w' hw => by (obtain ⟨_, z0, z1⟩ := hw; go_simp)⟩) hS ?_
  refine wpAnyH_take (i := 7) (v := (.int .i64 (p : Int))) rfl (by kernel_rfl) (by kernel_rfl) (by kernel_rfl) (fun _ _ _ h => h) (Or.inl ⟨by kernel_rfl, fun w' hw => by (obtain ⟨_, z0, z1⟩ := hw; go_simp)⟩) hS ?_
  refine wpAnyH_take (i := 8) (v := (.string (s.extract 0 p))) rfl (by kernel_rfl) (by kernel_rfl) (by kernel_rfl) (fun _ _ _ h => h) (Or.inl ⟨by kernel_rfl, fun w' hw => by (obtain ⟨_, z0, z1⟩ := hw; go_simp)⟩) hS ?_
  refine wpAnyH_ready (rs := [9]) (by kernel_rfl) (by simp) ?_
  refine AllReadyH.cons rfl (fun K hK => ?_) AllReadyH.nil
  rw [if_pos (by kernel_rfl)]
  go_simp
  go_wp2_with (go_at_call 41; refine (KL.out _).mono ?_; rintro e z ⟨rfl, hbz⟩; have HZ := hide (bseq (Below.refl _ w).drew hbz : Below w.heap.size w z); clear hbz)
  refine hK.out _ _ (MK.out _ HZ.out) (fun hS2 => ?_)
  refine wpAnyH_take (i := 10) (v := (.tuple #[.int .i32 r, .int .i64 (c : Int), .bool g])) rfl (by kernel_rfl) (by kernel_rfl) (by kernel_rfl) (fun _ _ _ h => h) (Or.inl ⟨by kernel_rfl, fun w' hw => by (obtain ⟨_, z0, z1⟩ := hw; go_simp)⟩) hS2 ?_
  refine wpAnyH_take (i := 11) (v := (.int .i32 r)) rfl (by kernel_rfl) (by kernel_rfl) (by kernel_rfl) (fun _ _ _ h => h) (Or.inl ⟨by kernel_rfl, fun w' hw => by (obtain ⟨_, z0, z1⟩ := hw; go_simp)⟩) hS2 ?_
  refine wpAnyH_take (i := 12) (v := (.int .i64 (c : Int))) rfl (by kernel_rfl) (by kernel_rfl) (by kernel_rfl) (fun _ _ _ h => h) (Or.inl ⟨by kernel_rfl, fun w' hw => by (obtain ⟨_, z0, z1⟩ := hw; go_simp)⟩) hS2 ?_
  refine wpAnyH_take (i := 13) (v := (.bool g)) rfl (by kernel_rfl) (by kernel_rfl) (by kernel_rfl) (fun _ _ _ h => h) (Or.inl ⟨by kernel_rfl, fun w' hw => by (obtain ⟨_, z0, z1⟩ := hw; go_simp)⟩) hS2 ?_
  refine wpAnyH_take (i := 14) (v := (.int .i32 r)) rfl (by kernel_rfl) (by kernel_rfl) (by kernel_rfl) (fun _ _ _ h => h) (Or.inl ⟨by kernel_rfl, fun w' hw => by (obtain ⟨_, z0, z1⟩ := hw; go_simp)⟩) hS2 ?_
  refine wpAnyH_take (i := 15) (v := (.int .i64 (c : Int))) rfl (by kernel_rfl) (by kernel_rfl) (by kernel_rfl) (fun _ _ _ h => h) (Or.inl ⟨by kernel_rfl, fun w' hw => by (obtain ⟨_, z0, z1⟩ := hw; go_simp)⟩) hS2 ?_
  refine wpAnyH_take (i := 16) (v := (.bool g)) rfl (by kernel_rfl) (by kernel_rfl) (by kernel_rfl) (fun _ _ _ h => h) (Or.inl ⟨by kernel_rfl, fun w' hw => by (obtain ⟨_, z0, z1⟩ := hw; go_simp)⟩) hS2 ?_
  refine wpAnyH_done (by kernel_rfl) ?_ _
  simp only [Act.put, List.getElem_toArray, List.getElem_cons_zero, List.getElem_cons_succ, List.setIfInBounds_toArray, List.set_cons_zero, List.set_cons_succ]
  have hrz := HH.out.below HZ.out
  have y1 := hrz.at
  have f1 := hrz.frz 1
  have HRZ := hide hrz
  clear hrz
  go_wp2_with (fail)
  go_end0
  have e1 : ((p : Int) - (c : Int)) = ((p - c : Nat) : Int) := by omega
  rw [e1]
  exact ⟨rfl, HRZ.out.set (p - c), (GrX.of_below HZ.out).trans (GrX.of_grown (grownX_set z b 1 _) (fun j hj => .inl (by cases hj; rfl)))⟩
end Go.Proofs.YtodooppapciegaaGreatDoor
