/- Package seek: what is of a kind itself, or once it is folded. -/
import Derived.Test.YtodooppapciegaaGreatDoorXPart5
import Derived.Deep.RegionHeld3
namespace Go.Proofs.YtodooppapciegaaGreatDoor
open Go.RowKit Go.Shelf
set_option linter.unusedVariables false

def fldP (P : Ch → Bool) (c : Ch) : Bool := P c || (c.2 && P (foldK c.1, true))
/-- What a call of folded's function finds in memory. -/
def FW (D : Nat → Prop) (w : World) (B : Nat) (v : Value) (b : Nat) (c0 : Int) (c1 : Bool) (X : World) : Prop :=
  X.heap[B]? = some (.cells #[v] 69 (0, 0)) ∧ X.heap[b]? = some (.cells #[.int .i32 c0, .bool c1] 71 (0, 0)) ∧ KeepD D w X ∧ Below w.heap.size w X
theorem FW.next {D : Nat → Prop} {w : World} {B : Nat} {v : Value} {b : Nat} {c0 : Int} {c1 : Bool} {X z : World} (hD : ∀ k, D k → k < w.heap.size) (h : FW D w B v b c0 c1 X) (hb : Below X.heap.size X z) : FW D w B v b c0 c1 z :=
  ⟨(hb.block B (Array.getElem?_eq_some_iff.1 h.1).1).trans h.1, (hb.block b (Array.getElem?_eq_some_iff.1 h.2.1).1).trans h.2.1, h.2.2.1.trans (.of_below hb fun k hk => Nat.lt_of_lt_of_le (hD k hk) h.2.2.1.1), bseq h.2.2.2 hb⟩
theorem FW.drew {D : Nat → Prop} {w : World} {B : Nat} {v : Value} {b : Nat} {c0 : Int} {c1 : Bool} {X : World} (h : FW D w B v b c0 c1 X) : FW D w B v b c0 c1 X.drew := ⟨h.1, h.2.1, h.2.2.1, h.2.2.2.drew⟩
set_option maxHeartbeats 1000000 in
theorem folded1_any (D : Nat → Prop) (B : Nat) (v : Value) (P : Ch → Bool) (c : Ch) (w : World) (h : w.heap[B]? = some (.cells #[v] 69 (0, 0))) (hp : PartV D w v P) :
    Calls Tryz.prog 84 #[chV c, .pointer (some ⟨B, 0, none⟩)] w fun e w' => e = .returned (.bool (fldP P c)) ∧ Below w.heap.size w w' := by
  obtain ⟨hD, f, lb, rfl, hen, hcl⟩ := hp
  obtain ⟨c0, c1⟩ := c
  have hb : Below w.heap.size w (w.alloc (.cells #[.int .i32 c0, .bool c1] 71)) := (Below.refl _ w).alloc (Nat.le_refl _) _
  have hx' := heap_alloc_new w (.cells #[.int .i32 c0, .bool c1] 71)
  have fw : FW D w B (.func (.func f) #[] lb) w.heap.size c0 c1 (w.alloc (.cells #[.int .i32 c0, .bool c1] 71)) :=
    ⟨(hb.block B (Array.getElem?_eq_some_iff.1 h).1).trans h, hx', .of_below hb hD, hb⟩
  have e0 := cel2 fw.1 0 (.func (.func f) #[] lb) rfl
  have x0 := cel2 hx' 0 (.int .i32 c0) rfl
  have x1 := cel2 hx' 1 (.bool c1) rfl
  have kf : ∀ W', KeepD D w W' → ∀ (a : Int) (b : Bool), Calls Tryz.prog f (#[.agg #[.int .i32 a, .bool b]] ++ lb) W' fun e w' => e = .returned (.bool (P (a, b))) ∧ Below W'.heap.size W' w' := fun W' hk a b => hcl W' hk (a, b)
  have KF := hide kf
  have FX := hide fw
  have HD := hide hD
  unfold chV fldP
  simp only
  clear h hb hx' hcl kf fw hD
  have mk : ∀ W : World, FW D w B (.func (.func f) #[] lb) w.heap.size c0 c1 W → (FW D w B (.func (.func f) #[] lb) w.heap.size c0 c1 W ∧ W.cell? ⟨B, 0, none⟩ = some (.func (.func f) #[] lb) ∧ W.cell? ⟨w.heap.size, 0, none⟩ = some (.int .i32 c0) ∧ W.cell? ⟨w.heap.size, 1, none⟩ = some (.bool c1)) := fun W h => ⟨h, cel2 h.1 0 _ rfl, cel2 h.2.1 0 _ rfl, cel2 h.2.1 1 _ rfl⟩
  have MK := hide mk
  clear mk
  cases hpc : P (c0, c1) with
  | true =>
    have HF := hide hpc
    clear hpc
    go_enter Tryz.func84, Tryz.ntmps84
    go_wp2_with (fail)
    generalize w.alloc (.cells #[.int .i32 c0, .bool c1] 71) = X at *
    refine wp_region_held_drew (S := fun W => FW D w B (.func (.func f) #[] lb) w.heap.size c0 c1 W ∧ W.cell? ⟨B, 0, none⟩ = some (.func (.func f) #[] lb) ∧ W.cell? ⟨w.heap.size, 0, none⟩ = some (.int .i32 c0) ∧ W.cell? ⟨w.heap.size, 1, none⟩ = some (.bool c1)) (by kernel_rfl) (MK.out _ FX.out.drew) (fun hS => ?_)
    refine wpAnyH_take (i := 0) (v := (.func (.func f) #[] lb)) rfl (by kernel_rfl) (by kernel_rfl) (by kernel_rfl) (fun _ _ _ h => h) (Or.inl ⟨by kernel_rfl, fun w' hw => by (obtain ⟨_, z0, z1, z2⟩ := hw; go_simp)⟩) hS ?_
    refine wpAnyH_take (i := 1) (v := (.agg #[.int .i32 c0, .bool c1])) rfl (by kernel_rfl) (by kernel_rfl) (by kernel_rfl) (fun _ _ _ h => h) (Or.inl ⟨by kernel_rfl, fun w' hw => by (obtain ⟨_, z0, z1, z2⟩ := hw; go_simp)⟩) hS ?_
    refine wpAnyH_ready (rs := [2]) (by kernel_rfl) (by simp) ?_
    refine AllReadyH.cons rfl (fun K hK => ?_) AllReadyH.nil
    rw [if_pos (by kernel_rfl)]
    go_simp
    go_wp2_with (refine (KF.out _ ?hk _ _).mono ?_; (case hk => exact FX.out.drew.2.2.1); rw [HF.out]; rintro e z ⟨rfl, hbz⟩; have FZ := hide (FX.out.drew.next HD.out hbz); clear hbz)
    refine hK.out _ _ (MK.out _ FZ.out) (fun hS2 => ?_)
    refine wpAnyH_take (i := 3) (v := (.bool true)) rfl (by kernel_rfl) (by kernel_rfl) (by kernel_rfl) (fun _ _ _ h => h) (Or.inl ⟨by kernel_rfl, fun w' hw => by (obtain ⟨_, z0, z1, z2⟩ := hw; go_simp)⟩) hS2 ?_
    refine wpAnyH_take (i := 4) (v := undef) rfl (by kernel_rfl) (by kernel_rfl) (by kernel_rfl) (fun _ _ _ h => h) (Or.inr ⟨by kernel_rfl, rfl⟩) hS2 ?_
    refine wpAnyH_take (i := 5) (v := undef) rfl (by kernel_rfl) (by kernel_rfl) (by kernel_rfl) (fun _ _ _ h => h) (Or.inr ⟨by kernel_rfl, rfl⟩) hS2 ?_
    refine wpAnyH_take (i := 6) (v := undef) rfl (by kernel_rfl) (by kernel_rfl) (by kernel_rfl) (fun _ _ _ h => h) (Or.inr ⟨by kernel_rfl, rfl⟩) hS2 ?_
    refine wpAnyH_take (i := 7) (v := undef) rfl (by kernel_rfl) (by kernel_rfl) (by kernel_rfl) (fun _ _ _ h => h) (Or.inr ⟨by kernel_rfl, rfl⟩) hS2 ?_
    refine wpAnyH_take (i := 8) (v := undef) rfl (by kernel_rfl) (by kernel_rfl) (by kernel_rfl) (fun _ _ _ h => h) (Or.inr ⟨by kernel_rfl, rfl⟩) hS2 ?_
    refine wpAnyH_take (i := 9) (v := undef) rfl (by kernel_rfl) (by kernel_rfl) (by kernel_rfl) (fun _ _ _ h => h) (Or.inr ⟨by kernel_rfl, rfl⟩) hS2 ?_
    refine wpAnyH_take (i := 10) (v := undef) rfl (by kernel_rfl) (by kernel_rfl) (by kernel_rfl) (fun _ _ _ h => h) (Or.inr ⟨by kernel_rfl, rfl⟩) hS2 ?_
    refine wpAnyH_take (i := 11) (v := undef) rfl (by kernel_rfl) (by kernel_rfl) (by kernel_rfl) (fun _ _ _ h => h) (Or.inr ⟨by kernel_rfl, rfl⟩) hS2 ?_
    refine wpAnyH_take (i := 12) (v := undef) rfl (by kernel_rfl) (by kernel_rfl) (by kernel_rfl) (fun _ _ _ h => h) (Or.inr ⟨by kernel_rfl, rfl⟩) hS2 ?_
    refine wpAnyH_take (i := 13) (v := undef) rfl (by kernel_rfl) (by kernel_rfl) (by kernel_rfl) (fun _ _ _ h => h) (Or.inr ⟨by kernel_rfl, rfl⟩) hS2 ?_
    refine wpAnyH_take (i := 14) (v := (.bool true)) rfl (by kernel_rfl) (by kernel_rfl) (by kernel_rfl) (fun _ _ _ h => h) (Or.inl ⟨by kernel_rfl, fun w' hw => by (obtain ⟨_, z0, z1, z2⟩ := hw; go_simp)⟩) hS2 ?_
    refine wpAnyH_take (i := 15) (v := (.bool true)) rfl (by kernel_rfl) (by kernel_rfl) (by kernel_rfl) (fun _ _ _ h => h) (Or.inl ⟨by kernel_rfl, fun w' hw => by (obtain ⟨_, z0, z1, z2⟩ := hw; go_simp)⟩) hS2 ?_
    refine wpAnyH_done (by kernel_rfl) ?_ _
    simp only [Act.put, List.getElem_toArray, List.getElem_cons_zero, List.getElem_cons_succ, List.setIfInBounds_toArray, List.set_cons_zero, List.set_cons_succ]
    go_wp2_with (fail)
    go_ret
    exact ⟨rfl, FZ.out.2.2.2⟩
  | false =>
    have HF := hide hpc
    clear hpc
    cases c1 with
    | false =>
      go_enter Tryz.func84, Tryz.ntmps84
      go_wp2_with (fail)
      generalize w.alloc (.cells #[.int .i32 c0, .bool false] 71) = X at *
      refine wp_region_held_drew (S := fun W => FW D w B (.func (.func f) #[] lb) w.heap.size c0 false W ∧ W.cell? ⟨B, 0, none⟩ = some (.func (.func f) #[] lb) ∧ W.cell? ⟨w.heap.size, 0, none⟩ = some (.int .i32 c0) ∧ W.cell? ⟨w.heap.size, 1, none⟩ = some (.bool false)) (by kernel_rfl) (MK.out _ FX.out.drew) (fun hS => ?_)
      refine wpAnyH_take (i := 0) (v := (.func (.func f) #[] lb)) rfl (by kernel_rfl) (by kernel_rfl) (by kernel_rfl) (fun _ _ _ h => h) (Or.inl ⟨by kernel_rfl, fun w' hw => by (obtain ⟨_, z0, z1, z2⟩ := hw; go_simp)⟩) hS ?_
      refine wpAnyH_take (i := 1) (v := (.agg #[.int .i32 c0, .bool false])) rfl (by kernel_rfl) (by kernel_rfl) (by kernel_rfl) (fun _ _ _ h => h) (Or.inl ⟨by kernel_rfl, fun w' hw => by (obtain ⟨_, z0, z1, z2⟩ := hw; go_simp)⟩) hS ?_
      refine wpAnyH_ready (rs := [2]) (by kernel_rfl) (by simp) ?_
      refine AllReadyH.cons rfl (fun K hK => ?_) AllReadyH.nil
      rw [if_pos (by kernel_rfl)]
      go_simp
      go_wp2_with (refine (KF.out _ ?hk _ _).mono ?_; (case hk => exact FX.out.drew.2.2.1); rw [HF.out]; rintro e z ⟨rfl, hbz⟩; have FZ := hide (FX.out.drew.next HD.out hbz); clear hbz)
      refine hK.out _ _ (MK.out _ FZ.out) (fun hS2 => ?_)
      refine wpAnyH_take (i := 3) (v := (.bool false)) rfl (by kernel_rfl) (by kernel_rfl) (by kernel_rfl) (fun _ _ _ h => h) (Or.inl ⟨by kernel_rfl, fun w' hw => by (obtain ⟨_, z0, z1, z2⟩ := hw; go_simp)⟩) hS2 ?_
      refine wpAnyH_take (i := 4) (v := (.pointer (some ⟨w.heap.size, 1, none⟩))) rfl (by kernel_rfl) (by kernel_rfl) (by kernel_rfl) (fun _ _ _ h => h) (Or.inl ⟨by kernel_rfl, fun w' hw => by (obtain ⟨_, z0, z1, z2⟩ := hw; go_simp)⟩) hS2 ?_
      refine wpAnyH_take (i := 5) (v := (.bool false)) rfl (by kernel_rfl) (by kernel_rfl) (by kernel_rfl) (fun _ _ _ h => h) (Or.inl ⟨by kernel_rfl, fun w' hw => by (obtain ⟨_, z0, z1, z2⟩ := hw; go_simp)⟩) hS2 ?_
      refine wpAnyH_take (i := 6) (v := (.bool false)) rfl (by kernel_rfl) (by kernel_rfl) (by kernel_rfl) (fun _ _ _ h => h) (Or.inl ⟨by kernel_rfl, fun w' hw => by (obtain ⟨_, z0, z1, z2⟩ := hw; go_simp)⟩) hS2 ?_
      refine wpAnyH_take (i := 7) (v := undef) rfl (by kernel_rfl) (by kernel_rfl) (by kernel_rfl) (fun _ _ _ h => h) (Or.inr ⟨by kernel_rfl, rfl⟩) hS2 ?_
      refine wpAnyH_take (i := 8) (v := undef) rfl (by kernel_rfl) (by kernel_rfl) (by kernel_rfl) (fun _ _ _ h => h) (Or.inr ⟨by kernel_rfl, rfl⟩) hS2 ?_
      refine wpAnyH_take (i := 9) (v := undef) rfl (by kernel_rfl) (by kernel_rfl) (by kernel_rfl) (fun _ _ _ h => h) (Or.inr ⟨by kernel_rfl, rfl⟩) hS2 ?_
      refine wpAnyH_take (i := 10) (v := undef) rfl (by kernel_rfl) (by kernel_rfl) (by kernel_rfl) (fun _ _ _ h => h) (Or.inr ⟨by kernel_rfl, rfl⟩) hS2 ?_
      refine wpAnyH_take (i := 11) (v := undef) rfl (by kernel_rfl) (by kernel_rfl) (by kernel_rfl) (fun _ _ _ h => h) (Or.inr ⟨by kernel_rfl, rfl⟩) hS2 ?_
      refine wpAnyH_take (i := 12) (v := undef) rfl (by kernel_rfl) (by kernel_rfl) (by kernel_rfl) (fun _ _ _ h => h) (Or.inr ⟨by kernel_rfl, rfl⟩) hS2 ?_
      refine wpAnyH_take (i := 13) (v := (.bool false)) rfl (by kernel_rfl) (by kernel_rfl) (by kernel_rfl) (fun _ _ _ h => h) (Or.inl ⟨by kernel_rfl, fun w' hw => by (obtain ⟨_, z0, z1, z2⟩ := hw; go_simp)⟩) hS2 ?_
      refine wpAnyH_take (i := 14) (v := (.bool false)) rfl (by kernel_rfl) (by kernel_rfl) (by kernel_rfl) (fun _ _ _ h => h) (Or.inl ⟨by kernel_rfl, fun w' hw => by (obtain ⟨_, z0, z1, z2⟩ := hw; go_simp)⟩) hS2 ?_
      refine wpAnyH_take (i := 15) (v := (.bool false)) rfl (by kernel_rfl) (by kernel_rfl) (by kernel_rfl) (fun _ _ _ h => h) (Or.inl ⟨by kernel_rfl, fun w' hw => by (obtain ⟨_, z0, z1, z2⟩ := hw; go_simp)⟩) hS2 ?_
      refine wpAnyH_done (by kernel_rfl) ?_ _
      simp only [Act.put, List.getElem_toArray, List.getElem_cons_zero, List.getElem_cons_succ, List.setIfInBounds_toArray, List.set_cons_zero, List.set_cons_succ]
      go_wp2_with (fail)
      go_ret
      exact ⟨rfl, FZ.out.2.2.2⟩
    | true =>
      go_enter Tryz.func84, Tryz.ntmps84
      go_wp2_with (fail)
      generalize w.alloc (.cells #[.int .i32 c0, .bool true] 71) = X at *
      refine wp_region_held_drew (S := fun W => FW D w B (.func (.func f) #[] lb) w.heap.size c0 true W ∧ W.cell? ⟨B, 0, none⟩ = some (.func (.func f) #[] lb) ∧ W.cell? ⟨w.heap.size, 0, none⟩ = some (.int .i32 c0) ∧ W.cell? ⟨w.heap.size, 1, none⟩ = some (.bool true)) (by kernel_rfl) (MK.out _ FX.out.drew) (fun hS => ?_)
      refine wpAnyH_take (i := 0) (v := (.func (.func f) #[] lb)) rfl (by kernel_rfl) (by kernel_rfl) (by kernel_rfl) (fun _ _ _ h => h) (Or.inl ⟨by kernel_rfl, fun w' hw => by (obtain ⟨_, z0, z1, z2⟩ := hw; go_simp)⟩) hS ?_
      refine wpAnyH_take (i := 1) (v := (.agg #[.int .i32 c0, .bool true])) rfl (by kernel_rfl) (by kernel_rfl) (by kernel_rfl) (fun _ _ _ h => h) (Or.inl ⟨by kernel_rfl, fun w' hw => by (obtain ⟨_, z0, z1, z2⟩ := hw; go_simp)⟩) hS ?_
      refine wpAnyH_ready (rs := [2]) (by kernel_rfl) (by simp) ?_
      refine AllReadyH.cons rfl (fun K hK => ?_) AllReadyH.nil
      rw [if_pos (by kernel_rfl)]
      go_simp
      go_wp2_with (refine (KF.out _ ?hk _ _).mono ?_; (case hk => exact FX.out.drew.2.2.1); rw [HF.out]; rintro e z ⟨rfl, hbz⟩; have FZ := hide (FX.out.drew.next HD.out hbz); clear hbz)
      refine hK.out _ _ (MK.out _ FZ.out) (fun hS2 => ?_)
      refine wpAnyH_take (i := 3) (v := (.bool false)) rfl (by kernel_rfl) (by kernel_rfl) (by kernel_rfl) (fun _ _ _ h => h) (Or.inl ⟨by kernel_rfl, fun w' hw => by (obtain ⟨_, z0, z1, z2⟩ := hw; go_simp)⟩) hS2 ?_
      refine wpAnyH_take (i := 4) (v := (.pointer (some ⟨w.heap.size, 1, none⟩))) rfl (by kernel_rfl) (by kernel_rfl) (by kernel_rfl) (fun _ _ _ h => h) (Or.inl ⟨by kernel_rfl, fun w' hw => by (obtain ⟨_, z0, z1, z2⟩ := hw; go_simp)⟩) hS2 ?_
      refine wpAnyH_take (i := 5) (v := (.bool true)) rfl (by kernel_rfl) (by kernel_rfl) (by kernel_rfl) (fun _ _ _ h => h) (Or.inl ⟨by kernel_rfl, fun w' hw => by (obtain ⟨_, z0, z1, z2⟩ := hw; go_simp)⟩) hS2 ?_
      refine wpAnyH_take (i := 6) (v := (.bool true)) rfl (by kernel_rfl) (by kernel_rfl) (by kernel_rfl) (fun _ _ _ h => h) (Or.inl ⟨by kernel_rfl, fun w' hw => by (obtain ⟨_, z0, z1, z2⟩ := hw; go_simp)⟩) hS2 ?_
      refine wpAnyH_take (i := 7) (v := (.func (.func f) #[] lb)) rfl (by kernel_rfl) (by kernel_rfl) (by kernel_rfl) (fun _ _ _ h => h) (Or.inl ⟨by kernel_rfl, fun w' hw => by (obtain ⟨_, z0, z1, z2⟩ := hw; go_simp)⟩) hS2 ?_
      refine wpAnyH_take (i := 8) (v := (.pointer (some ⟨w.heap.size, 0, none⟩))) rfl (by kernel_rfl) (by kernel_rfl) (by kernel_rfl) (fun _ _ _ h => h) (Or.inl ⟨by kernel_rfl, fun w' hw => by (obtain ⟨_, z0, z1, z2⟩ := hw; go_simp)⟩) hS2 ?_
      refine wpAnyH_take (i := 9) (v := (.int .i32 c0)) rfl (by kernel_rfl) (by kernel_rfl) (by kernel_rfl) (fun _ _ _ h => h) (Or.inl ⟨by kernel_rfl, fun w' hw => by (obtain ⟨_, z0, z1, z2⟩ := hw; go_simp)⟩) hS2 ?_
      refine wpAnyH_ready (rs := [10]) (by kernel_rfl) (by simp) ?_
      refine AllReadyH.cons rfl (fun K hK => ?_) AllReadyH.nil
      rw [if_pos (by kernel_rfl)]
      go_simp
      go_wp2_with (go_at_call 71; refine (fold_any _ _).mono ?_; rintro e u ⟨rfl, rfl⟩)
      refine hK.out _ _ (MK.out _ FZ.out) (fun hS3 => ?_)
      refine wpAnyH_take (i := 11) (v := (.agg #[.int .i32 (foldK c0), .bool true])) rfl (by kernel_rfl) (by kernel_rfl) (by kernel_rfl) (fun _ _ _ h => h) (Or.inl ⟨by kernel_rfl, fun w' hw => by (obtain ⟨_, z0, z1, z2⟩ := hw; go_simp)⟩) hS3 ?_
      refine wpAnyH_ready (rs := [12]) (by kernel_rfl) (by simp) ?_
      refine AllReadyH.cons rfl (fun K hK => ?_) AllReadyH.nil
      rw [if_pos (by kernel_rfl)]
      go_simp
      go_wp2_with (refine (KF.out _ ?hk _ _).mono ?_; (case hk => exact FZ.out.2.2.1); rintro e y ⟨rfl, hby⟩; have FY := hide (FZ.out.next HD.out hby); clear hby)
      refine hK.out _ _ (MK.out _ FY.out) (fun hS4 => ?_)
      refine wpAnyH_take (i := 13) (v := (.bool (P (foldK c0, true)))) rfl (by kernel_rfl) (by kernel_rfl) (by kernel_rfl) (fun _ _ _ h => h) (Or.inl ⟨by kernel_rfl, fun w' hw => by (obtain ⟨_, z0, z1, z2⟩ := hw; go_simp)⟩) hS4 ?_
      refine wpAnyH_take (i := 14) (v := (.bool (P (foldK c0, true)))) rfl (by kernel_rfl) (by kernel_rfl) (by kernel_rfl) (fun _ _ _ h => h) (Or.inl ⟨by kernel_rfl, fun w' hw => by (obtain ⟨_, z0, z1, z2⟩ := hw; go_simp)⟩) hS4 ?_
      refine wpAnyH_take (i := 15) (v := (.bool (P (foldK c0, true)))) rfl (by kernel_rfl) (by kernel_rfl) (by kernel_rfl) (fun _ _ _ h => h) (Or.inl ⟨by kernel_rfl, fun w' hw => by (obtain ⟨_, z0, z1, z2⟩ := hw; go_simp)⟩) hS4 ?_
      refine wpAnyH_done (by kernel_rfl) ?_ _
      simp only [Act.put, List.getElem_toArray, List.getElem_cons_zero, List.getElem_cons_succ, List.setIfInBounds_toArray, List.set_cons_zero, List.set_cons_succ]
      go_wp2_with (fail)
      go_ret
      exact ⟨rfl, FY.out.2.2.2⟩
set_option maxHeartbeats 1000000 in
theorem folded_any (D : Nat → Prop) (v : Value) (P : Ch → Bool) (w : World) (hp : PartV D w v P) :
    Calls Tryz.prog 75 #[v] w fun e w' => ∃ u, e = .returned u ∧ PartV (fun k => D k ∨ k = w.heap.size) w' u (fldP P) ∧ Below w.heap.size w w' := by
  have hb : Below w.heap.size w (w.alloc (.cells #[v] 69)) := (Below.refl _ w).alloc (Nat.le_refl _) _
  have hpp : PartV (fun k => D k ∨ k = w.heap.size) (w.alloc (.cells #[v] 69)) (.func (.func 84) #[] #[.pointer (some ⟨w.heap.size, 0, none⟩)]) (fldP P) :=
    ⟨fun k hk => by rcases hk with hk | hk; · have := hp.1 k hk; simp; omega
                    · rw [hk]; simp, 84, #[.pointer (some ⟨w.heap.size, 0, none⟩)], rfl, enters_of Tryz.func84 (by kernel_rfl) rfl, fun W' hB c => folded1_any D w.heap.size v P c W' ((hB.2 _ (.inr rfl)).trans (heap_alloc_new w _)) (hp.keep ((KeepD.of_below hb hp.1).trans (hB.sub fun k hk => .inl hk)))⟩
  obtain ⟨hD, f, lb, rfl, hen, hcl⟩ := hp
  have HP := hide hpp
  have HB := hide hb
  clear hpp hb hen hcl
  go_enter Tryz.func75, Tryz.ntmps75
  go_wp2_with (fail)
  go_ret
  exact ⟨_, rfl, HP.out, HB.out⟩
end Go.Proofs.YtodooppapciegaaGreatDoor
