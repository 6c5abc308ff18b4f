/- Package seek: the statements' own pattern is compiled. -/
import Derived.Test.YtffolokaijdbfaaGreatDoorXReadW
import Derived.Test.YtffolokaijdbfaaGreatDoorXRunI
import Derived.Deep.RegionWith
namespace Go.Proofs.YtffolokaijdbfaaGreatDoor
open Go.RowKit Go.Shelf
set_option linter.unusedVariables false
set_option linter.unusedSimpArgs false

def itsW : List Kd := [(2, setP false false [btwP 97 99]), (4, setP false false [btwP 97 99]), (2, oneP false (46, true))]
set_option maxRecDepth 100000 in
set_option maxHeartbeats 4000000 in
theorem xcompile_works (w : World) :
    Calls Tryz.prog 5 #[.string sW] w fun e w' => ∃ pb D, e = .returned (.tuple #[.pointer (some ⟨pb, 0, none⟩), .nilIface]) ∧ PatL D itsW sW w' pb ∧ Below w.heap.size w w' := by
  have hB : Below w.heap.size w (w.alloc (.cells #[.string sW, .int .i64 0, .bool false, .slice none 0 0] 49)) := (Below.refl _ w).alloc (Nat.le_refl _) _
  have hr : Rx (w.alloc (.cells #[.string sW, .int .i64 0, .bool false, .slice none 0 0] 49)) w.heap.size sW 0 false (.slice none 0 0) := heap_alloc_new w _
  have kr := xread_works w.heap.size _ hr
  have KR := hide kr
  have HB := hide hB
  have hs8 : ((sW.size : Nat) : Int) = 8 := rfl
  clear hr kr hB
  go_enter Tryz.func5, Tryz.ntmps5
  go_upto_region 4 with (fail)
  generalize w.alloc (.cells #[.string sW, .int .i64 0, .bool false, .slice none 0 0] 49) = X at *
  go_wp2_with (go_at_call 15; refine (KR.out).mono ?_; rintro e x ⟨rfl, v, hR, hI, hG⟩; have HR := hide hR; have HI := hide hI; have HG := hide hG; clear hR hI hG KR)
  obtain ⟨va, vq, rfl⟩ := HI.out.shape
  have c3 := HR.out.items
  have mk : ∀ W : World, Below x.heap.size x W → (Below x.heap.size x W ∧ W.cell? ⟨w.heap.size, 3, none⟩ = some (.slice va 3 vq)) := fun W hW => ⟨hW, (HR.out.below hW).items⟩
  have MK := hide mk
  have kc := fun W => clone_any sW W (by rw [show sW.size = 8 from rfl]; decide)
  have KC := hide kc
  clear mk kc c3
  refine wp_region_held_drew (S := fun W => Below x.heap.size x W ∧ W.cell? ⟨w.heap.size, 3, none⟩ = some (.slice va 3 vq)) (by kernel_rfl) (MK.out _ (Below.refl _ x).drew) (fun hS => ?_)
  refine wpAnyH_take (i := 0) (v := (.string sW)) rfl (by kernel_rfl) (by kernel_rfl) (by kernel_rfl) (fun _ _ _ h => h) (Or.inl ⟨by kernel_rfl, fun w' hw => by (obtain ⟨_, z0⟩ := hw; go_simp)⟩) hS ?_
  refine wpAnyH_take (i := 2) (v := (.pointer (some ⟨w.heap.size, 3, none⟩))) rfl (by kernel_rfl) (by kernel_rfl) (by kernel_rfl) (fun _ _ _ h => h) (Or.inl ⟨by kernel_rfl, fun w' hw => by (obtain ⟨_, z0⟩ := hw; go_simp)⟩) hS ?_
  refine wpAnyH_take (i := 3) (v := (.slice va 3 vq)) rfl (by kernel_rfl) (by kernel_rfl) (by kernel_rfl) (fun _ _ _ h => h) (Or.inl ⟨by kernel_rfl, fun w' hw => by (obtain ⟨_, z0⟩ := hw; go_simp)⟩) hS ?_
  refine wpAnyH_ready (rs := [1]) (by kernel_rfl) (by simp) ?_
  refine AllReadyH.cons rfl (fun K hK => ?_) AllReadyH.nil
  rw [if_pos (by kernel_rfl)]
  go_simp
  go_wp2_with (go_at_call 16; refine (KC.out _).mono ?_; rintro e z ⟨rfl, hbz⟩; have HZ := hide (bseq (Below.refl _ x).drew hbz : Below x.heap.size x z); clear hbz)
  refine hK.out _ _ (MK.out _ HZ.out) (fun hS2 => ?_)
  clear hK K
  refine wpAnyH_take (i := 4) (v := (.agg #[.string sW, .slice va 3 vq, .bool true])) rfl (by kernel_rfl) (by kernel_rfl) (by kernel_rfl) (fun _ _ _ h => h) (Or.inl ⟨by kernel_rfl, fun w' hw => by (obtain ⟨_, z0⟩ := hw; go_simp)⟩) hS2 ?_
  refine wpAnyH_ready (rs := [5]) (by kernel_rfl) (by simp) ?_
  refine AllReadyH.cons rfl (fun K hK => ?_) AllReadyH.nil
  rw [if_pos (by kernel_rfl)]
  go_simp
  refine hK.out _ _ (MK.out _ (HZ.out.alloc HZ.out.size _)) (fun hS3 => ?_)
  clear hK K
  refine wpAnyH_take (i := 6) (v := (.pointer (some ⟨z.heap.size, 0, none⟩))) rfl (by kernel_rfl) (by kernel_rfl) (by kernel_rfl) (fun _ _ _ h => h) (Or.inl ⟨by kernel_rfl, fun w' hw => by (obtain ⟨_, z0⟩ := hw; go_simp)⟩) hS3 ?_
  refine wpAnyH_take (i := 7) (v := .nilIface) rfl (by kernel_rfl) (by kernel_rfl) (by kernel_rfl) (fun _ _ _ h => h) (Or.inl ⟨by kernel_rfl, fun w' hw => by (obtain ⟨_, z0⟩ := hw; go_simp)⟩) hS3 ?_
  refine wpAnyH_done (by kernel_rfl) ?_ _
  simp only [Act.put, List.getElem_toArray, List.getElem_cons_zero, List.getElem_cons_succ, List.setIfInBounds_toArray, List.set_cons_zero, List.set_cons_succ]
  go_wp2_with (fail)
  go_ret2
  have hbx : Below w.heap.size w x := HB.out.trans ⟨HG.out.1, HG.out.2.1, HG.out.2.2.1, HG.out.2.2.2.1, fun k hk => HG.out.2.2.2.2 k (Nat.lt_of_lt_of_le hk HB.out.size) (Nat.ne_of_lt hk)⟩
  have hza : Below x.heap.size x (z.alloc (.cells #[.string sW, .slice va 3 vq, .bool true] 51)) := HZ.out.alloc HZ.out.size _
  exact ⟨z.heap.size, _, rfl, ⟨_, heap_alloc_new z _, HI.out.keep (.of_below hza HI.out.1)⟩, hbx.trans (hza.mono hbx.size)⟩
end Go.Proofs.YtffolokaijdbfaaGreatDoor
