/- PersistLasts answers true for all ranges with steps before and behind them, of a bulk up to 1048576: what was made to last is there behind a loss of power, whatever lines keep. -/
import Derived.Test.YtneknpkocjnmjaaQBad
import Derived.Test.YtneknpkocjnmjaaQPut32
import Derived.Test.YtneknpkocjnmjaaQBy2
import Derived.Test.YtneknpkocjnmjaaPSt
import Derived.Test.YtneknpkocjnmjaaPEvM
import Derived.Test.YtneknpkocjnmjaaPMap
import Derived.Test.YtneknpkocjnmjaaBase
import Derived.Laws.BitsAllLaws
import Derived.Test.YtneknpkocjnmjaaEq
import Derived.Test.YtneknpkocjnmjaaPut
import Derived.Maps.AppendAt
import Derived.Laws.AppendOwnNone
import Derived.Test.YtneknpkocjnmjaaPWby
import Derived.Test.YtneknpkocjnmjaaROpen
import Derived.Deep.Cut
namespace Go.Proofs.Ytneknpkocjnmjaa
open Go.RowKit Go.Shelf
set_option linter.unusedVariables false

theorem qfbytes16 (x : Int) (v : Nat) (w : World) (hv : v < 65536) : Calls Try.prog 34 #[.agg #[.int .i64 x], .int .u16 (v : Int)] w fun e w' => ∃ g, e = .returned (.slice (some ⟨g, 0, none⟩) 2 2) ∧ w.heap.size ≤ g ∧ OwnB w' g (leB 2 v) ∧ Below w.heap.size w w' := by
  have kp : ∀ W, Calls Try.prog 47 #[.slice none 0 0, .int .u16 (v : Int)] W fun e w' => e = .returned (.slice (some ⟨W.heap.size, 0, none⟩) 2 2) ∧ Below W.heap.size W w' ∧ OwnB w' W.heap.size (leB 2 v) := fun W => put16 none 0 v [] W (.inl rfl) (by simp) hv
  have KP := hide kp
  have hA : Below w.heap.size w (w.alloc (.cells #[.int .i64 x] 58)) := (Below.refl _ w).alloc (Nat.le_refl _) _
  have HA := hide hA
  clear kp hA
  go_enter Try.func34, Try.ntmps34
  go_wp2_with (go_at_call 47; refine (KP.out _).mono ?_; rintro e W1 ⟨rfl, hb1, ho1⟩; have HB1 := hide hb1; have HO1 := hide ho1; clear hb1 ho1)
  go_ret
  exact ⟨w.heap.size + 1, rfl, by omega, (by have h := HO1.out; rwa [World.size_alloc] at h), HA.out.trans (HB1.out.mono HA.out.size)⟩
set_option maxHeartbeats 400000 in
theorem qbfload16 {w : World} {p : Option Addr} {c : Int} (h : BadD w (.pointer p) c) (x : Int) : Calls Try.prog 18 #[.agg #[.int .i64 x], .pointer p] w fun e w' => e = .returned (.tuple #[.int .u16 0, .int .i64 c]) ∧ Below w.heap.size w w' := by
  have hA : Below w.heap.size w (w.alloc (.cells #[.int .i64 x] 58)) := (Below.refl _ w).alloc (Nat.le_refl _) _
  have mk : ∀ X, Below (w.alloc (.cells #[.int .i64 x] 58)).heap.size (w.alloc (.cells #[.int .i64 x] 58)) X → Below (w.alloc (.cells #[.int .i64 x] 58)).heap.size (w.alloc (.cells #[.int .i64 x] 58)) X ∧ X.cell? ⟨w.heap.size, 0, none⟩ = some (.int .i64 x) := fun X hX => ⟨hX, cell8 ((hX.block _ (by simp)).trans (heap_alloc_new w _)) 0⟩
  have HA := hide hA
  have MK := hide mk
  clear hA mk
  have HBAD := hide h
  have hc : (c != 0) = true := by simpa using h.1
  clear h
  go_enter Try.func18, Try.ntmps18
  go_wp2_with (fail)
  refine wp_region_held_drew (S := fun X => Below (w.alloc (.cells #[.int .i64 x] 58)).heap.size (w.alloc (.cells #[.int .i64 x] 58)) X ∧ X.cell? ⟨w.heap.size, 0, none⟩ = some (.int .i64 x)) (by kernel_rfl) (MK.out _ (Below.refl _ _).drew) (fun hS => ?_)
  refine wpAnyH_take (i := 0) (v := (.pointer p)) rfl (by kernel_rfl) (by kernel_rfl) (by kernel_rfl) (fun _ _ _ h => h) (Or.inl ⟨by kernel_rfl, fun w' hw => by (go_simp)⟩) hS ?_
  refine wpAnyH_take (i := 1) (v := (.pointer (some ⟨w.heap.size, 0, none⟩))) rfl (by kernel_rfl) (by kernel_rfl) (by kernel_rfl) (fun _ _ _ h => h) (Or.inl ⟨by kernel_rfl, fun w' hw => by (go_simp)⟩) hS ?_
  refine wpAnyH_take (i := 2) (v := (.int .i64 x)) rfl (by kernel_rfl) (by kernel_rfl) (by kernel_rfl) (fun _ _ _ h => h) (Or.inl ⟨by kernel_rfl, fun w' hw => by (obtain ⟨_, z0⟩ := hw; go_simp)⟩) hS ?_
  refine wpAnyH_take (i := 3) (v := (.agg #[.int .i64 x])) rfl (by kernel_rfl) (by kernel_rfl) (by kernel_rfl) (fun _ _ _ h => h) (Or.inl ⟨by kernel_rfl, fun w' hw => by (obtain ⟨_, z0⟩ := hw; go_simp)⟩) hS ?_
  refine wpAnyH_ready (rs := [4]) (by kernel_rfl) (by simp) ?_
  refine AllReadyH.cons rfl (fun K hK => ?_) AllReadyH.nil
  rw [if_pos (by kernel_rfl)]
  go_simp
  go_wp2_with (go_at_call 34; refine (qfbytes16 x 0 _ (by omega)).mono ?_; rintro e W3 ⟨g, rfl, _, _, hb3⟩)
  have hw3 := bseq (Below.refl _ (w.alloc (.cells #[.int .i64 x] 58))).drew hb3
  refine hK.out _ _ (MK.out _ hw3) (fun hS2 => ?_)
  clear hK K hb3
  refine wpAnyH_take (i := 5) (v := (.int .i64 2)) rfl (by kernel_rfl) (by kernel_rfl) (by kernel_rfl) (fun _ _ _ h => h) (Or.inl ⟨by kernel_rfl, fun w' hw => by (go_simp)⟩) hS2 ?_
  refine wpAnyH_ready (rs := [6]) (by kernel_rfl) (by simp) ?_
  refine AllReadyH.cons rfl (fun K hK => ?_) AllReadyH.nil
  rw [if_pos (by kernel_rfl)]
  go_simp
  go_wp2_with (go_at_call 12; refine (bad_load (HBAD.out.below (HA.out.trans (hw3.mono HA.out.size))) x 2).mono ?_; rintro e W4 ⟨rfl, hb4⟩)
  have hw4 := bseq hw3 hb4
  refine hK.out _ _ (MK.out _ hw4) (fun hS3 => ?_)
  clear hK K hb4
  refine wpAnyH_take (i := 7) (v := (.tuple #[(.slice none 0 0), .int .i64 c])) rfl (by kernel_rfl) (by kernel_rfl) (by kernel_rfl) (fun _ _ _ h => h) (Or.inl ⟨by kernel_rfl, fun w' hw => by (go_simp)⟩) hS3 ?_
  refine wpAnyH_take (i := 8) (v := (.slice none 0 0)) rfl (by kernel_rfl) (by kernel_rfl) (by kernel_rfl) (fun _ _ _ h => h) (Or.inl ⟨by kernel_rfl, fun w' hw => by (go_simp)⟩) hS3 ?_
  refine wpAnyH_take (i := 9) (v := (.int .i64 c)) rfl (by kernel_rfl) (by kernel_rfl) (by kernel_rfl) (fun _ _ _ h => h) (Or.inl ⟨by kernel_rfl, fun w' hw => by (go_simp)⟩) hS3 ?_
  refine wpAnyH_take (i := 10) (v := (.slice none 0 0)) rfl (by kernel_rfl) (by kernel_rfl) (by kernel_rfl) (fun _ _ _ h => h) (Or.inl ⟨by kernel_rfl, fun w' hw => by (go_simp)⟩) hS3 ?_
  refine wpAnyH_take (i := 11) (v := (.int .i64 c)) rfl (by kernel_rfl) (by kernel_rfl) (by kernel_rfl) (fun _ _ _ h => h) (Or.inl ⟨by kernel_rfl, fun w' hw => by (go_simp)⟩) hS3 ?_
  refine wpAnyH_done (by kernel_rfl) ?_ _
  simp only [Act.put, List.getElem_toArray, List.getElem_cons_zero, List.getElem_cons_succ, List.setIfInBounds_toArray, List.set_cons_zero, List.set_cons_succ]
  have HW4 := hide (HA.out.trans (hw4.mono HA.out.size))
  clear hw3 hw4 hS hS2 hS3
  go_wp2_with (fail)
  go_ret2
  exact ⟨rfl, HW4.out⟩
set_option maxHeartbeats 400000 in
theorem qfload16 {w : World} {p : Option Addr} (x : Int) (bs : List Nat) (hl : bs.length = 2) (hbs : ∀ y ∈ bs, y < 256) (kl : ∀ W, Below w.heap.size w W → Calls Try.prog 12 #[.pointer p, .int .i64 x, .int .i64 2] W fun e w' => ∃ R, e = .returned (.tuple #[.slice (some ⟨R, 0, none⟩) 2 2, .int .i64 0]) ∧ OwnB w' R bs ∧ Below W.heap.size W w') : Calls Try.prog 18 #[.agg #[.int .i64 x], .pointer p] w fun e w' => e = .returned (.tuple #[.int .u16 (leV bs : Nat), .int .i64 0]) ∧ Below w.heap.size w w' := by
  have hA : Below w.heap.size w (w.alloc (.cells #[.int .i64 x] 58)) := (Below.refl _ w).alloc (Nat.le_refl _) _
  have mk : ∀ X, Below (w.alloc (.cells #[.int .i64 x] 58)).heap.size (w.alloc (.cells #[.int .i64 x] 58)) X → Below (w.alloc (.cells #[.int .i64 x] 58)).heap.size (w.alloc (.cells #[.int .i64 x] 58)) X ∧ X.cell? ⟨w.heap.size, 0, none⟩ = some (.int .i64 x) := fun X hX => ⟨hX, cell8 ((hX.block _ (by simp)).trans (heap_alloc_new w _)) 0⟩
  have HA := hide hA
  have MK := hide mk
  clear hA mk
  have KL := hide kl
  have HLN := hide hl
  have HBS := hide hbs
  clear kl hl hbs
  go_enter Try.func18, Try.ntmps18
  go_wp2_with (fail)
  refine wp_region_held_drew (S := fun X => Below (w.alloc (.cells #[.int .i64 x] 58)).heap.size (w.alloc (.cells #[.int .i64 x] 58)) X ∧ X.cell? ⟨w.heap.size, 0, none⟩ = some (.int .i64 x)) (by kernel_rfl) (MK.out _ (Below.refl _ _).drew) (fun hS => ?_)
  refine wpAnyH_take (i := 0) (v := (.pointer p)) rfl (by kernel_rfl) (by kernel_rfl) (by kernel_rfl) (fun _ _ _ h => h) (Or.inl ⟨by kernel_rfl, fun w' hw => by (go_simp)⟩) hS ?_
  refine wpAnyH_take (i := 1) (v := (.pointer (some ⟨w.heap.size, 0, none⟩))) rfl (by kernel_rfl) (by kernel_rfl) (by kernel_rfl) (fun _ _ _ h => h) (Or.inl ⟨by kernel_rfl, fun w' hw => by (go_simp)⟩) hS ?_
  refine wpAnyH_take (i := 2) (v := (.int .i64 x)) rfl (by kernel_rfl) (by kernel_rfl) (by kernel_rfl) (fun _ _ _ h => h) (Or.inl ⟨by kernel_rfl, fun w' hw => by (obtain ⟨_, z0⟩ := hw; go_simp)⟩) hS ?_
  refine wpAnyH_take (i := 3) (v := (.agg #[.int .i64 x])) rfl (by kernel_rfl) (by kernel_rfl) (by kernel_rfl) (fun _ _ _ h => h) (Or.inl ⟨by kernel_rfl, fun w' hw => by (obtain ⟨_, z0⟩ := hw; go_simp)⟩) hS ?_
  refine wpAnyH_ready (rs := [4]) (by kernel_rfl) (by simp) ?_
  refine AllReadyH.cons rfl (fun K hK => ?_) AllReadyH.nil
  rw [if_pos (by kernel_rfl)]
  go_simp
  go_wp2_with (go_at_call 34; refine (qfbytes16 x 0 _ (by omega)).mono ?_; rintro e W3 ⟨g, rfl, _, _, hb3⟩)
  have hw3 := bseq (Below.refl _ (w.alloc (.cells #[.int .i64 x] 58))).drew hb3
  refine hK.out _ _ (MK.out _ hw3) (fun hS2 => ?_)
  clear hK K hb3
  refine wpAnyH_take (i := 5) (v := (.int .i64 2)) rfl (by kernel_rfl) (by kernel_rfl) (by kernel_rfl) (fun _ _ _ h => h) (Or.inl ⟨by kernel_rfl, fun w' hw => by (go_simp)⟩) hS2 ?_
  refine wpAnyH_ready (rs := [6]) (by kernel_rfl) (by simp) ?_
  refine AllReadyH.cons rfl (fun K hK => ?_) AllReadyH.nil
  rw [if_pos (by kernel_rfl)]
  go_simp
  go_wp2_with (go_at_call 12; refine (KL.out W3 (HA.out.trans (hw3.mono HA.out.size))).mono ?_; rintro e W4 ⟨R, rfl, hR, hb4⟩)
  have hw4 := bseq hw3 hb4
  refine hK.out _ _ (MK.out _ hw4) (fun hS3 => ?_)
  clear hK K hb4
  refine wpAnyH_take (i := 7) (v := (.tuple #[(.slice (some ⟨R, 0, none⟩) 2 2), .int .i64 0])) rfl (by kernel_rfl) (by kernel_rfl) (by kernel_rfl) (fun _ _ _ h => h) (Or.inl ⟨by kernel_rfl, fun w' hw => by (go_simp)⟩) hS3 ?_
  refine wpAnyH_take (i := 8) (v := (.slice (some ⟨R, 0, none⟩) 2 2)) rfl (by kernel_rfl) (by kernel_rfl) (by kernel_rfl) (fun _ _ _ h => h) (Or.inl ⟨by kernel_rfl, fun w' hw => by (go_simp)⟩) hS3 ?_
  refine wpAnyH_take (i := 9) (v := (.int .i64 0)) rfl (by kernel_rfl) (by kernel_rfl) (by kernel_rfl) (fun _ _ _ h => h) (Or.inl ⟨by kernel_rfl, fun w' hw => by (go_simp)⟩) hS3 ?_
  refine wpAnyH_take (i := 10) (v := (.slice (some ⟨R, 0, none⟩) 2 2)) rfl (by kernel_rfl) (by kernel_rfl) (by kernel_rfl) (fun _ _ _ h => h) (Or.inl ⟨by kernel_rfl, fun w' hw => by (go_simp)⟩) hS3 ?_
  refine wpAnyH_take (i := 11) (v := (.int .i64 0)) rfl (by kernel_rfl) (by kernel_rfl) (by kernel_rfl) (fun _ _ _ h => h) (Or.inl ⟨by kernel_rfl, fun w' hw => by (go_simp)⟩) hS3 ?_
  refine wpAnyH_done (by kernel_rfl) ?_ _
  simp only [Act.put, List.getElem_toArray, List.getElem_cons_zero, List.getElem_cons_succ, List.setIfInBounds_toArray, List.set_cons_zero, List.set_cons_succ]
  have HW4 := hide (HA.out.trans (hw4.mono HA.out.size))
  clear hw3 hw4 hS hS2 hS3
  have kt := take16_good (some ⟨R, 0, none⟩) 2 0 bs W4 (hR.sl HBS.out) (by rw [HLN.out]; unfold maxLen; omega) (by rw [HLN.out]; omega)
  rw [HLN.out, List.drop_zero, List.take_of_length_le (by rw [HLN.out]; omega)] at kt
  have KT := hide kt
  clear kt hR
  go_wp2_with (go_at_call 35; refine (KT.out).mono ?_; rintro e w1 ⟨rfl, hw⟩; obtain rfl := hw.symm)
  go_ret2
  exact ⟨rfl, HW4.out⟩
theorem qfbytes64 (x : Int) (v : Nat) (w : World) (hv : v < 18446744073709551616) : Calls Try.prog 45 #[.agg #[.int .i64 x], .int .u64 (v : Int)] w fun e w' => ∃ g, e = .returned (.slice (some ⟨g, 0, none⟩) 8 8) ∧ w.heap.size ≤ g ∧ OwnB w' g (leB 8 v) ∧ Below w.heap.size w w' := by
  have kp : ∀ W, Calls Try.prog 54 #[.slice none 0 0, .int .u64 (v : Int)] W fun e w' => e = .returned (.slice (some ⟨W.heap.size, 0, none⟩) 8 8) ∧ Below W.heap.size W w' ∧ OwnB w' W.heap.size (leB 8 v) := fun W => put64 none 0 v [] W (.inl rfl) (by simp) hv
  have KP := hide kp
  have hA : Below w.heap.size w (w.alloc (.cells #[.int .i64 x] 81)) := (Below.refl _ w).alloc (Nat.le_refl _) _
  have HA := hide hA
  clear kp hA
  go_enter Try.func45, Try.ntmps45
  go_wp2_with (go_at_call 54; refine (KP.out _).mono ?_; rintro e W1 ⟨rfl, hb1, ho1⟩; have HB1 := hide hb1; have HO1 := hide ho1; clear hb1 ho1)
  go_ret
  exact ⟨w.heap.size + 1, rfl, by omega, (by have h := HO1.out; rwa [World.size_alloc] at h), HA.out.trans (HB1.out.mono HA.out.size)⟩
set_option maxHeartbeats 400000 in
theorem qbfload64 {w : World} {p : Option Addr} {c : Int} (h : BadD w (.pointer p) c) (x : Int) : Calls Try.prog 33 #[.agg #[.int .i64 x], .pointer p] w fun e w' => e = .returned (.tuple #[.int .u64 0, .int .i64 c]) ∧ Below w.heap.size w w' := by
  have hA : Below w.heap.size w (w.alloc (.cells #[.int .i64 x] 81)) := (Below.refl _ w).alloc (Nat.le_refl _) _
  have mk : ∀ X, Below (w.alloc (.cells #[.int .i64 x] 81)).heap.size (w.alloc (.cells #[.int .i64 x] 81)) X → Below (w.alloc (.cells #[.int .i64 x] 81)).heap.size (w.alloc (.cells #[.int .i64 x] 81)) X ∧ X.cell? ⟨w.heap.size, 0, none⟩ = some (.int .i64 x) := fun X hX => ⟨hX, cell8 ((hX.block _ (by simp)).trans (heap_alloc_new w _)) 0⟩
  have HA := hide hA
  have MK := hide mk
  clear hA mk
  have HBAD := hide h
  have hc : (c != 0) = true := by simpa using h.1
  clear h
  go_enter Try.func33, Try.ntmps33
  go_wp2_with (fail)
  refine wp_region_held_drew (S := fun X => Below (w.alloc (.cells #[.int .i64 x] 81)).heap.size (w.alloc (.cells #[.int .i64 x] 81)) X ∧ X.cell? ⟨w.heap.size, 0, none⟩ = some (.int .i64 x)) (by kernel_rfl) (MK.out _ (Below.refl _ _).drew) (fun hS => ?_)
  refine wpAnyH_take (i := 0) (v := (.pointer p)) rfl (by kernel_rfl) (by kernel_rfl) (by kernel_rfl) (fun _ _ _ h => h) (Or.inl ⟨by kernel_rfl, fun w' hw => by (go_simp)⟩) hS ?_
  refine wpAnyH_take (i := 1) (v := (.pointer (some ⟨w.heap.size, 0, none⟩))) rfl (by kernel_rfl) (by kernel_rfl) (by kernel_rfl) (fun _ _ _ h => h) (Or.inl ⟨by kernel_rfl, fun w' hw => by (go_simp)⟩) hS ?_
  refine wpAnyH_take (i := 2) (v := (.int .i64 x)) rfl (by kernel_rfl) (by kernel_rfl) (by kernel_rfl) (fun _ _ _ h => h) (Or.inl ⟨by kernel_rfl, fun w' hw => by (obtain ⟨_, z0⟩ := hw; go_simp)⟩) hS ?_
  refine wpAnyH_take (i := 3) (v := (.agg #[.int .i64 x])) rfl (by kernel_rfl) (by kernel_rfl) (by kernel_rfl) (fun _ _ _ h => h) (Or.inl ⟨by kernel_rfl, fun w' hw => by (obtain ⟨_, z0⟩ := hw; go_simp)⟩) hS ?_
  refine wpAnyH_ready (rs := [4]) (by kernel_rfl) (by simp) ?_
  refine AllReadyH.cons rfl (fun K hK => ?_) AllReadyH.nil
  rw [if_pos (by kernel_rfl)]
  go_simp
  go_wp2_with (go_at_call 45; refine (qfbytes64 x 0 _ (by omega)).mono ?_; rintro e W3 ⟨g, rfl, _, _, hb3⟩)
  have hw3 := bseq (Below.refl _ (w.alloc (.cells #[.int .i64 x] 81))).drew hb3
  refine hK.out _ _ (MK.out _ hw3) (fun hS2 => ?_)
  clear hK K hb3
  refine wpAnyH_take (i := 5) (v := (.int .i64 8)) rfl (by kernel_rfl) (by kernel_rfl) (by kernel_rfl) (fun _ _ _ h => h) (Or.inl ⟨by kernel_rfl, fun w' hw => by (go_simp)⟩) hS2 ?_
  refine wpAnyH_ready (rs := [6]) (by kernel_rfl) (by simp) ?_
  refine AllReadyH.cons rfl (fun K hK => ?_) AllReadyH.nil
  rw [if_pos (by kernel_rfl)]
  go_simp
  go_wp2_with (go_at_call 12; refine (bad_load (HBAD.out.below (HA.out.trans (hw3.mono HA.out.size))) x 8).mono ?_; rintro e W4 ⟨rfl, hb4⟩)
  have hw4 := bseq hw3 hb4
  refine hK.out _ _ (MK.out _ hw4) (fun hS3 => ?_)
  clear hK K hb4
  refine wpAnyH_take (i := 7) (v := (.tuple #[(.slice none 0 0), .int .i64 c])) rfl (by kernel_rfl) (by kernel_rfl) (by kernel_rfl) (fun _ _ _ h => h) (Or.inl ⟨by kernel_rfl, fun w' hw => by (go_simp)⟩) hS3 ?_
  refine wpAnyH_take (i := 8) (v := (.slice none 0 0)) rfl (by kernel_rfl) (by kernel_rfl) (by kernel_rfl) (fun _ _ _ h => h) (Or.inl ⟨by kernel_rfl, fun w' hw => by (go_simp)⟩) hS3 ?_
  refine wpAnyH_take (i := 9) (v := (.int .i64 c)) rfl (by kernel_rfl) (by kernel_rfl) (by kernel_rfl) (fun _ _ _ h => h) (Or.inl ⟨by kernel_rfl, fun w' hw => by (go_simp)⟩) hS3 ?_
  refine wpAnyH_take (i := 10) (v := (.slice none 0 0)) rfl (by kernel_rfl) (by kernel_rfl) (by kernel_rfl) (fun _ _ _ h => h) (Or.inl ⟨by kernel_rfl, fun w' hw => by (go_simp)⟩) hS3 ?_
  refine wpAnyH_take (i := 11) (v := (.int .i64 c)) rfl (by kernel_rfl) (by kernel_rfl) (by kernel_rfl) (fun _ _ _ h => h) (Or.inl ⟨by kernel_rfl, fun w' hw => by (go_simp)⟩) hS3 ?_
  refine wpAnyH_done (by kernel_rfl) ?_ _
  simp only [Act.put, List.getElem_toArray, List.getElem_cons_zero, List.getElem_cons_succ, List.setIfInBounds_toArray, List.set_cons_zero, List.set_cons_succ]
  have HW4 := hide (HA.out.trans (hw4.mono HA.out.size))
  clear hw3 hw4 hS hS2 hS3
  go_wp2_with (fail)
  go_ret2
  exact ⟨rfl, HW4.out⟩
set_option maxHeartbeats 400000 in
theorem qfload64 {w : World} {p : Option Addr} (x : Int) (bs : List Nat) (hl : bs.length = 8) (hbs : ∀ y ∈ bs, y < 256) (kl : ∀ W, Below w.heap.size w W → Calls Try.prog 12 #[.pointer p, .int .i64 x, .int .i64 8] W fun e w' => ∃ R, e = .returned (.tuple #[.slice (some ⟨R, 0, none⟩) 8 8, .int .i64 0]) ∧ OwnB w' R bs ∧ Below W.heap.size W w') : Calls Try.prog 33 #[.agg #[.int .i64 x], .pointer p] w fun e w' => e = .returned (.tuple #[.int .u64 (leV bs : Nat), .int .i64 0]) ∧ Below w.heap.size w w' := by
  have hA : Below w.heap.size w (w.alloc (.cells #[.int .i64 x] 81)) := (Below.refl _ w).alloc (Nat.le_refl _) _
  have mk : ∀ X, Below (w.alloc (.cells #[.int .i64 x] 81)).heap.size (w.alloc (.cells #[.int .i64 x] 81)) X → Below (w.alloc (.cells #[.int .i64 x] 81)).heap.size (w.alloc (.cells #[.int .i64 x] 81)) X ∧ X.cell? ⟨w.heap.size, 0, none⟩ = some (.int .i64 x) := fun X hX => ⟨hX, cell8 ((hX.block _ (by simp)).trans (heap_alloc_new w _)) 0⟩
  have HA := hide hA
  have MK := hide mk
  clear hA mk
  have KL := hide kl
  have HLN := hide hl
  have HBS := hide hbs
  clear kl hl hbs
  go_enter Try.func33, Try.ntmps33
  go_wp2_with (fail)
  refine wp_region_held_drew (S := fun X => Below (w.alloc (.cells #[.int .i64 x] 81)).heap.size (w.alloc (.cells #[.int .i64 x] 81)) X ∧ X.cell? ⟨w.heap.size, 0, none⟩ = some (.int .i64 x)) (by kernel_rfl) (MK.out _ (Below.refl _ _).drew) (fun hS => ?_)
  refine wpAnyH_take (i := 0) (v := (.pointer p)) rfl (by kernel_rfl) (by kernel_rfl) (by kernel_rfl) (fun _ _ _ h => h) (Or.inl ⟨by kernel_rfl, fun w' hw => by (go_simp)⟩) hS ?_
  refine wpAnyH_take (i := 1) (v := (.pointer (some ⟨w.heap.size, 0, none⟩))) rfl (by kernel_rfl) (by kernel_rfl) (by kernel_rfl) (fun _ _ _ h => h) (Or.inl ⟨by kernel_rfl, fun w' hw => by (go_simp)⟩) hS ?_
  refine wpAnyH_take (i := 2) (v := (.int .i64 x)) rfl (by kernel_rfl) (by kernel_rfl) (by kernel_rfl) (fun _ _ _ h => h) (Or.inl ⟨by kernel_rfl, fun w' hw => by (obtain ⟨_, z0⟩ := hw; go_simp)⟩) hS ?_
  refine wpAnyH_take (i := 3) (v := (.agg #[.int .i64 x])) rfl (by kernel_rfl) (by kernel_rfl) (by kernel_rfl) (fun _ _ _ h => h) (Or.inl ⟨by kernel_rfl, fun w' hw => by (obtain ⟨_, z0⟩ := hw; go_simp)⟩) hS ?_
  refine wpAnyH_ready (rs := [4]) (by kernel_rfl) (by simp) ?_
  refine AllReadyH.cons rfl (fun K hK => ?_) AllReadyH.nil
  rw [if_pos (by kernel_rfl)]
  go_simp
  go_wp2_with (go_at_call 45; refine (qfbytes64 x 0 _ (by omega)).mono ?_; rintro e W3 ⟨g, rfl, _, _, hb3⟩)
  have hw3 := bseq (Below.refl _ (w.alloc (.cells #[.int .i64 x] 81))).drew hb3
  refine hK.out _ _ (MK.out _ hw3) (fun hS2 => ?_)
  clear hK K hb3
  refine wpAnyH_take (i := 5) (v := (.int .i64 8)) rfl (by kernel_rfl) (by kernel_rfl) (by kernel_rfl) (fun _ _ _ h => h) (Or.inl ⟨by kernel_rfl, fun w' hw => by (go_simp)⟩) hS2 ?_
  refine wpAnyH_ready (rs := [6]) (by kernel_rfl) (by simp) ?_
  refine AllReadyH.cons rfl (fun K hK => ?_) AllReadyH.nil
  rw [if_pos (by kernel_rfl)]
  go_simp
  go_wp2_with (go_at_call 12; refine (KL.out W3 (HA.out.trans (hw3.mono HA.out.size))).mono ?_; rintro e W4 ⟨R, rfl, hR, hb4⟩)
  have hw4 := bseq hw3 hb4
  refine hK.out _ _ (MK.out _ hw4) (fun hS3 => ?_)
  clear hK K hb4
  refine wpAnyH_take (i := 7) (v := (.tuple #[(.slice (some ⟨R, 0, none⟩) 8 8), .int .i64 0])) rfl (by kernel_rfl) (by kernel_rfl) (by kernel_rfl) (fun _ _ _ h => h) (Or.inl ⟨by kernel_rfl, fun w' hw => by (go_simp)⟩) hS3 ?_
  refine wpAnyH_take (i := 8) (v := (.slice (some ⟨R, 0, none⟩) 8 8)) rfl (by kernel_rfl) (by kernel_rfl) (by kernel_rfl) (fun _ _ _ h => h) (Or.inl ⟨by kernel_rfl, fun w' hw => by (go_simp)⟩) hS3 ?_
  refine wpAnyH_take (i := 9) (v := (.int .i64 0)) rfl (by kernel_rfl) (by kernel_rfl) (by kernel_rfl) (fun _ _ _ h => h) (Or.inl ⟨by kernel_rfl, fun w' hw => by (go_simp)⟩) hS3 ?_
  refine wpAnyH_take (i := 10) (v := (.slice (some ⟨R, 0, none⟩) 8 8)) rfl (by kernel_rfl) (by kernel_rfl) (by kernel_rfl) (fun _ _ _ h => h) (Or.inl ⟨by kernel_rfl, fun w' hw => by (go_simp)⟩) hS3 ?_
  refine wpAnyH_take (i := 11) (v := (.int .i64 0)) rfl (by kernel_rfl) (by kernel_rfl) (by kernel_rfl) (fun _ _ _ h => h) (Or.inl ⟨by kernel_rfl, fun w' hw => by (go_simp)⟩) hS3 ?_
  refine wpAnyH_done (by kernel_rfl) ?_ _
  simp only [Act.put, List.getElem_toArray, List.getElem_cons_zero, List.getElem_cons_succ, List.setIfInBounds_toArray, List.set_cons_zero, List.set_cons_succ]
  have HW4 := hide (HA.out.trans (hw4.mono HA.out.size))
  clear hw3 hw4 hS hS2 hS3
  have kt := take64_good (some ⟨R, 0, none⟩) 8 0 bs W4 (hR.sl HBS.out) (by rw [HLN.out]; unfold maxLen; omega) (by rw [HLN.out]; omega)
  rw [HLN.out, List.drop_zero, List.take_of_length_le (by rw [HLN.out]; omega)] at kt
  have KT := hide kt
  clear kt hR
  go_wp2_with (go_at_call 46; refine (KT.out).mono ?_; rintro e w1 ⟨rfl, hw⟩; obtain rfl := hw.symm)
  go_ret2
  exact ⟨rfl, HW4.out⟩
end Go.Proofs.Ytneknpkocjnmjaa
namespace Go.Proofs.Ytneknpkocjnmjaa
open Go.RowKit Go.Shelf
set_option linter.unusedVariables false

section
variable {w : World} {b : Nat} {L : Lay} {σ : St}
theorem qwstore_any (v at_ : Nat) (h : DevL w b L σ) (hok : σ.Ok) (ho : σ.off = false) (hN : L.N ≤ σ.ops) (harm : σ.arms = []) (hops : σ.ops + 600000 ≤ 274877906944) (hat : at_ % 8 = 0) (hlen : at_ + 8 ≤ 64 * σ.n) (hv : v < 18446744073709551616) :
    Calls Try.prog 32 #[.agg #[.pointer (some ⟨b, 0, none⟩), .int .i64 (at_ : Int), .int .i64 8, .int .u64 (v : Int)]] w fun e w' => e = .returned (.int .i64 0) ∧ ∃ L', DevL w' b L' (writeDo (leB 8 v) at_ σ (wordsOf at_ 8)) ∧ (∀ k, Foot b L' (writeDo (leB 8 v) at_ σ (wordsOf at_ 8)) k → Foot b L σ k ∨ w.heap.size ≤ k) ∧ Gr (Foot b L σ) w w' ∧ L'.N ≤ L.N + (wordsOf at_ 8).length := by
  have hA : Below w.heap.size w (w.alloc (.cells #[.pointer (some ⟨b, 0, none⟩), .int .i64 (at_ : Int), .int .i64 8, .int .u64 (v : Int)] 80)) := (Below.refl _ w).alloc (Nat.le_refl _) _
  have ks := pst8_any (at_ := at_) v (h.below hA) hok ho hN harm hops hat hlen hv
  have KS := hide ks
  have HA := hide hA
  clear h hok ho hN harm hops hlen ks hA hat hv
  go_enter Try.func32, Try.ntmps32
  go_wp2_with (go_at_call 44; refine (KS.out).mono ?_; rintro e W1 ⟨rfl, L5, hd5, hf5, hg5, hN5, _⟩; have HR := hide (And.intro hd5 (And.intro hf5 (And.intro hg5 hN5))); clear hd5 hf5 hg5 hN5)
  go_ret
  obtain ⟨h1, h2, h3, h4⟩ := HR.out
  exact ⟨rfl, L5, h1, fun k hk => (h2 k hk).imp id (fun h => Nat.le_trans HA.out.size h), (Gr.of_below HA.out).trans h3 (fun i h => .inl h), h4⟩
/-- The three steps of Publish. -/
def wbF (j : Nat) : Nat := if j = 0 then 32 else if j = 1 then 24 else 21
def wbA (b at_ v : Nat) (j : Nat) : Array Value := if j = 0 then #[.agg #[.pointer (some ⟨b, 0, none⟩), .int .i64 (at_ : Int), .int .i64 8, .int .u64 (v : Int)]] else if j = 1 then #[.agg #[.pointer (some ⟨b, 0, none⟩), .int .i64 (at_ : Int), .int .i64 8]] else #[.pointer (some ⟨b, 0, none⟩)]
def wbS (v at_ : Nat) (σ : St) (j : Nat) : St := if j = 0 then σ else if j = 1 then writeDo (leB 8 v) at_ σ (wordsOf at_ 8) else if j = 2 then linesDo (writeDo (leB 8 v) at_ σ (wordsOf at_ 8)) (linesOf at_ 8) else bytesDo (leB 8 v) at_ σ
def wbM (at_ n j : Nat) : Nat := if j = 0 then 0 else if j = 1 then (wordsOf at_ n).length else (wordsOf at_ n).length + (linesOf at_ n).length
set_option maxRecDepth 100000 in
set_option maxHeartbeats 400000 in
theorem qpub_turn (v at_ rb : Nat) (W0 : World) (hB0 : Below w.heap.size w W0) (h : DevL w b L σ) (hok : σ.Ok) (ho : σ.off = false) (hN : L.N ≤ σ.ops) (harm : σ.arms = []) (hops : σ.ops + 2000000 ≤ 274877906944) (hv : v < 18446744073709551616) (hat : at_ % 8 = 0) (hlen : at_ + 8 ≤ 64 * σ.n)
    (hrb : w.heap.size ≤ rb) (hrow : W0.heap[rb]? = some (.cells #[.func (.func (wbF 0)) (wbA b at_ v 0) #[], .func (.func (wbF 1)) (wbA b at_ v 1) #[], .func (.func (wbF 2)) (wbA b at_ v 2) #[]] 92 (0, 0))) :
    Calls Try.prog 22 #[.agg #[.pointer (some ⟨b, 0, none⟩), .int .i64 (at_ : Int), .int .i64 8], .slice (some ⟨rb, 0, none⟩) 3 3] W0 fun e w' => e = .returned (.int .i64 0) ∧ Atd W0 b L σ w' (bytesDo (leB 8 v) at_ σ) ((wordsOf at_ 8).length + (linesOf at_ 8).length) := by
  have hm := hok.max
  have hlen2 : at_ + 8 ≤ 4194304 := by omega
  have hwl := wordsOf_len hlen2
  have hll := linesOf_len hlen2
  have hlk := write_like (at_ := at_) (leB_lt 8 v) (wordsOf at_ 8) σ hok (wordsOf_lt hlen hm) (by omega)
  obtain ⟨j1, j2, j3, j4, j5, _⟩ := lines_like (linesOf at_ 8) (writeDo (leB 8 v) at_ σ (wordsOf at_ 8)) hlk.ok (by rw [hlk.ops]; omega)
  rw [hlk.ops] at j3
  have hd0 := h.below hB0
  have hnf : ¬ Foot b L σ rb := fun hf => by have := h.foot_is hf; omega
  have hrl := lt_of_heap hrow
  refine (qturn_gen hd0 hok ho at_ 8 (by omega) hlen rb 3 wbF (wbA b at_ v) (fun j W => Atd W0 b L σ W (wbS v at_ σ j) (wbM at_ 8 j)) (fun c W => c = 0 ∧ Atd W0 b L σ W (bytesDo (leB 8 v) at_ σ) ((wordsOf at_ 8).length + (linesOf at_ 8).length)) (fun j hj => ?_) (by omega) (fun j W hP i hi => ?_) (fun j hj W hP => ?_) (fun W hB => Atd.start hd0 hB) (fun W hP => ⟨rfl, hP⟩)).mono ?_
  · obtain rfl | rfl | rfl := three hj
    · exact enters_of Try.func32 (by kernel_rfl) rfl
    · exact enters_of Try.func24 (by kernel_rfl) rfl
    · exact enters_of Try.func21 (by kernel_rfl) rfl
  · have hr := (hP.1.block hrl hnf).trans hrow
    obtain rfl | rfl | rfl := three hi
    · exact cell8 hr 0
    · exact cell8 hr 1
    · exact cell8 hr 2
  · obtain ⟨hg, L', hd, hf, hN'⟩ := hP
    obtain rfl | rfl | rfl := three hj
    · refine (qwstore_any v at_ hd hok ho (show L'.N ≤ σ.ops by have : L'.N ≤ L.N + 0 := hN'; omega) harm (by show σ.ops + _ ≤ _; omega) hat hlen hv).mono ?_
      rintro e W' ⟨rfl, L2, h1, h2, h3, h4⟩
      exact ⟨0, rfl, fun _ => by have h5 := Atd.go hg hf hN' h1 h2 h3 h4; exact ⟨h5.1, by obtain ⟨L5, q1, q2, q3⟩ := h5.2; exact ⟨L5, q1, q2, by show L5.N ≤ L.N + (wordsOf at_ 8).length; have : L5.N ≤ L.N + (0 + (wordsOf at_ 8).length) := q3; omega⟩⟩, fun h => absurd rfl h⟩
    · have hN2 : L'.N ≤ L.N + (wordsOf at_ 8).length := hN'
      have hd2 : DevL W b L' (writeDo (leB 8 v) at_ σ (wordsOf at_ 8)) := hd
      refine (callsIn_wide.1 (qflush_in (at_ := at_) (n := 8) hd2 hlk.ok (hlk.off.trans ho) (by rw [hlk.ops]; omega) (hlk.arms.trans harm) (by rw [hlk.n]; exact hlen) (by rw [hlk.ops]; omega))).mono ?_
      rintro e W' ⟨rfl, L2, h1, h2, h3, h4, _⟩
      exact ⟨0, rfl, fun _ => Atd.go hg hf hN' h1 (fun k hk => .inl (h2 k hk)) h3 h4, fun h => absurd rfl h⟩
    · have hd2 : DevL W b L' (linesDo (writeDo (leB 8 v) at_ σ (wordsOf at_ 8)) (linesOf at_ 8)) := hd
      refine (pfence_any hd2 j1 (j5.trans (hlk.off.trans ho)) (j4.trans (hlk.arms.trans harm)) (by rw [j3]; omega)).mono ?_
      rintro e W' ⟨rfl, L2, h1, h2, h3, h4⟩
      exact ⟨0, rfl, fun _ => Atd.go (m2 := 0) hg hf hN' h1 h2 h3 (by omega), fun h => absurd rfl h⟩
  · rintro e w' ⟨c, rfl, rfl, hA⟩
    exact ⟨rfl, hA⟩
set_option maxRecDepth 100000 in
set_option maxHeartbeats 400000 in
theorem qpub_any (v at_ : Nat) (h : DevL w b L σ) (hok : σ.Ok) (ho : σ.off = false) (hN : L.N ≤ σ.ops) (harm : σ.arms = []) (hops : σ.ops + 2000000 ≤ 274877906944) (hv : v < 18446744073709551616) (hat : at_ % 8 = 0) (hlen : at_ + 8 ≤ 64 * σ.n) :
    Calls Try.prog 16 #[.pointer (some ⟨b, 0, none⟩), .int .i64 (at_ : Int), .int .u64 (v : Int)] w fun e w' => e = .returned (.int .i64 0) ∧ Atd w b L σ w' (bytesDo (leB 8 v) at_ σ) ((wordsOf at_ 8).length + (linesOf at_ 8).length) := by
  obtain ⟨W0, hW0⟩ : ∃ W0, (w.alloc (.cells #[.pointer (some ⟨b, 0, none⟩), .int .i64 (at_ : Int), .int .i64 8] 63)).alloc (.cells #[.func (.func 32) #[.agg #[.pointer (some ⟨b, 0, none⟩), .int .i64 (at_ : Int), .int .i64 8, .int .u64 (v : Int)]] #[], .func (.func 24) #[.agg #[.pointer (some ⟨b, 0, none⟩), .int .i64 (at_ : Int), .int .i64 8]] #[], .func (.func 21) #[.pointer (some ⟨b, 0, none⟩)] #[]] 92) = W0 := ⟨_, rfl⟩
  have hB0 : Below w.heap.size w W0 := by rw [← hW0]; exact ((Below.refl _ w).alloc (Nat.le_refl _) _).alloc (by simp) _
  have hrow : W0.heap[w.heap.size + 1]? = some (.cells #[.func (.func (wbF 0)) (wbA b at_ v 0) #[], .func (.func (wbF 1)) (wbA b at_ v 1) #[], .func (.func (wbF 2)) (wbA b at_ v 2) #[]] 92 (0, 0)) := by
    rw [← hW0]
    have := heap_alloc_new (w.alloc (.cells #[.pointer (some ⟨b, 0, none⟩), .int .i64 (at_ : Int), .int .i64 8] 63)) (.cells #[.func (.func 32) #[.agg #[.pointer (some ⟨b, 0, none⟩), .int .i64 (at_ : Int), .int .i64 8, .int .u64 (v : Int)]] #[], .func (.func 24) #[.agg #[.pointer (some ⟨b, 0, none⟩), .int .i64 (at_ : Int), .int .i64 8]] #[], .func (.func 21) #[.pointer (some ⟨b, 0, none⟩)] #[]] 92)
    rw [World.size_alloc] at this
    exact this
  have kt := qpub_turn v at_ (w.heap.size + 1) W0 hB0 h hok ho hN harm hops hv hat hlen (by omega) hrow
  rw [← hW0] at kt
  have KT := hide kt
  have HB0 := hide hB0
  have HW0 := hide hW0
  clear h hok ho hN harm hops hlen kt hB0 hrow hW0 hat hv
  go_enter Try.func16, Try.ntmps16
  go_wp2_with (go_at_call 22; refine (KT.out).mono ?_; rintro e W1 ⟨rfl, hA⟩; have HAT := hide hA; clear hA)
  go_ret
  refine ⟨rfl, ?_⟩
  have h5 := HAT.out
  rw [HW0.out] at h5
  exact h5.base HB0.out
end
end Go.Proofs.Ytneknpkocjnmjaa
namespace Go.Proofs.Ytneknpkocjnmjaa
open Go.RowKit Go.Shelf
set_option linter.unusedVariables false

theorem qbword {w : World} {p : Option Addr} {c : Int} (h : BadD w (.pointer p) c) (x : Int) : Calls Try.prog 17 #[.pointer p, .int .i64 x] w fun e w' => e = .returned (.tuple #[.int .u64 0, .int .i64 c]) ∧ Below w.heap.size w w' := by
  have hc : (c == 0) = false := by simpa using h.1
  have KL := hide (qbfload64 h x)
  clear h
  go_enter Try.func17, Try.ntmps17
  go_wp2_with (go_at_call 33; refine (KL.out).mono ?_; rintro e W1 ⟨rfl, hb1⟩; have HB1 := hide hb1; clear hb1)
  go_ret2
  exact ⟨rfl, HB1.out⟩
theorem qword {w : World} {p : Option Addr} (x : Int) (hx : x % 8 = 0) (hx0 : 0 ≤ x) (bs : List Nat) (hl : bs.length = 8) (hbs : ∀ y ∈ bs, y < 256) (kl : ∀ W, Below w.heap.size w W → Calls Try.prog 12 #[.pointer p, .int .i64 x, .int .i64 8] W fun e w' => ∃ R, e = .returned (.tuple #[.slice (some ⟨R, 0, none⟩) 8 8, .int .i64 0]) ∧ OwnB w' R bs ∧ Below W.heap.size W w') : Calls Try.prog 17 #[.pointer p, .int .i64 x] w fun e w' => e = .returned (.tuple #[.int .u64 (leV bs : Nat), .int .i64 0]) ∧ Below w.heap.size w w' := by
  have KL := hide (qfload64 x bs hl hbs kl)
  have tm : x.tmod 8 = 0 := by rw [Int.tmod_eq_emod_of_nonneg hx0]; exact hx
  clear kl
  go_enter Try.func17, Try.ntmps17
  go_wp2_with (go_at_call 33; refine (KL.out).mono ?_; rintro e W1 ⟨rfl, hb1⟩; have HB1 := hide hb1; clear hb1)
  go_ret2
  exact ⟨rfl, HB1.out⟩
/-- A device that was laid since w, and nothing else has changed. -/
structure AtQ (w W : World) (b : Nat) (L : Lay) (σ : St) : Prop where
  dev : DevL W b L σ
  ok : σ.Ok
  num : L.N ≤ σ.ops
  foot : ∀ k, Foot b L σ k → w.heap.size ≤ k
  bel : Below w.heap.size w W
theorem AtQ.step {w W W' : World} {b : Nat} {L L' : Lay} {σ σ' : St} (h : AtQ w W b L σ) (hd : DevL W' b L' σ') (hok : σ'.Ok) (hf : ∀ k, Foot b L' σ' k → Foot b L σ k ∨ W.heap.size ≤ k) {X : Nat → Prop} (hX : ∀ k, X k → Foot b L σ k) (hg : Gr X W W') (hN : L'.N ≤ σ'.ops) : AtQ w W' b L' σ' := by
  refine ⟨hd, hok, hN, fun k hk => ?_, hg.1.trans h.bel.os, hg.2.1.trans h.bel.tape, hg.2.2.1.trans h.bel.output, Nat.le_trans h.bel.size hg.size, fun k hk => (hg.block (Nat.lt_of_lt_of_le hk h.bel.size) (fun hx => by have := h.foot k (hX k hx); omega)).trans (h.bel.block k hk)⟩
  rcases hf k hk with h1 | h1
  · exact h.foot k h1
  · exact Nat.le_trans h.bel.size h1
theorem AtQ.below {w W W' : World} {b : Nat} {L : Lay} {σ : St} (h : AtQ w W b L σ) (hB : Below W.heap.size W W') : AtQ w W' b L σ := ⟨h.dev.below hB, h.ok, h.num, h.foot, h.bel.trans (hB.mono h.bel.size)⟩
theorem AtQ.atd {w W W' : World} {b : Nat} {L : Lay} {σ σ' : St} {m : Nat} (h : AtQ w W b L σ) (ha : Atd W b L σ W' σ' m) (hok : σ'.Ok) (hN : σ.ops + m ≤ σ'.ops) : ∃ L', AtQ w W' b L' σ' := by
  obtain ⟨hg, L', hd, hf, hn⟩ := ha
  exact ⟨L', h.step hd hok hf (fun k hk => hk) hg (by have := h.num; omega)⟩
/-- What stays as it is when bytes are made to last. -/
theorem bytes_like {bs : List Nat} {at_ : Nat} {σ : St} (hbs : ∀ x ∈ bs, x < 256) (hok : σ.Ok) (hlen : at_ + bs.length ≤ 64 * σ.n) (hops : σ.ops + 2000000 ≤ 274877906944) :
    (bytesDo bs at_ σ).Ok ∧ (bytesDo bs at_ σ).n = σ.n ∧ (bytesDo bs at_ σ).ops = σ.ops + (wordsOf at_ bs.length).length + (linesOf at_ bs.length).length + 1 ∧ (bytesDo bs at_ σ).arms = σ.arms ∧ (bytesDo bs at_ σ).off = σ.off := by
  have hm := hok.max
  have hwl := wordsOf_len (at_ := at_) (n := bs.length) (by omega)
  have hll := linesOf_len (at_ := at_) (n := bs.length) (by omega)
  have hlk := write_like (at_ := at_) hbs (wordsOf at_ bs.length) σ hok (wordsOf_lt hlen hm) (by omega)
  obtain ⟨j1, j2, j3, j4, j5, _⟩ := lines_like (linesOf at_ bs.length) (writeDo bs at_ σ (wordsOf at_ bs.length)) hlk.ok (by rw [hlk.ops]; omega)
  rw [hlk.ops] at j3
  exact ⟨fence_ok j1 (by rw [j3]; omega), j2.trans hlk.n, by show (linesDo _ _).ops + 1 = _; rw [j3], j4.trans hlk.arms, j5.trans hlk.off⟩
def ones : List Nat := [1, 1, 1, 1, 1, 1, 1, 1]
def q1 : St := bytesDo ones 60 (newD 2)
def q2 : St := bytesDo (leB 8 258) 8 q1
theorem wQ60 : wordsOf 60 8 = [7, 8] := by rw [wordsOf_eq 60 8 (by omega)]; rfl
theorem wQ8 : wordsOf 8 8 = [1] := by rw [wordsOf_eq 8 8 (by omega)]; rfl
theorem lQ60 : linesOf 60 8 = [0, 1] := by decide +kernel
theorem lQ8 : linesOf 8 8 = [0] := by decide +kernel
theorem ones_lt : ∀ x ∈ ones, x < 256 := by decide
theorem q1_like : q1.Ok ∧ q1.n = 2 ∧ q1.ops = 5 ∧ q1.arms = [] ∧ q1.off = false := by
  obtain ⟨h1, h2, h3, h4, h5⟩ := bytes_like (bs := ones) (at_ := 60) (σ := newD 2) ones_lt (newD_ok (by omega) (by omega)) (by decide) (by show 0 + 2000000 ≤ _; omega)
  have e : ones.length = 8 := rfl
  rw [e, wQ60, lQ60] at h3
  exact ⟨h1, h2, h3, h4, h5⟩
theorem q2_like : q2.Ok ∧ q2.n = 2 ∧ q2.ops = 8 ∧ q2.arms = [] ∧ q2.off = false := by
  obtain ⟨g1, g2, g3, g4, g5⟩ := q1_like
  obtain ⟨h1, h2, h3, h4, h5⟩ := bytes_like (bs := leB 8 258) (at_ := 8) (σ := q1) (leB_lt 8 258) g1 (by rw [leB_length, g2]; omega) (by rw [g3]; omega)
  rw [leB_length, wQ8, lQ8, g3] at h3
  exact ⟨h1, h2.trans g2, h3, h4.trans g4, h5.trans g5⟩
theorem q2_eq : q2 = fenceDo (flushDo (wordDo (leB 8 258) 8 (fenceDo (flushDo (flushDo (wordDo ones 60 (wordDo ones 60 (newD 2) 7) 8) 0) 1)) 1) 0) := by
  have e : ones.length = 8 := rfl
  unfold q2 q1 bytesDo
  rw [leB_length, e, wQ60, lQ60, wQ8, lQ8]
  rfl
def lineQ : List Nat := [0, 0, 0, 0, 0, 0, 0, 0, 2, 1, 0, 0, 0, 0, 0, 0, 0, 0, 0, 0, 0, 0, 0, 0, 0, 0, 0, 0, 0, 0, 0, 0, 0, 0, 0, 0, 0, 0, 0, 0, 0, 0, 0, 0, 0, 0, 0, 0, 0, 0, 0, 0, 0, 0, 0, 0, 0, 0, 0, 0, 1, 1, 1, 1]
theorem q2_lost : lost q2 [] 0 = lineQ := by
  rw [q2_eq]
  kernel_rfl
end Go.Proofs.Ytneknpkocjnmjaa
namespace Go.Proofs.Ytneknpkocjnmjaa
open Go.RowKit Go.Shelf
set_option linter.unusedVariables false

theorem linesOf_eq (at_ n : Nat) (h : at_ + n ≤ 4194304) : linesOf at_ n = if n = 0 then [] else (List.range ((at_ + n - 1) / 64 - at_ / 64 + 1)).map (at_ / 64 + ·) := by
  unfold linesOf unitsV
  by_cases h0 : n = 0
  · rw [if_pos (by omega), if_pos h0]; rfl
  · rw [if_neg (by omega), if_neg h0]
    unfold upto
    rw [List.map_map]
    have e1 : (((at_ : Int) + n - 1) / 64 - (at_ : Int) / 64 + 1).toNat = (at_ + n - 1) / 64 - at_ / 64 + 1 := by omega
    rw [e1]
    refine List.map_congr_left fun i _ => ?_
    simp only [Function.comp]
    omega
theorem mem_linesOf {at_ n i : Nat} (h : at_ + n ≤ 4194304) (hi : i < n) : (at_ + i) / 64 ∈ linesOf at_ n := by
  rw [linesOf_eq at_ n h, if_neg (by omega)]
  refine List.mem_map.2 ⟨(at_ + i) / 64 - at_ / 64, List.mem_range.2 (by omega), by omega⟩
/-- A line whose contents but the last one go with the next Fence. -/
def Due (σ : St) (j : Nat) : Prop := σ.fl j = some (σ.past j).length ∨ σ.past j = []
theorem Due.flush {σ : St} {i j : Nat} (h : j = i ∨ Due σ j) : Due (flushDo σ i) j := by
  show (if j = i ∧ σ.past i ≠ [] then some (σ.past i).length else σ.fl j) = some (σ.past j).length ∨ σ.past j = []
  by_cases e : j = i
  · subst e
    by_cases hp : σ.past j = []
    · exact .inr hp
    · rw [if_pos ⟨rfl, hp⟩]; exact .inl rfl
  · rw [if_neg (fun h => e h.1)]
    exact h.resolve_left e
theorem Due.lines : ∀ (ls : List Nat) (σ : St) (j : Nat), (j ∈ ls ∨ Due σ j) → Due (linesDo σ ls) j
  | [], σ, j, h => h.resolve_left (by simp)
  | i :: ls, σ, j, h => by
    refine Due.lines ls (flushDo σ i) j ?_
    rcases h with h | h
    · rcases List.mem_cons.1 h with h | h
      · exact .inr (Due.flush (.inl h))
      · exact .inl h
    · exact .inr (Due.flush (.inr h))
theorem bytes_sure {bs : List Nat} {at_ : Nat} {σ : St} (hbs : ∀ x ∈ bs, x < 256) (hok : σ.Ok) (hlen : at_ + bs.length ≤ 64 * σ.n) (hops : σ.ops + 2000000 ≤ 274877906944) {i x : Nat} (hx : bs[i]? = some x) : Sure (bytesDo bs at_ σ) (at_ + i) x := by
  have hm := hok.max
  have hol := hok.len
  have hi : i < bs.length := (List.getElem?_eq_some_iff.1 hx).1
  have hwl := wordsOf_len (at_ := at_) (n := bs.length) (by omega)
  have hll := linesOf_len (at_ := at_) (n := bs.length) (by omega)
  have hlk := write_like (at_ := at_) hbs (wordsOf at_ bs.length) σ hok (wordsOf_lt hlen hm) (by omega)
  obtain ⟨j1, j2, j3, j4, j5, j6, j7, _⟩ := lines_like (linesOf at_ bs.length) (writeDo bs at_ σ (wordsOf at_ bs.length)) hlk.ok (by rw [hlk.ops]; omega)
  have hsb := store_bytes (at_ := at_) hbs hok hlen (by omega)
  have hd := Due.lines (linesOf at_ bs.length) (writeDo bs at_ σ (wordsOf at_ bs.length)) ((at_ + i) / 64) (.inl (mem_linesOf (by omega) hi))
  have hp : (bytesDo bs at_ σ).past ((at_ + i) / 64) = [] := fence_one hd (fun k hk => (j1.flp _ k hk).2)
  have hb : (bytesDo bs at_ σ).bytes = splice σ.bytes at_ bs := by
    show (linesDo _ _).bytes = _
    rw [j6, hsb]
  refine ⟨?_, fun c hc => by rw [hp] at hc; cases hc⟩
  show ((bytesDo bs at_ σ).line ((at_ + i) / 64))[(at_ + i) % 64]? = some x
  rw [line_get (by omega), show 64 * ((at_ + i) / 64) + (at_ + i) % 64 = at_ + i by omega, hb, splice_get _ _ _ _ (by omega), if_neg (by omega), if_pos (by omega), show at_ + i - at_ = i by omega]
  exact hx
end Go.Proofs.Ytneknpkocjnmjaa
namespace Go.Proofs.Ytneknpkocjnmjaa
open Go.RowKit
set_option linter.unusedVariables false

theorem within_eq (i n : Int) (hn : 0 < n) : (if i.tmod n < 0 then i.tmod n + n else i.tmod n) = i % n ∧ -n < i.tmod n ∧ i.tmod n < n := by
  have h1 := Int.mul_tdiv_add_tmod i n
  have h2 : i.tmod n < n := Int.tmod_lt_of_pos i hn
  have h3 : -n < i.tmod n := by
    have h := Int.lt_tmod_of_pos i hn
    omega
  have h4 : i % n = (i.tmod n) % n := by
    have h5 : i % n = (i.tmod n + n * i.tdiv n) % n := by rw [Int.add_comm, h1]
    rw [h5, Int.add_mul_emod_self_left]
  refine ⟨?_, h3, h2⟩
  rw [h4]
  split
  · rename_i h
    rw [← Int.add_emod_right, Int.emod_eq_of_lt (by omega) (by omega)]
  · rename_i h
    rw [Int.emod_eq_of_lt (by omega) h2]
end Go.Proofs.Ytneknpkocjnmjaa
namespace Go.Proofs.Ytneknpkocjnmjaa
open Go.RowKit
set_option linter.unusedVariables false

def bitStep (r : Nat) : Nat := if r % 2 = 1 then (r / 2) ^^^ 2197175160 else r / 2
def bitSteps : Nat → Nat → Nat
  | 0, r => r
  | n + 1, r => bitStep (bitSteps n r)
def byteStep (r x : Nat) : Nat := bitSteps 8 (r ^^^ x)
def runs (r : Nat) (bs : List Nat) : Nat := bs.foldl byteStep r
def moreV (s : Nat) (bs : List Nat) : Nat := 4294967295 ^^^ runs (4294967295 ^^^ s) bs

theorem bitStep_lt (r : Nat) (h : r < 4294967296) : bitStep r < 4294967296 := by
  unfold bitStep
  split
  · exact Nat.xor_lt_two_pow (n := 32) (by omega) (by omega)
  · omega
theorem bitSteps_lt (n r : Nat) (h : r < 4294967296) : bitSteps n r < 4294967296 := by
  induction n with
  | zero => exact h
  | succ n ih => exact bitStep_lt _ ih
theorem xor_lt32 (a b : Nat) (ha : a < 4294967296) (hb : b < 4294967296) : a ^^^ b < 4294967296 := Nat.xor_lt_two_pow (n := 32) ha hb
theorem byteStep_lt (r x : Nat) (h : r < 4294967296) (hx : x < 256) : byteStep r x < 4294967296 := bitSteps_lt 8 _ (xor_lt32 _ _ h (by omega))
theorem runs_snoc (r : Nat) (bs : List Nat) (x : Nat) : runs r (bs ++ [x]) = byteStep (runs r bs) x := by simp [runs]
theorem runs_append (r : Nat) (a b : List Nat) : runs r (a ++ b) = runs (runs r a) b := by simp [runs]
theorem runs_lt (r : Nat) (bs : List Nat) (h : r < 4294967296) (hb : ∀ x ∈ bs, x < 256) : runs r bs < 4294967296 := by
  induction bs generalizing r with
  | nil => exact h
  | cons x t ih => exact ih (byteStep r x) (byteStep_lt _ _ h (hb x (by simp))) (fun y hy => hb y (by simp [hy]))
theorem moreV_lt (s : Nat) (bs : List Nat) (h : s < 4294967296) (hb : ∀ x ∈ bs, x < 256) : moreV s bs < 4294967296 :=
  xor_lt32 _ _ (by omega) (runs_lt _ _ (xor_lt32 _ _ (by omega) h) hb)
theorem moreV_append (s : Nat) (a b : List Nat) : moreV s (a ++ b) = moreV (moreV s a) b := by
  unfold moreV
  rw [runs_append, ← Nat.xor_assoc, Nat.xor_self, Nat.zero_xor]
theorem moreV_nil (s : Nat) : moreV s [] = s := by
  unfold moreV runs
  rw [List.foldl_nil, ← Nat.xor_assoc, Nat.xor_self, Nat.zero_xor]

theorem step_eq (Q : Nat) (h : Q < 4294967296) :
    bits BinOp.xor IntKind.u32 ((Q : Int) / 2) (bits BinOp.and IntKind.u32 2197175160 (-bits BinOp.and IntKind.u32 (Q : Int) 1 % 4294967296)) = ((bitStep Q : Nat) : Int) := by
  have e1 : bits BinOp.and IntKind.u32 (Q : Int) 1 = ((Q % 2 : Nat) : Int) := by
    have := u32_and_nat Q 1 h (by omega)
    rw [Nat.and_one_is_mod] at this
    exact this
  rw [e1]
  have e2 : ((Q : Int) / 2) = ((Q / 2 : Nat) : Int) := by omega
  rw [e2]
  unfold bitStep
  rcases Nat.mod_two_eq_zero_or_one Q with h0 | h1
  · rw [h0, if_neg (by omega)]
    have e3 : bits BinOp.and IntKind.u32 2197175160 (-((0 : Nat) : Int) % 4294967296) = ((0 : Nat) : Int) := by
      have := u32_and_nat 2197175160 0 (by omega) (by omega)
      simpa using this
    rw [e3]
    have := u32_xor_nat (Q / 2) 0 (by omega) (by omega)
    simpa using this
  · rw [h1, if_pos rfl]
    have e3 : bits BinOp.and IntKind.u32 2197175160 (-((1 : Nat) : Int) % 4294967296) = ((2197175160 : Nat) : Int) := by
      have := u32_and_nat 2197175160 4294967295 (by omega) (by omega)
      have e4 : (2197175160 &&& 4294967295 : Nat) = 2197175160 := by decide
      rw [e4] at this
      exact this
    rw [e3]
    exact u32_xor_nat (Q / 2) 2197175160 (by omega) (by omega)

theorem inv_eq (s : Nat) (h : s < 4294967296) : bits BinOp.xor IntKind.u32 IntKind.u32.max (s : Int) = ((4294967295 ^^^ s : Nat) : Int) :=
  u32_xor_nat 4294967295 s (by omega) h
theorem mix_eq (r x : Nat) (h : r < 4294967296) (hx : x < 256) : bits BinOp.xor IntKind.u32 (r : Int) (x : Int) = ((r ^^^ x : Nat) : Int) :=
  u32_xor_nat r x h (by omega)
theorem int_congr {k : IntKind} {a b : Int} (h : a = b) : Value.int k a = Value.int k b := by rw [h]
theorem ret_int {k : IntKind} {a b : Int} (h : a = b) : Ending.returned (.int k a) = .returned (.int k b) := by rw [h]

def sumV (rs : List (List Nat)) : Nat := moreV 0 rs.flatten
theorem sumV_snoc (rs : List (List Nat)) (r : List Nat) : sumV (rs ++ [r]) = moreV (sumV rs) r := by
  unfold sumV
  rw [List.flatten_append, moreV_append]
  simp
theorem sumV_lt (rs : List (List Nat)) (h : ∀ r ∈ rs, ∀ x ∈ r, x < 256) : sumV rs < 4294967296 :=
  moreV_lt 0 _ (by omega) (fun x hx => by obtain ⟨r, hr, hxr⟩ := List.mem_flatten.1 hx; exact h r hr x hxr)

end Go.Proofs.Ytneknpkocjnmjaa
namespace Go.Proofs.Ytneknpkocjnmjaa
open Go.RowKit
set_option linter.unusedVariables false

theorem ownB_of_owns {W : World} {base g : Nat} {bs : List Nat} (h : W.ownsRow base 5 1 (.slice (some ⟨g, 0, none⟩) bs.length bs.length) bs.length (bs.map B8)) : OwnB W g bs := by
  rcases h.2 with ⟨h0, _⟩ | ⟨g', cap, cur, hv, _, hg, hn, _, hs, hc⟩
  · cases h0
  · cases hv
    have e : cur = (bs.map B8).toArray := by
      apply Array.ext'
      rw [← hc, List.take_of_length_le (by simp [hs])]
    rw [e] at hg
    exact hg

set_option maxHeartbeats 400000 in
theorem copyBytes_any (a : Option Addr) (cap : Nat) (bs : List Nat) (w : World) (hg : Sl w a bs) (hl : bs.length ≤ 140737488355328) :
    Calls Try.prog 9 #[.slice a bs.length cap] w fun e w' => e = .returned (.slice (some ⟨w.heap.size, 0, none⟩) bs.length bs.length) ∧ OwnB w' w.heap.size bs ∧ Below w.heap.size w w' := by
  obtain ⟨i0, hi, hz0, hz1, hz2⟩ := info_parts Try.info5
  have hmk : ∀ w, Sem.run Try.prog (Instr.makeSlice 23 (.int .i64 0) (.int .i64 (bs.length : Int))) w = .ok (.slice (some ⟨w.heap.size, 0, none⟩) 0 bs.length) (w.alloc (.cells (madeCells #[.int .u8 0] bs.length) 5)) := fun w => by
    have h := run_make (P := Try.prog) w 23 5 i0 (.int .u8 0) Try.underlying23 hi hz0 .i64 .i64 0 bs.length (by omega) (by omega) (by rw [hz2]; omega) (by omega)
    simp only [Int.toNat_zero, Int.toNat_natCast, hz1, Nat.mul_one] at h
    exact h
  have hO : (w.alloc (.cells (madeCells #[.int .u8 0] bs.length) 5)).ownsRow w.heap.size 5 1 (.slice (some ⟨w.heap.size, 0, none⟩) 0 bs.length) 0 [] :=
    World.ownsRow_made w _ bs.length (Nat.le_refl _) (by unfold maxLen; omega) (by simp [size_madeCells])
  have hB : Below w.heap.size w (w.alloc (.cells (madeCells #[.int .u8 0] bs.length) 5)) := (Below.refl _ _).alloc (Nat.le_refl _) _
  go_enter Try.func9, Try.ntmps9
  go_wp2
  clear hmk
  go_loopw [3, 4] (fun v i wr => ∃ k : Nat, k ≤ bs.length ∧ i = .int .i64 k ∧ v = .slice (some ⟨w.heap.size, 0, none⟩) k bs.length ∧ wr.ownsRow w.heap.size 5 1 (.slice (some ⟨w.heap.size, 0, none⟩) k bs.length) k ((bs.take k).map B8) ∧ Below w.heap.size w wr)
    (fun _ i _ => bs.length - (intOf i).toNat)
  case atStart => exact ⟨0, by omega, rfl, rfl, hO, hB⟩
  case round =>
    clear hO hB
    obtain ⟨k, hk, rfl, rfl, hown, hBr⟩ := hrel
    by_cases hlt : k < bs.length
    · obtain ⟨x, hx⟩ : ∃ x, bs[k]? = some x := ⟨_, List.getElem?_eq_getElem hlt⟩
      obtain ⟨b, off, rfl, hbl, hseg⟩ : ∃ b off, a = some ⟨b, off, none⟩ ∧ b < w.heap.size ∧ Seg w b off bs := by
        rcases hg with rfl | h
        · simp at hlt
        · exact h
      have hc : wr.cell? ⟨b, off + k, none⟩ = some (.int .u8 (x : Int)) := (hBr.cell (p := ⟨b, off + k, none⟩) hbl).trans (hseg k x hx).1
      have hki : (k : Int) < (bs.length : Int) := by omega
      have HX := hide hx
      have HB := hide hBr
      have hsz := hBr.size
      clear hx hseg hg hBr
      go_wp2_with (at_builtin; refine wpList_append_fits _ rfl _ _ 23 rfl w.heap.size 5 i0 1 Try.underlying23 hi hz1 w.heap.size k bs.length _ rfl (hown.alloc _) ⟨wr.heap.size, 0, none⟩ 1 1 [.int .u8 (x : Int)] rfl rfl (cell_one_new _ _ _) (by simp [Value.oneCell']) (by omega) ?_; intro w1 hown1 hgrow1)
      go_roundw
      case rel =>
        refine ⟨k + 1, by omega, by go_num, rfl, ?_, ?_⟩
        · rw [List.take_add_one, HX.out]
          simpa [B8] using hown1
        · exact (HB.out.alloc hsz _).grown hgrow1 (by simp; omega) (fun j e => by cases e; exact Nat.le_refl _)
      case measure => simp [intOf]; omega
    · have hkk : k = bs.length := by omega
      subst hkk
      have hki : (bs.length : Int) ≤ (bs.length : Int) := by omega
      have HB := hide hBr
      have HO := hide hown
      clear hBr hown hg
      go_wp2
      go_ret
      have h1 := HO.out
      rw [List.take_length] at h1
      exact ⟨rfl, ownB_of_owns h1, HB.out⟩
theorem eqBytes_len (a b : Option Addr) (n m c d : Nat) (w : World) (h : ((n : Int) != (m : Int)) = true) :
    Calls Try.prog 13 #[.slice a n c, .slice b m d] w fun e w' => e = .returned (.bool false) ∧ w' = w := by
  go_enter Try.func13, Try.ntmps13
  go_wp2
  go_ret
  exact ⟨rfl, rfl⟩

set_option maxHeartbeats 400000 in
theorem eqBytes_same (a b : Option Addr) (c d : Nat) (xs ys : List Nat) (w : World) (ha : Sl w a xs) (hb : Sl w b ys) (hl : xs.length = ys.length) (hm : xs.length ≤ 9223372036854775807) :
    Calls Try.prog 13 #[.slice a xs.length c, .slice b xs.length d] w fun e w' => e = .returned (.bool (decide (xs = ys))) ∧ ∃ n, w' = w.drewN n := by
  have HL := hide hl
  clear hl
  have hne : ((xs.length : Int) != (xs.length : Int)) = false := by simp
  go_enter Try.func13, Try.ntmps13
  go_wp2
  go_loopw [5] (fun i wr => ∃ k n : Nat, k ≤ xs.length ∧ i = .int .i64 k ∧ xs.take k = ys.take k ∧ wr = w.drewN n) (fun i _ => xs.length - (intOf i).toNat)
  case atStart => exact ⟨0, 0, by omega, rfl, rfl, rfl⟩
  case round =>
    obtain ⟨k, n, hk, rfl, htk, rfl⟩ := hrel
    have HT := hide htk
    clear htk
    by_cases hlt : k < xs.length
    · obtain ⟨x, hx⟩ : ∃ x, xs[k]? = some x := ⟨_, List.getElem?_eq_getElem hlt⟩
      obtain ⟨y, hy⟩ : ∃ y, ys[k]? = some y := ⟨_, List.getElem?_eq_getElem (by have := HL.out; omega)⟩
      obtain ⟨b1, o1, rfl, _, hs1⟩ : ∃ b off, a = some ⟨b, off, none⟩ ∧ b < w.heap.size ∧ Seg w b off xs := by
        rcases ha with rfl | h
        · simp at hlt
        · exact h
      obtain ⟨b2, o2, rfl, _, hs2⟩ : ∃ b0 off, b = some ⟨b0, off, none⟩ ∧ b0 < w.heap.size ∧ Seg w b0 off ys := by
        rcases hb with rfl | h
        · simp at hy
        · exact h
      have c1 := (hs1 k x hx).1
      have c2 := (hs2 k y hy).1
      have HX := hide hx
      have HY := hide hy
      clear hx hy hs1 hs2 ha hb
      have hki : (k : Int) < (xs.length : Int) := by omega
      by_cases hxy : x = y
      · have hb1 : ((x : Int) != (y : Int)) = false := by simp [hxy]
        have HXY := hide hxy
        clear hxy
        go_wp2
        go_quiet (fail)
        go_wp2
        go_roundw
        case rel =>
          refine ⟨k + 1, n + nq, by omega, by go_num, ?_, rfl⟩
          rw [List.take_add_one, List.take_add_one, HX.out, HY.out, HT.out, HXY.out]
        case measure => simp [intOf]; omega
      · have hb1 : ((x : Int) != (y : Int)) = true := by simp; omega
        have HXY := hide hxy
        clear hxy
        go_wp2
        go_quiet (fail)
        go_wp2
        go_ret
        refine ⟨ret_bool (Eq.symm (decide_eq_false fun h => HXY.out ?_)), n + nq, by simp⟩
        have h1 := HX.out
        rw [h, HY.out] at h1
        exact (Option.some.inj h1).symm
    · have hkk : k = xs.length := by omega
      subst hkk
      go_wp2
      go_ret
      refine ⟨ret_bool (Eq.symm (decide_eq_true ?_)), _, rfl⟩
      have h1 := HT.out
      rw [List.take_length, HL.out, List.take_length] at h1
      exact h1

theorem eqBytes_any (a b : Option Addr) (c d : Nat) (xs ys : List Nat) (w : World) (ha : Sl w a xs) (hb : Sl w b ys) (hm : xs.length ≤ 9223372036854775807) :
    Calls Try.prog 13 #[.slice a xs.length c, .slice b ys.length d] w fun e w' => e = .returned (.bool (decide (xs = ys))) ∧ ∃ n, w' = w.drewN n := by
  by_cases hl : xs.length = ys.length
  · have h := eqBytes_same a b c d xs ys w ha hb hl hm
    rw [← hl]
    exact h
  · refine (eqBytes_len a b xs.length ys.length c d w (by simp; omega)).mono ?_
    rintro e w' ⟨rfl, rfl⟩
    exact ⟨ret_bool (Eq.symm (decide_eq_false fun h => hl (by rw [h]))), 0, rfl⟩

/-- The mark at a place. -/
def markAt (i : Nat) : Nat := (165 ^^^ i) % 256
/-- The marks behind a list of so many bytes. -/
def marks (n : Nat) : List Nat := (List.range 80).map fun (j : Nat) => markAt (n + j)
theorem marks_length (n : Nat) : (marks n).length = 80 := by simp [marks]
theorem marks_get (n j : Nat) (h : j < 80) : (marks n)[j]? = some (markAt (n + j)) := by simp [marks, h]
theorem mark_eq (i : Nat) (h : i ≤ 9223372036854775807) : IntKind.u8.wrap (bits BinOp.xor IntKind.i64 165 (i : Int)) = ((markAt i : Nat) : Int) := by
  have hx : 165 ^^^ i < 2 ^ 63 := Nat.xor_lt_two_pow (by omega) (by omega)
  have e : bits BinOp.xor IntKind.i64 165 (i : Int) = ((165 ^^^ i : Nat) : Int) := by
    show IntKind.i64.wrap ((BitVec.ofInt 64 (((165 : Nat)) : Int) ^^^ BitVec.ofInt 64 (i : Int)).toNat : Int) = _
    rw [BitVec.toNat_xor, ofInt_u64 165 (by omega), ofInt_u64 i (by omega), IntKind.wrap_i64]
    omega
  rw [e, IntKind.wrap_u8']
  unfold markAt
  omega

/-- The head of a row of the call's own. -/
theorem OwnB.head {w : World} {g : Nat} {bs sp : List Nat} (h : OwnB w g (bs ++ sp)) (hx : ∀ x ∈ bs, x < 256) : Sl w (some ⟨g, 0, none⟩) bs := by
  refine .inr ⟨g, 0, rfl, h.lt, fun i x hi => ⟨?_, hx x (List.mem_of_getElem? hi)⟩⟩
  rw [Nat.zero_add]
  exact h.cell i x (by rw [List.getElem?_append_left (List.getElem?_eq_some_iff.1 hi).1]; exact hi)

theorem markAt_lt (i : Nat) : markAt i < 256 := Nat.mod_lt _ (by omega)

theorem sl_of_owns {W : World} {base : Nat} {v : Value} {bs : List Nat} (h : W.ownsRow base 5 1 v bs.length (bs.map B8)) (hx : ∀ x ∈ bs, x < 256) : ∃ a cap, v = .slice a bs.length cap ∧ Sl W a bs := by
  rcases h.2 with ⟨rfl, h0⟩ | ⟨g, cap, cur, rfl, _, hg, hn, _, hs, hc⟩
  · exact ⟨none, 0, by rw [h0], .inl (List.eq_nil_of_length_eq_zero h0)⟩
  · refine ⟨_, cap, rfl, .inr ⟨g, 0, rfl, (Array.getElem?_eq_some_iff.1 hg).1, fun i x hx' => ⟨?_, hx x (List.mem_of_getElem? hx')⟩⟩⟩
    have h1 : (bs.map B8)[i]? = some (B8 x) := by rw [List.getElem?_map, hx']; rfl
    have h2 : i < bs.length := (List.getElem?_eq_some_iff.1 hx').1
    rw [← hc, List.getElem?_take, if_pos (by omega)] at h1
    simp only [Nat.zero_add, World.cell?, hg]
    simpa [B8] using h1

theorem owns_of_ownB {W : World} {base g : Nat} {bs : List Nat} (h : OwnB W g bs) (hb : base ≤ g) (hm : bs.length ≤ maxLen) : W.ownsRow base 5 1 (.slice (some ⟨g, 0, none⟩) bs.length bs.length) bs.length (bs.map B8) :=
  ⟨by simp, .inr ⟨g, bs.length, _, rfl, hb, h, Nat.le_refl _, hm, by simp, by rw [List.take_of_length_le (by simp)]⟩⟩

theorem src {w w' : World} {ad : Addr} {bs : List Nat} (h : Sl w (some ad) bs) (hb : Below w.heap.size w w') : ∀ j u, (bs.map B8)[j]? = some u → w'.cell? (ad.add j) = some u := by
  intro j u hu
  rcases h with rfl | ⟨b, off, he, hl, hs⟩
  · simp at hu
  · cases he
    rw [List.getElem?_map] at hu
    obtain ⟨x, hx, rfl⟩ := Option.map_eq_some_iff.1 hu
    have e : (⟨b, off, none⟩ : Addr).add j = ⟨b, off + j, none⟩ := by simp [Addr.add]
    rw [e]
    exact (hb.cell (p := ⟨b, off + j, none⟩) hl).trans (hs j x hx).1

/-- 'append(x, y...)' on bytes, x the call's own, y whatever came in or was made. -/
theorem wpList_app_bytes {w : World} {ops : Array Oper} {rest : List Oper} {o : Oper} {a : Act} {Q : Exit → Act → World → Prop} (hgd : o.guard = none) (s x : Operand)
    (ho : o.op = .call { callee := .builtin .append, args := #[s, x], argTypes := #[23, 23] })
    (base : Nat) (v : Value) (xs : List Nat) (hs : a.eval s = v) (hown : w.ownsRow base 5 1 v xs.length (xs.map B8))
    (a1 : Option Addr) (c : Nat) (ys : List Nat) (hx : a.eval x = .slice a1 ys.length c) (hnil : a1 = none → c = 0) (hys : Sl w a1 ys) (hb : xs.length + ys.length ≤ 140737488355328) (hbase : base ≤ w.heap.size)
    (h : ∀ v' w', w'.ownsRow base 5 1 v' (xs ++ ys).length ((xs ++ ys).map B8) → Below base w w' → wpList Try.prog ops Q rest (a.put o.dst v') w') : wpList Try.prog ops Q (o :: rest) a w := by
  obtain ⟨i0, hi, hz0, hz1, hz2⟩ := info_parts Try.info5
  cases a1 with
  | none =>
    obtain rfl : ys = [] := by
      rcases hys with h0 | ⟨b, off, h0, _⟩
      · exact h0
      · cases h0
    rw [hnil rfl] at hx
    refine wpList_append_own_none hgd s x 23 ho base 5 i0 1 Try.underlying23 hi v xs.length (xs.map B8) hs hown hx (h v w ?_ (Below.refl _ _))
    simpa using hown
  | some ad =>
    refine wpList_append_own w hgd s x 23 ho base 5 i0 (.int .u8 0) 1 1 Try.underlying23 hi hz0 hz1 hz2 rfl (by omega) v xs.length (xs.map B8) hs hown ad ys.length c (ys.map B8) hx (by simp) (src hys (Below.refl _ _)) (B8_one ys)
      (by unfold maxLen; omega) (by omega) hbase fun v' w' h1 h2 _ => h v' w' ?_ ?_
    · simpa using h1
    · exact (Below.refl _ _).grown h2 hbase fun k e => (hown.lt k e).1

end Go.Proofs.Ytneknpkocjnmjaa
namespace Go.Proofs.Ytneknpkocjnmjaa
open Go.RowKit Go.Shelf
set_option linter.unusedVariables false

theorem index_byteS (g o i len cap : Nat) (hi : i < len) (w : World) : (Instr.indexAt 23 (.slice (some ⟨g, o, none⟩) len cap) (.int .i64 (i : Int))).run Try.prog w = .ok (.pointer (some ⟨g, o + i, none⟩)) w := by
  have h := index_at (t := 23) (e := 5) (sz := 1) Try.underlying23 (by kernel_rfl) g o i len cap hi w
  rwa [Nat.mul_one] at h
theorem rwithin_any (w : World) (i n : Int) (hn : 0 < n) (hn' : n ≤ 4611686018427387904) (hi : -9223372036854775808 ≤ i) (hi' : i ≤ 9223372036854775807) : Calls Try.prog 7 #[.int .i64 i, .int .i64 n] w fun e w' => e = .returned (.int .i64 (i % n)) ∧ w' = w := by
  obtain ⟨h1, h2, h3⟩ := within_eq i n hn
  have hn0 : ¬ n = 0 := by omega
  obtain ⟨t, ht⟩ : ∃ t, i.tmod n = t := ⟨_, rfl⟩
  rw [ht] at h1 h2 h3
  by_cases h : t < 0
  · rw [if_pos h] at h1
    rw [← h1]
    clear h1
    go_enter Try.func7, Try.ntmps7
    go_wp2
    go_ret
    exact ⟨rfl, rfl⟩
  · rw [if_neg h] at h1
    rw [← h1]
    clear h1
    go_enter Try.func7, Try.ntmps7
    go_wp2
    go_ret
    exact ⟨rfl, rfl⟩
end Go.Proofs.Ytneknpkocjnmjaa
namespace Go.Proofs.Ytneknpkocjnmjaa
open Go.RowKit Go.Shelf
set_option linter.unusedVariables false

/-- A step that is handed in. -/
structure OpR where
  k : Int
  a : Int
  n : Int
  bp : Option Addr
  bs : List Nat
  bc : Nat
  v : Int
  kp : Option Addr
  kl : Nat
  kc : Nat
def OpR.vals (o : OpR) : Array Value := #[.int .i64 o.k, .int .i64 o.a, .int .i64 o.n, .slice o.bp o.bs.length o.bc, .int .u64 o.v, .slice o.kp o.kl o.kc]
structure OpR.Ok (W : World) (o : OpR) : Prop where
  sl : Sl W o.bp o.bs
  cap : o.bs.length ≤ o.bc
  len : o.bs.length ≤ 1048576
  lo : -9223372036854775808 ≤ o.a
  hi : o.a ≤ 9223372036854775807
  kL : -9223372036854775808 ≤ o.k
  kh : o.k ≤ 9223372036854775807
theorem OpR.Ok.below {W W' : World} {o : OpR} (h : o.Ok W) (hB : Below W.heap.size W W') : o.Ok W' := ⟨h.sl.below hB, h.cap, h.len, h.lo, h.hi, h.kL, h.kh⟩
/-- Where a step stores. -/
def OpR.at (o : OpR) : Nat := (o.a % 256).toNat
/-- What a step leaves. -/
structure RawD (o : OpR) (σ σ' : St) : Prop where
  n : σ'.n = σ.n
  off : σ'.off = false
  arms : σ'.arms = []
  ops : σ'.ops ≤ σ.ops + 40
  sure : ∀ a y, (o.k = 7 → a < o.at ∨ o.at + o.bs.length ≤ a) → a / 64 < σ.n → Sure σ a y → Sure σ' a y
theorem cut_bytes (g o len cap m : Nat) (hm : m ≤ len) (hl : len ≤ cap) (w : World) : (Instr.sliceAt 23 (.slice (some ⟨g, o, none⟩) len cap) none (some (.int .i64 (m : Int))) none).run Try.prog w = .ok (.slice (some ⟨g, o, none⟩) m cap) w := by
  obtain ⟨i0, hi, hz0, hz1, hz2⟩ := info_parts Try.info5
  have hc2 : m ≤ cap := by omega
  simp [Instr.sliceAt, Instr.slice, Sem.run_bind, run_underlying Try.underlying23, Instr.sliceBounds, Instr.sliceBound, asIntOf, sizeOf, typeInfo, hi, Addr.add_mid, hc2]
theorem Sl.take {W : World} {a : Option Addr} {bs : List Nat} (h : Sl W a bs) (m : Nat) : Sl W a (bs.take m) := by
  rcases h with h | ⟨g, o, e, h1, h2⟩
  · rw [h]; exact .inl (by simp)
  · refine .inr ⟨g, o, e, h1, fun i x hx => h2 i x ?_⟩
    rw [List.getElem?_take] at hx
    split at hx
    · exact hx
    · cases hx
section
variable {w W : World} {b : Nat} {L : Lay} {σ : St}
theorem raw_store {a : Option Addr} {bs : List Nat} {at_ cap : Nat} (hA : AtQ w W b L σ) (hn : σ.n = 4) (ho : σ.off = false) (harm : σ.arms = []) (hops : σ.ops + 2000000 ≤ 274877906944) (hlen : at_ + bs.length ≤ 256) (hs : Sl W a bs) (W1 : World) (hB : Below W.heap.size W W1) :
    Calls Try.prog 9 #[.slice a bs.length cap] W1 fun e W2 => e = .returned (.slice (some ⟨W1.heap.size, 0, none⟩) bs.length bs.length) ∧
      Calls Try.prog 19 #[.pointer (some ⟨b, 0, none⟩), .int .i64 (at_ : Int), .slice (some ⟨W1.heap.size, 0, none⟩) bs.length bs.length] W2 fun e W3 => e = .returned (.int .i64 0) ∧ ∃ L' σ', AtQ w W3 b L' σ' ∧ σ'.n = σ.n ∧ σ'.off = false ∧ σ'.arms = [] ∧ σ'.ops ≤ σ.ops + 40 ∧ ∀ a y, (a < at_ ∨ at_ + bs.length ≤ a) → a / 64 < σ.n → Sure σ a y → Sure σ' a y := by
  have hA1 := hA.below hB
  have hs1 := hs.below hB
  have hbs := hs.lt
  refine (copyBytes_any a cap bs W1 hs1 (by omega)).mono ?_
  rintro e W2 ⟨rfl, ho2, hb2⟩
  refine ⟨rfl, ?_⟩
  have hA2 := hA1.below hb2
  have hmx := hA.ok.max
  refine (psto_any at_ bs.length hA2.dev hA2.ok ho hA2.num harm (by omega) (ho2.sl hbs) (Nat.le_refl _) (by rw [hn]; exact hlen) (fun ad he => ?_)).mono ?_
  · cases he
    exact ⟨ho2.lt, fun hf => by have := hA1.dev.foot_is hf; simp at this⟩
  · rintro e W3 ⟨rfl, L', hd, hf, hg, hN, hsl⟩
    have hlk := write_like (at_ := at_) hbs (wordsOf at_ bs.length) σ hA.ok (wordsOf_lt (by rw [hn]; exact hlen) hmx) (by have := wordsOf_len (at_ := at_) (n := bs.length) (by omega); omega)
    have hw : (wordsOf at_ bs.length).length ≤ 40 := by
      rw [wordsOf_eq at_ bs.length (by omega)]
      split
      · simp
      · simp; omega
    refine ⟨rfl, L', _, hA2.step hd hlk.ok hf (fun k hk => hk) hg (by rw [hlk.ops]; have := hA2.num; omega), hlk.n, hlk.off.trans ho, hlk.arms.trans harm, by rw [hlk.ops]; omega, fun a y h1 h2 h3 => ?_⟩
    exact h3.store hbs hA.ok (by rw [hn]; exact hlen) (by omega) h2 h1
theorem raw_flush {at_ : Nat} (hA : AtQ w W b L σ) (hn : σ.n = 4) (ho : σ.off = false) (harm : σ.arms = []) (hops : σ.ops + 2000000 ≤ 274877906944) (hat : at_ < 256) (W1 : World) (hB : Below W.heap.size W W1) :
    Calls Try.prog 20 #[.pointer (some ⟨b, 0, none⟩), .int .i64 (at_ : Int)] W1 fun e W3 => e = .returned (.int .i64 0) ∧ ∃ L' σ', AtQ w W3 b L' σ' ∧ σ'.n = σ.n ∧ σ'.off = false ∧ σ'.arms = [] ∧ σ'.ops ≤ σ.ops + 40 ∧ ∀ a y, a / 64 < σ.n → Sure σ a y → Sure σ' a y := by
  have hA1 := hA.below hB
  refine (pflush_any hA1.dev hA1.ok ho harm at_ (by rw [hn]; exact hat) (by omega) hA1.num).mono ?_
  rintro e W3 ⟨rfl, L', hd, hf, hg, hN, hsl⟩
  exact ⟨rfl, L', _, hA1.step hd (flush_ok hA1.ok _ (by omega)) (fun k hk => .inl (hf k hk)) (fun k hk => hk) hg (by have := hA1.num; show L'.N ≤ σ.ops + 1; omega), rfl, ho, harm, by show σ.ops + 1 ≤ _; omega, fun a y _ h => h⟩
theorem raw_fence (hA : AtQ w W b L σ) (hn : σ.n = 4) (ho : σ.off = false) (harm : σ.arms = []) (hops : σ.ops + 2000000 ≤ 274877906944) (W1 : World) (hB : Below W.heap.size W W1) :
    Calls Try.prog 21 #[.pointer (some ⟨b, 0, none⟩)] W1 fun e W3 => e = .returned (.int .i64 0) ∧ ∃ L' σ', AtQ w W3 b L' σ' ∧ σ'.n = σ.n ∧ σ'.off = false ∧ σ'.arms = [] ∧ σ'.ops ≤ σ.ops + 40 ∧ ∀ a y, a / 64 < σ.n → Sure σ a y → Sure σ' a y := by
  have hA1 := hA.below hB
  refine (pfence_any hA1.dev hA1.ok ho harm (by omega)).mono ?_
  rintro e W3 ⟨rfl, L', hd, hf, hg, hN⟩
  exact ⟨rfl, L', _, hA1.step hd (fence_ok hA1.ok (by omega)) hf (fun k hk => hk) hg (by have := hA1.num; show L'.N ≤ σ.ops + 1; omega), rfl, ho, harm, by show σ.ops + 1 ≤ _; omega, fun a y _ h => Every.fence h⟩
set_option maxRecDepth 100000 in
set_option maxHeartbeats 1000000 in
theorem raw_7cut (a n : Int) (g off bl bc : Nat) (v : Int) (kp : Option Addr) (kl kc : Nat) (at_ m : Nat) (Post : World → Prop) (kw : ∀ X, Calls Try.prog 7 #[.int .i64 a, .int .i64 256] X fun e w' => e = .returned (.int .i64 (at_ : Int)) ∧ w' = X) (hat2 : at_ < 256) (hm : 256 - at_ = m) (hc : m < bl) (hcap : bl ≤ bc) (hb2 : bl ≤ 1048576) (ks : Calls Try.prog 9 #[.slice (some ⟨g, off, none⟩) m bc] (W.alloc (.cells #[.int .i64 7, .int .i64 a, .int .i64 n, .slice (some ⟨g, off, none⟩) bl bc, .int .u64 v, .slice kp kl kc] 35)) fun e W2 => e = .returned (.slice (some ⟨W.heap.size + 1, 0, none⟩) m m) ∧ Calls Try.prog 19 #[.pointer (some ⟨b, 0, none⟩), .int .i64 (at_ : Int), .slice (some ⟨W.heap.size + 1, 0, none⟩) m m] W2 fun e W3 => e = .returned (.int .i64 0) ∧ Post W3) :
    Calls Try.prog 6 #[.pointer (some ⟨b, 0, none⟩), .agg #[.int .i64 7, .int .i64 a, .int .i64 n, .slice (some ⟨g, off, none⟩) bl bc, .int .u64 v, .slice kp kl kc], .int .i64 256] W fun e W' => e = .returned (.tuple #[]) ∧ Post W' := by
  have KW := hide kw
  have KS := hide ks
  have atI : (at_ : Int) < 256 := by omega
  have ecut := fun X => cut_bytes g off bl bc m (by omega) hcap X
  have mI : (256 : Int) - (at_ : Int) = (m : Int) := by omega
  have mI2 : (m : Int) < (bl : Int) := by omega
  clear kw ks hm hc hcap
  go_enter Try.func6, Try.ntmps6
  go_wp2_with (first
    | (go_at_call 7; refine (KW.out _).mono ?_; rintro e w' ⟨rfl, hw⟩; obtain rfl := hw.symm)
    | (go_at_call 9; refine (KS.out).mono ?_; rintro e W2 ⟨rfl, hc2⟩; have KT := hide hc2; clear hc2)
    | (go_at_call 19; refine (KT.out).mono ?_; rintro e W3 ⟨rfl, hr⟩; have HR := hide hr; clear hr))
  go_end0
  exact ⟨rfl, HR.out⟩
set_option maxRecDepth 100000 in
set_option maxHeartbeats 1000000 in
theorem raw_7 (a n : Int) (bp : Option Addr) (bl bc : Nat) (v : Int) (kp : Option Addr) (kl kc : Nat) (at_ : Nat) (Post : World → Prop) (kw : ∀ X, Calls Try.prog 7 #[.int .i64 a, .int .i64 256] X fun e w' => e = .returned (.int .i64 (at_ : Int)) ∧ w' = X) (hat2 : at_ < 256) (hc : ¬ 256 - at_ < bl) (hb2 : bl ≤ 1048576) (ks : Calls Try.prog 9 #[.slice bp bl bc] (W.alloc (.cells #[.int .i64 7, .int .i64 a, .int .i64 n, .slice bp bl bc, .int .u64 v, .slice kp kl kc] 35)) fun e W2 => e = .returned (.slice (some ⟨W.heap.size + 1, 0, none⟩) bl bl) ∧ Calls Try.prog 19 #[.pointer (some ⟨b, 0, none⟩), .int .i64 (at_ : Int), .slice (some ⟨W.heap.size + 1, 0, none⟩) bl bl] W2 fun e W3 => e = .returned (.int .i64 0) ∧ Post W3) :
    Calls Try.prog 6 #[.pointer (some ⟨b, 0, none⟩), .agg #[.int .i64 7, .int .i64 a, .int .i64 n, .slice bp bl bc, .int .u64 v, .slice kp kl kc], .int .i64 256] W fun e W' => e = .returned (.tuple #[]) ∧ Post W' := by
  have KW := hide kw
  have atI : (at_ : Int) < 256 := by omega
  have KS := hide ks
  have mI2 : ¬ (256 : Int) - (at_ : Int) < (bl : Int) := by omega
  clear kw ks hc
  go_enter Try.func6, Try.ntmps6
  go_wp2_with (first
    | (go_at_call 7; refine (KW.out _).mono ?_; rintro e w' ⟨rfl, hw⟩; obtain rfl := hw.symm)
    | (go_at_call 9; refine (KS.out).mono ?_; rintro e W2 ⟨rfl, hc2⟩; have KT := hide hc2; clear hc2)
    | (go_at_call 19; refine (KT.out).mono ?_; rintro e W3 ⟨rfl, hr⟩; have HR := hide hr; clear hr))
  go_end0
  exact ⟨rfl, HR.out⟩
set_option maxRecDepth 100000 in
set_option maxHeartbeats 1000000 in
theorem raw_8 (a n : Int) (bp : Option Addr) (bl bc : Nat) (v : Int) (kp : Option Addr) (kl kc : Nat) (at_ : Nat) (Post : World → Prop) (kw : ∀ X, Calls Try.prog 7 #[.int .i64 a, .int .i64 256] X fun e w' => e = .returned (.int .i64 (at_ : Int)) ∧ w' = X) (hat2 : at_ < 256) (ks : Calls Try.prog 20 #[.pointer (some ⟨b, 0, none⟩), .int .i64 (at_ : Int)] (W.alloc (.cells #[.int .i64 8, .int .i64 a, .int .i64 n, .slice bp bl bc, .int .u64 v, .slice kp kl kc] 35)) fun e W3 => e = .returned (.int .i64 0) ∧ Post W3) :
    Calls Try.prog 6 #[.pointer (some ⟨b, 0, none⟩), .agg #[.int .i64 8, .int .i64 a, .int .i64 n, .slice bp bl bc, .int .u64 v, .slice kp kl kc], .int .i64 256] W fun e W' => e = .returned (.tuple #[]) ∧ Post W' := by
  have KW := hide kw
  have atI : (at_ : Int) < 256 := by omega
  have KS := hide ks
  clear kw ks
  go_enter Try.func6, Try.ntmps6
  go_wp2_with (first
    | (go_at_call 7; refine (KW.out _).mono ?_; rintro e w' ⟨rfl, hw⟩; obtain rfl := hw.symm)
    | (go_at_call 20; refine (KS.out).mono ?_; rintro e W3 ⟨rfl, hr⟩; have HR := hide hr; clear hr))
  go_end0
  exact ⟨rfl, HR.out⟩
set_option maxRecDepth 100000 in
set_option maxHeartbeats 1000000 in
theorem raw_9 (a n : Int) (bp : Option Addr) (bl bc : Nat) (v : Int) (kp : Option Addr) (kl kc : Nat) (at_ : Nat) (Post : World → Prop) (kw : ∀ X, Calls Try.prog 7 #[.int .i64 a, .int .i64 256] X fun e w' => e = .returned (.int .i64 (at_ : Int)) ∧ w' = X) (hat2 : at_ < 256) (ks : Calls Try.prog 21 #[.pointer (some ⟨b, 0, none⟩)] (W.alloc (.cells #[.int .i64 9, .int .i64 a, .int .i64 n, .slice bp bl bc, .int .u64 v, .slice kp kl kc] 35)) fun e W3 => e = .returned (.int .i64 0) ∧ Post W3) :
    Calls Try.prog 6 #[.pointer (some ⟨b, 0, none⟩), .agg #[.int .i64 9, .int .i64 a, .int .i64 n, .slice bp bl bc, .int .u64 v, .slice kp kl kc], .int .i64 256] W fun e W' => e = .returned (.tuple #[]) ∧ Post W' := by
  have KW := hide kw
  have atI : (at_ : Int) < 256 := by omega
  have KS := hide ks
  clear kw ks
  go_enter Try.func6, Try.ntmps6
  go_wp2_with (first
    | (go_at_call 7; refine (KW.out _).mono ?_; rintro e w' ⟨rfl, hw⟩; obtain rfl := hw.symm)
    | (go_at_call 21; refine (KS.out).mono ?_; rintro e W3 ⟨rfl, hr⟩; have HR := hide hr; clear hr))
  go_end0
  exact ⟨rfl, HR.out⟩
set_option maxRecDepth 100000 in
set_option maxHeartbeats 1000000 in
theorem raw_no (a n : Int) (bp : Option Addr) (bl bc : Nat) (v : Int) (kp : Option Addr) (kl kc : Nat) (at_ : Nat) (Post : World → Prop) (kw : ∀ X, Calls Try.prog 7 #[.int .i64 a, .int .i64 256] X fun e w' => e = .returned (.int .i64 (at_ : Int)) ∧ w' = X) (hat2 : at_ < 256) (k : Int) (h7 : ¬ k = 7) (h8 : ¬ k = 8) (h9 : ¬ k = 9) (hp : Post (W.alloc (.cells #[.int .i64 k, .int .i64 a, .int .i64 n, .slice bp bl bc, .int .u64 v, .slice kp kl kc] 35))) :
    Calls Try.prog 6 #[.pointer (some ⟨b, 0, none⟩), .agg #[.int .i64 k, .int .i64 a, .int .i64 n, .slice bp bl bc, .int .u64 v, .slice kp kl kc], .int .i64 256] W fun e W' => e = .returned (.tuple #[]) ∧ Post W' := by
  have KW := hide kw
  have atI : (at_ : Int) < 256 := by omega
  have HR := hide hp
  clear kw hp
  go_enter Try.func6, Try.ntmps6
  go_wp2_with (first
    | (go_at_call 7; refine (KW.out _).mono ?_; rintro e w' ⟨rfl, hw⟩; obtain rfl := hw.symm))
  go_end0
  exact ⟨rfl, HR.out⟩
set_option maxRecDepth 100000 in
theorem raw_any (o : OpR) (hA : AtQ w W b L σ) (hn : σ.n = 4) (ho : σ.off = false) (harm : σ.arms = []) (hops : σ.ops + 2000000 ≤ 274877906944) (hok : o.Ok W) :
    Calls Try.prog 6 #[.pointer (some ⟨b, 0, none⟩), .agg o.vals, .int .i64 256] W fun e W' => e = .returned (.tuple #[]) ∧ ∃ L' σ', AtQ w W' b L' σ' ∧ RawD o σ σ' := by
  obtain ⟨k, a, n, bp, bs, bc, v, kp, kl, kc⟩ := o
  obtain ⟨hsl, hcap, hbl, hlo, hhi, hkl, hkh⟩ := hok
  simp only at hsl hcap hbl hlo hhi hkl hkh
  show Calls Try.prog 6 #[.pointer (some ⟨b, 0, none⟩), .agg #[.int .i64 k, .int .i64 a, .int .i64 n, .slice bp bs.length bc, .int .u64 v, .slice kp kl kc], .int .i64 256] W _
  obtain ⟨at_, hat, hat2⟩ : ∃ at_ : Nat, a % 256 = (at_ : Int) ∧ at_ < 256 := ⟨(a % 256).toNat, by omega, by omega⟩
  have eat : (OpR.mk k a n bp bs bc v kp kl kc).at = at_ := by show (a % 256).toNat = at_; omega
  have kw := fun X => rwithin_any X a 256 (by omega) (by omega) hlo hhi
  rw [hat] at kw
  have hB1 : Below W.heap.size W (W.alloc (.cells #[.int .i64 k, .int .i64 a, .int .i64 n, .slice bp bs.length bc, .int .u64 v, .slice kp kl kc] 35)) := (Below.refl _ _).alloc (Nat.le_refl _) _
  by_cases h7 : k = 7
  · subst h7
    by_cases hc : 256 - at_ < bs.length
    · obtain ⟨m, hm⟩ : ∃ m, 256 - at_ = m := ⟨_, rfl⟩
      rw [hm] at hc
      obtain ⟨g, off, rfl⟩ : ∃ g off, bp = some ⟨g, off, none⟩ := by
        rcases hsl with e | ⟨g, off, e, _⟩
        · rw [e] at hc; simp at hc
        · exact ⟨g, off, e⟩
      have htl : (bs.take m).length = m := by rw [List.length_take]; omega
      have ks := raw_store (a := some ⟨g, off, none⟩) (bs := bs.take m) (at_ := at_) (cap := bc) hA hn ho harm hops (by rw [htl]; omega) (hsl.take m) _ hB1
      rw [htl, World.size_alloc] at ks
      refine (raw_7cut (b := b) (W := W) a n g off bs.length bc v kp kl kc at_ m _ kw hat2 hm hc hcap hbl ks).mono ?_
      rintro e W' ⟨rfl, L', σ', q1, q2, q3, q4, q5, q6⟩
      exact ⟨rfl, L', σ', q1, q2, q3, q4, q5, fun a' y h1 h2 h3 => q6 a' y ((h1 rfl).imp (fun h => by rw [eat] at h; exact h) (fun h => by rw [eat] at h; have h9 : at_ + bs.length ≤ a' := h; omega)) h2 h3⟩
    · have ks := raw_store (a := bp) (bs := bs) (at_ := at_) (cap := bc) hA hn ho harm hops (by omega) hsl _ hB1
      rw [World.size_alloc] at ks
      refine (raw_7 (b := b) (W := W) a n bp bs.length bc v kp kl kc at_ _ kw hat2 hc hbl ks).mono ?_
      rintro e W' ⟨rfl, L', σ', q1, q2, q3, q4, q5, q6⟩
      exact ⟨rfl, L', σ', q1, q2, q3, q4, q5, fun a' y h1 h2 h3 => q6 a' y ((h1 rfl).imp (fun h => by rw [eat] at h; exact h) (fun h => by rw [eat] at h; exact h)) h2 h3⟩
  · by_cases h8 : k = 8
    · subst h8
      refine (raw_8 (b := b) (W := W) a n bp bs.length bc v kp kl kc at_ _ kw hat2 (raw_flush (at_ := at_) hA hn ho harm hops hat2 _ hB1)).mono ?_
      rintro e W' ⟨rfl, L', σ', q1, q2, q3, q4, q5, q6⟩
      exact ⟨rfl, L', σ', q1, q2, q3, q4, q5, fun a' y h1 h2 h3 => q6 a' y h2 h3⟩
    · by_cases h9 : k = 9
      · subst h9
        refine (raw_9 (b := b) (W := W) a n bp bs.length bc v kp kl kc at_ _ kw hat2 (raw_fence hA hn ho harm hops _ hB1)).mono ?_
        rintro e W' ⟨rfl, L', σ', q1, q2, q3, q4, q5, q6⟩
        exact ⟨rfl, L', σ', q1, q2, q3, q4, q5, fun a' y h1 h2 h3 => q6 a' y h2 h3⟩
      · refine (raw_no (b := b) (W := W) a n bp bs.length bc v kp kl kc at_ (fun W' => AtQ w W' b L σ) kw hat2 k h7 h8 h9 (hA.below hB1)).mono ?_
        rintro e W' ⟨rfl, hF⟩
        exact ⟨rfl, L, σ, hF, rfl, ho, harm, by omega, fun a' y h1 h2 h3 => h3⟩
end
end Go.Proofs.Ytneknpkocjnmjaa
namespace Go.Proofs.Ytneknpkocjnmjaa
open Go.ChangeShapes Go.WideShapes Go.ChangeAt Go.RowKit
set_option linter.unusedVariables false
set_option maxRecDepth 100000

theorem Try.cellsOp : Try.prog.cellsOf 35 = 6 := by kernel_rfl
theorem Try.cellsRg : Try.prog.cellsOf 26 = 5 := by kernel_rfl
theorem Try.cellsI : Try.prog.cellsOf 3 = 1 := by kernel_rfl
theorem Try.cellsU : Try.prog.cellsOf 33 = 1 := by kernel_rfl
theorem Try.cellsY : Try.prog.cellsOf 23 = 1 := by kernel_rfl
theorem Try.cellsN : Try.prog.cellsOf 24 = 1 := by kernel_rfl
theorem Try.cellsO : Try.prog.cellsOf 22 = 1 := by kernel_rfl
/-- The six cells of a step. -/
theorem op_cells {H : Type} {enc : TypeId × Value → H} {W : World} (fuel : Nat) (cs : List Value) (x : DataW H × List MemPlace)
    (h : DataW.trod enc Try.prog W 0 (fun _ => true) true fuel 35 cs = some x) :
    ∃ o : OpR, cs = o.vals.toList ∧ (Sl W o.bp o.bs ∧ o.bs.length ≤ o.bc ∧ -9223372036854775808 ≤ o.a ∧ o.a ≤ 9223372036854775807 ∧ -9223372036854775808 ≤ o.k ∧ o.k ≤ 9223372036854775807) ∧ o.bs.length + 6 ≤ Rows.uptoBulk x.1 := by
  obtain ⟨xs, n, _, hx, hl, hlen, hf⟩ := DataW.trod_struct Try.underlying35 h
  rw [Try.cellsOp] at hl
  match cs, hl with
  | [c0, c1, c2, c3, c4, c5], _ =>
    match xs, hlen with
    | [y0, y1, y2, y3, y4, y5], _ =>
      have h0 := hf 0 _ rfl
      have h1 := hf 1 _ rfl
      have h2 := hf 2 _ rfl
      have h3 := hf 3 _ rfl
      have h4 := hf 4 _ rfl
      have h5 := hf 5 _ rfl
      simp [Try.cellsI, Try.cellsU, Try.cellsY, Try.cellsN] at h0 h1 h2 h3 h4 h5
      obtain ⟨kp, kl, kc, rfl⟩ : ∃ a l c, c5 = .slice a l c := by
        rcases open_ints Try.underlying24 Try.underlying3 (by kernel_rfl) h5 with ⟨e, _⟩ | ⟨a, l, c, _, e, _⟩
        · simp at e; exact ⟨_, _, _, e⟩
        · simp at e; exact ⟨_, _, _, e⟩
      obtain ⟨a, l, c, rfl⟩ : ∃ a l c, c3 = .slice a l c := by
        rcases open_ints Try.underlying23 Try.underlying5 (by kernel_rfl) h3 with ⟨e, _⟩ | ⟨a, l, c, _, e, _⟩
        · simp at e; exact ⟨_, _, _, e⟩
        · simp at e; exact ⟨_, _, _, e⟩
      obtain ⟨bs, rfl, hs, hbl, _, hcap, _, hbk⟩ := open_bytes_up (d := y3.1) (p := y3.2) ⟨n, h3⟩
      obtain ⟨z0, e0, _, w0⟩ := DataW.trod_int Try.underlying3 h0
      obtain ⟨z1, e1, _, w1⟩ := DataW.trod_int Try.underlying3 h1
      obtain ⟨z2, e2, _, w2⟩ := DataW.trod_int Try.underlying3 h2
      obtain ⟨z4, e4, _, w4⟩ := DataW.trod_int Try.underlying33 h4
      simp at e0 e1 e2 e4
      subst e0 e1 e2 e4
      have b0 := bounds_i64 w0
      have b1 := bounds_i64 w1
      refine ⟨⟨z0, z1, z2, a, bs, c, z4, kp, kl, kc⟩, rfl, ⟨hs, hcap, b1.1, b1.2, b0.1, b0.2⟩, ?_⟩
      have hbb : bs.length ≤ Rows.uptoBulk y3.1 := by
        rcases hbk with ⟨_, rfl⟩ | ⟨el, sp, e, h9⟩
        · simp
        · rw [e]
          have := bulk_len el
          simp only [Rows.uptoBulk]
          omega
      have p0 := bulk_pos y0.1
      have p1 := bulk_pos y1.1
      have p2 := bulk_pos y2.1
      have p4 := bulk_pos y4.1
      have p5 := bulk_pos y5.1
      subst hx
      simp only [List.map_cons, List.map_nil, Rows.uptoBulk, Rows.uptoBulkAll]
      show bs.length + 6 ≤ _
      omega
theorem open_ops {H : Type} {enc : TypeId × Value → H} {W : World} {fuel : Nat} {c : Value} {x : DataW H × List MemPlace} (h : DataW.trod enc Try.prog W 0 (fun _ => true) true fuel 22 [c] = some x) :
    ∃ (a : Option Addr) (xs : List OpR) (cap : Nat), c = .slice a xs.length cap ∧ RowC 6 (fun o : OpR => o.vals.toList) W a xs ∧ (∀ o ∈ xs, Sl W o.bp o.bs ∧ o.bs.length ≤ o.bc ∧ -9223372036854775808 ≤ o.a ∧ o.a ≤ 9223372036854775807 ∧ -9223372036854775808 ≤ o.k ∧ o.k ≤ 9223372036854775807) ∧ (xs.map (fun o => o.bs.length + 6)).sum + 1 ≤ Rows.uptoBulk x.1 := by
  obtain ⟨a, l, cap, rfl⟩ : ∃ a l cap, c = .slice a l cap := by
    rcases Go.Deep.open_slice Try.underlying22 h with ⟨e, _⟩ | ⟨a, l, c, _, _, _, _, e, _⟩
    · simp at e; exact ⟨_, _, _, e⟩
    · simp at e; exact ⟨_, _, _, e⟩
  obtain ⟨xs, rfl, h1, h2, h3, _⟩ := open_row (fun o : OpR => o.vals.toList) (fun o _ => Sl W o.bp o.bs ∧ o.bs.length ≤ o.bc ∧ -9223372036854775808 ≤ o.a ∧ o.a ≤ 9223372036854775807 ∧ -9223372036854775808 ≤ o.k ∧ o.k ≤ 9223372036854775807) (fun o => o.bs.length + 6) Try.underlying22 Try.cellsOp (by omega) (fun o => rfl) op_cells h
  exact ⟨a, xs, cap, rfl, h1, fun o ho => by obtain ⟨d, hd⟩ := h2 o ho; exact hd, h3⟩
/-- The list of what lines keep. -/
def IntsC (W : World) (a : Option Addr) (zs : List Int) : Prop := zs = [] ∨ ∃ b off, a = some ⟨b, off, none⟩ ∧ b < W.heap.size ∧ ∀ i z, zs[i]? = some z → W.cell? ⟨b, off + i, none⟩ = some (.int .i64 z)
theorem IntsC.below {W W' : World} {a : Option Addr} {zs : List Int} (h : IntsC W a zs) (hB : Below W.heap.size W W') : IntsC W' a zs := by
  rcases h with h | ⟨b, off, e, hb, hc⟩
  · exact .inl h
  · exact .inr ⟨b, off, e, Nat.lt_of_lt_of_le hb hB.size, fun i z hz => (hB.cell hb).trans (hc i z hz)⟩
theorem open_nums {H : Type} {enc : TypeId × Value → H} {W : World} {fuel : Nat} {c : Value} {x : DataW H × List MemPlace} (h : DataW.trod enc Try.prog W 0 (fun _ => true) true fuel 24 [c] = some x) :
    ∃ (a : Option Addr) (zs : List Int) (cap : Nat), c = .slice a zs.length cap ∧ IntsC W a zs ∧ (∀ z ∈ zs, -9223372036854775808 ≤ z ∧ z ≤ 9223372036854775807) ∧ zs.length + 1 ≤ Rows.uptoBulk x.1 ∧ zs.length ≤ cap := by
  rcases open_ints Try.underlying24 Try.underlying3 (by kernel_rfl) h with ⟨hcs, hx0⟩ | ⟨ad, l, cap, zs, hcs, _, hl, hm, hzl, hx, hcell, hwz⟩
  · simp at hcs
    subst hcs hx0
    exact ⟨none, [], 0, rfl, .inl rfl, by simp, by simp [Rows.uptoBulk], Nat.le_refl _⟩
  · simp at hcs
    subst hcs
    simp only [if_true] at hzl
    have htl : (zs.take l).length = l := by rw [List.length_take]; omega
    refine ⟨some ad, zs.take l, cap, by rw [htl], ?_, fun z hz => bounds_i64 (hwz z (List.mem_of_mem_take hz)), ?_, by omega⟩
    · by_cases h0 : l = 0
      · subst h0; exact .inl (by simp)
      · obtain ⟨b, off, spot⟩ := ad
        have hc := hcell 0 (by omega)
        have hspot : spot = none := by simpa [Addr.add] using World.cell?_spot hc
        subst hspot
        refine .inr ⟨b, off, rfl, World.block_lt_of_cell? _ _ hc, fun i y hy => ?_⟩
        have hi : i < l := by
          have := (List.getElem?_eq_some_iff.1 hy).1
          omega
        rw [List.getElem?_take, if_pos hi] at hy
        have h1 := hcell i (by omega)
        have e : (⟨b, off, none⟩ : Addr).add i = ⟨b, off + i, none⟩ := by simp [Addr.add]
        rw [e] at h1
        rw [h1, List.getD_eq_getElem?_getD, hy]
        rfl
    · rw [hx]
      have h5 := bulk_len (H := H) (lits .i64 (zs.take l))
      have h6 : (lits (H := H) .i64 (zs.take l)).length = l := by simp [lits]; omega
      simp only [Rows.uptoBulk]
      omega
/-- What a range with steps before and behind it is. -/
def RangeO (W : World) (bulk : Nat) (cs : List Value) : Prop :=
    ∃ (a1 a2 a3 a4 : Option Addr) (xs ys : List OpR) (bs : List Nat) (zs : List Int) (c1 c2 c3 c4 : Nat) (x : Int), cs = [.slice a1 xs.length c1, .int .i64 x, .slice a2 bs.length c2, .slice a3 ys.length c3, .slice a4 zs.length c4] ∧
      RowC 6 (fun o : OpR => o.vals.toList) W a1 xs ∧ (∀ o ∈ xs, Sl W o.bp o.bs ∧ o.bs.length ≤ o.bc ∧ -9223372036854775808 ≤ o.a ∧ o.a ≤ 9223372036854775807 ∧ -9223372036854775808 ≤ o.k ∧ o.k ≤ 9223372036854775807) ∧
      RowC 6 (fun o : OpR => o.vals.toList) W a3 ys ∧ (∀ o ∈ ys, Sl W o.bp o.bs ∧ o.bs.length ≤ o.bc ∧ -9223372036854775808 ≤ o.a ∧ o.a ≤ 9223372036854775807 ∧ -9223372036854775808 ≤ o.k ∧ o.k ≤ 9223372036854775807) ∧
      Sl W a2 bs ∧ bs.length ≤ c2 ∧ IntsC W a4 zs ∧ (∀ z ∈ zs, -9223372036854775808 ≤ z ∧ z ≤ 9223372036854775807) ∧ (-9223372036854775808 ≤ x ∧ x ≤ 9223372036854775807) ∧
      (xs.map (fun o => o.bs.length + 6)).sum + (ys.map (fun o => o.bs.length + 6)).sum + bs.length + zs.length ≤ bulk
theorem range_cells {H : Type} {enc : TypeId × Value → H} {W : World} {fuel : Nat} {cs : List Value} {x : DataW H × List MemPlace}
    (h : DataW.trod enc Try.prog W 0 (fun _ => true) true fuel 26 cs = some x) : RangeO W (Rows.uptoBulk x.1) cs := by
  obtain ⟨us, n, _, hx, hl, hlen, hf⟩ := DataW.trod_struct Try.underlying26 h
  rw [Try.cellsRg] at hl
  match cs, hl with
  | [k0, k1, k2, k3, k4], _ =>
    match us, hlen with
    | [y0, y1, y2, y3, y4], _ =>
      have h0 := hf 0 _ rfl
      have h1 := hf 1 _ rfl
      have h2 := hf 2 _ rfl
      have h3 := hf 3 _ rfl
      have h4 := hf 4 _ rfl
      simp [Try.cellsI, Try.cellsN, Try.cellsY, Try.cellsO] at h0 h1 h2 h3 h4
      obtain ⟨a2, l2, c2, rfl⟩ : ∃ a l c, k2 = .slice a l c := by
        rcases open_ints Try.underlying23 Try.underlying5 (by kernel_rfl) h2 with ⟨e, _⟩ | ⟨a, l, c, _, e, _⟩
        · simp at e; exact ⟨_, _, _, e⟩
        · simp at e; exact ⟨_, _, _, e⟩
      obtain ⟨bs, rfl, hs, hbl, _, hcap, _, hbk⟩ := open_bytes_up (d := y2.1) (p := y2.2) ⟨n, h2⟩
      have hbb : bs.length ≤ Rows.uptoBulk y2.1 := by
        rcases hbk with ⟨_, rfl⟩ | ⟨el, sp, e, h9⟩
        · simp
        · rw [e]
          have := bulk_len el
          simp only [Rows.uptoBulk]
          omega
      obtain ⟨a1, xs, c1, rfl, q1, q2, q3⟩ := open_ops h0
      obtain ⟨a3, ys, c3, rfl, r1, r2, r3⟩ := open_ops h3
      obtain ⟨a4, zs, c4, rfl, t1, t2, t3, _⟩ := open_nums h4
      obtain ⟨z1, e1, _, w1⟩ := DataW.trod_int Try.underlying3 h1
      simp at e1
      subst e1
      refine ⟨a1, a2, a3, a4, xs, ys, bs, zs, c1, c2, c3, c4, z1, rfl, q1, q2, r1, r2, hs, hcap, t1, t2, bounds_i64 w1, ?_⟩
      subst hx
      simp only [List.map_cons, List.map_nil, Rows.uptoBulk, Rows.uptoBulkAll]
      omega
theorem open_range {H : Type} {enc : TypeId × Value → H} {W : World} {r : Reach} {b0 : Nat} {v : Value} {d : DataW H} {p : List MemPlace}
    (hv : Value.okWide Try.prog W r b0 26 v) (h : DataW.Trod enc Try.prog W 0 (fun _ => true) true 26 v d p) : ∃ cs : List Value, v = .agg cs.toArray ∧ RangeO W (Rows.uptoBulk d) cs := by
  obtain ⟨cs, rfl, hsz⟩ := okWide_struct Try.underlying26 hv
  obtain ⟨fuel, hf⟩ := h
  have h1 := range_cells hf
  refine ⟨cs.toList, by rw [Array.toArray_toList], ?_⟩
  simpa [Value.cells] using h1
end Go.Proofs.Ytneknpkocjnmjaa
namespace Go.Proofs.Ytneknpkocjnmjaa
open Go.RowKit Go.Shelf
set_option linter.unusedVariables false

section
variable {w W : World} {b : Nat} {L : Lay}
theorem q_new : Calls Try.prog 4 #[.int .i64 128] w fun e W => ∃ b L, e = .returned (.tuple #[.pointer (some ⟨b, 0, none⟩), .int .i64 0]) ∧ AtQ w W b L (newD 2) := by
  refine (pnew_any w 2 (by omega) (by omega)).mono ?_
  rintro e W ⟨b, L, rfl, h1, h2, h3, h4⟩
  exact ⟨b, L, rfl, h1, newD_ok (by omega) (by omega), by rw [h4]; exact Nat.zero_le _, h2, h3⟩
theorem q_by (h : AtQ w W b L (newD 2)) : Calls Try.prog 8 #[.pointer (some ⟨b, 0, none⟩), .int .i64 60, .slice (some ⟨W.heap.size, 0, none⟩) 8 8] (W.alloc (.cells #[.int .u8 1, .int .u8 1, .int .u8 1, .int .u8 1, .int .u8 1, .int .u8 1, .int .u8 1, .int .u8 1] 5)) fun e W' => e = .returned (.int .i64 0) ∧ ∃ L', AtQ w W' b L' q1 := by
  have hA : Below W.heap.size W (W.alloc (.cells #[.int .u8 1, .int .u8 1, .int .u8 1, .int .u8 1, .int .u8 1, .int .u8 1, .int .u8 1, .int .u8 1] 5)) := (Below.refl _ W).alloc (Nat.le_refl _) _
  have ho : OwnB (W.alloc (.cells #[.int .u8 1, .int .u8 1, .int .u8 1, .int .u8 1, .int .u8 1, .int .u8 1, .int .u8 1, .int .u8 1] 5)) W.heap.size ones := heap_alloc_new W _
  have h' := h.below hA
  refine (qbytes_any (a := some ⟨W.heap.size, 0, none⟩) (bs := ones) 60 8 h'.dev h'.ok rfl h'.num rfl (by show 0 + 2000000 ≤ _; omega) (ho.sl ones_lt) (by decide) (by decide) (by decide) (fun ad he => ?_)).mono ?_
  · cases he
    exact ⟨ho.lt, fun hf => by have := h.dev.foot_is hf; simp at this⟩
  · rintro e W' ⟨rfl, ha⟩
    obtain ⟨h1, h2, h3, _⟩ := q1_like
    have e8 : ones.length = 8 := rfl
    exact ⟨rfl, h'.atd ha h1 (by rw [e8, wQ60, lQ60, h3]; show 0 + (2 + 2) ≤ 5; omega)⟩
theorem q_pub (h : AtQ w W b L q1) : Calls Try.prog 16 #[.pointer (some ⟨b, 0, none⟩), .int .i64 8, .int .u64 258] W fun e W' => e = .returned (.int .i64 0) ∧ ∃ L', AtQ w W' b L' q2 := by
  obtain ⟨g1, g2, g3, g4, g5⟩ := q1_like
  obtain ⟨h1, h2, h3, _⟩ := q2_like
  refine (qpub_any 258 8 h.dev h.ok g5 h.num g4 (by rw [g3]; omega) (by omega) (by omega) (by rw [g2]; omega)).mono ?_
  rintro e W' ⟨rfl, ha⟩
  exact ⟨rfl, h.atd ha h1 (by rw [wQ8, lQ8, h3, g3]; show 5 + (1 + 1) ≤ 8; omega)⟩
theorem q_cr (h : AtQ w W b L q2) : Calls Try.prog 10 #[.pointer (some ⟨b, 0, none⟩), .slice none 0 0] W fun e W' => e = .returned (.int .i64 0) ∧ ∃ L' σ', Lost q2 [] σ' ∧ AtQ w W' b L' σ' := by
  refine (pcrash_any (a := none) (kp := []) 0 h.dev h.ok q2_like.2.2.2.2 ⟨by simp, .inl ⟨rfl, rfl⟩⟩ (by simp)).mono ?_
  rintro e W' ⟨rfl, L', σ', h1, h2, h3, h4, h5⟩
  refine ⟨rfl, L', σ', h1, h.step h2 (Lost.ok h.ok h1) h3 (fun k hk => hk.elim (fun e => .inl e) (fun e => .inr (.inl e))) h4 ?_⟩
  have := h.num
  rw [h1.ops]
  omega
theorem q_wk {σ' : St} (h : AtQ w W b L σ') (ho : σ'.off = true) : Calls Try.prog 11 #[.pointer (some ⟨b, 0, none⟩)] W fun e W' => e = .returned (.int .i64 0) ∧ AtQ w W' b L { σ' with off := false } := by
  refine (pwake_off h.dev ho).mono ?_
  rintro e W' ⟨rfl, h1, h2⟩
  refine ⟨rfl, h.step h2 ⟨h.ok.pos, h.ok.max, h.ok.len, h.ok.byte, h.ok.out, h.ok.clen, h.ok.cbyte, h.ok.few, h.ok.flp, h.ok.opsm⟩ (fun k hk => .inl hk) (X := fun k => k = b) (fun k hk => .inl hk) ?_ h.num⟩
  rw [h1]
  exact Gr.set W b 7 _ rfl
theorem q_ld {σ' : St} (h : AtQ w W b L { σ' with off := false }) (hl : Lost q2 [] σ') (at_ n : Nat) (hn : at_ + n ≤ 64) (W2 : World) (hB : Below W.heap.size W W2) : Calls Try.prog 12 #[.pointer (some ⟨b, 0, none⟩), .int .i64 (at_ : Int), .int .i64 (n : Int)] W2 fun e W' => ∃ R, e = .returned (.tuple #[.slice (some ⟨R, 0, none⟩) n n, .int .i64 0]) ∧ OwnB W' R ((lineQ.drop at_).take n) ∧ Below W2.heap.size W2 W' := by
  have hn2 : σ'.n = 2 := by rw [hl.n]; exact q2_like.2.1
  refine (callsIn_wide.1 (pload_in (at_ := at_) (n := n) (h.dev.below hB) h.ok rfl (by show at_ + n ≤ 64 * σ'.n; rw [hn2]; omega))).mono ?_
  rintro e W' ⟨R, rfl, h1, h2, h3⟩
  refine ⟨R, rfl, ?_, h3⟩
  have hli := hl.lines 0 (by rw [q2_like.2.1]; omega)
  rw [q2_lost] at hli
  have hb : (σ'.bytes.drop at_).take n = (lineQ.drop at_).take n := by
    rw [← hli]
    unfold St.line
    refine List.ext_getElem? fun q => ?_
    rw [List.getElem?_take, List.getElem?_take, List.getElem?_drop, List.getElem?_drop, List.getElem?_take]
    split
    · rw [if_pos (by omega)]
      simp
    · rfl
  have h6 : W'.heap[R]? = some (.cells (((σ'.bytes.drop at_).take n).map B8).toArray 5 (0, 0)) := h2
  rw [hb] at h6
  exact h6
set_option maxRecDepth 100000 in
set_option maxHeartbeats 1000000 in
theorem qworks_any (w : World) : Calls Try.prog 5 #[] w fun e w' => e = .returned (.bool true) ∧ Below w.heap.size w w' := by
  have K0 := hide (q_new (w := w))
  have M1 := hide trivial
  go_enter Try.func5, Try.ntmps5
  go_wp2_with (first
    | (go_at_call 4; refine (K0.out).mono ?_; rintro e W0 ⟨b, L0, rfl, hA⟩; have K1 := hide (q_by hA); clear hA)
    | (go_at_call 8; refine (K1.out).mono ?_; rintro e W1 ⟨rfl, L1, hA⟩; have ko := pops_any hA.dev; rw [q1_like.2.2.1] at ko; have KO := hide ko; have K2 := hide (q_pub hA); clear hA ko)
    | (go_at_call 15; clear M1; refine (KO.out).mono ?_; rintro e w' ⟨rfl, hw⟩; obtain rfl := hw.symm)
    | (go_at_call 16; refine (K2.out).mono ?_; rintro e W2 ⟨rfl, L2, hA⟩; have K3 := hide (q_cr hA); clear hA)
    | (go_at_call 10; refine (K3.out).mono ?_; rintro e W3 ⟨rfl, L3, σ3, hl, hA⟩; have K4 := hide (q_wk hA hl.off); have HL := hide hl; clear hA hl)
    | (go_at_call 11; refine (K4.out).mono ?_; rintro e W4 ⟨rfl, hA⟩; have kw := qword (w := W4) (p := some ⟨b, 0, none⟩) 8 (by omega) (by omega) [2, 1, 0, 0, 0, 0, 0, 0] rfl (by decide) (fun X hX => q_ld hA HL.out 8 8 (by omega) X hX); have KW := hide kw; have HA4 := hide hA; clear hA kw)
    | (go_at_call 17; refine (KW.out).mono ?_; rintro e W5 ⟨rfl, hb5⟩; have hA5 := HA4.out.below hb5; have kf := qfload16 (w := W5) (p := some ⟨b, 0, none⟩) 9 [1, 0] rfl (by decide) (fun X hX => q_ld hA5 HL.out 9 2 (by omega) X hX); have KF := hide kf; have HA5 := hide hA5; clear hb5 hA5 kf)
    | (go_at_call 18; refine (KF.out).mono ?_; rintro e W6 ⟨rfl, hb6⟩; have hA6 := HA5.out.below hb6; have ko := pops_any hA6.dev; rw [show ({ σ3 with off := false } : St).ops = 8 from HL.out.ops.trans q2_like.2.2.1] at ko; have KO2 := hide ko; have HB6 := hide hA6.bel; clear hb6 hA6 ko)
    | (go_at_call 15; refine (KO2.out).mono ?_; rintro e w' ⟨rfl, hw⟩; obtain rfl := hw.symm))
  go_ret
  exact ⟨by simp, HB6.out⟩
end
end Go.Proofs.Ytneknpkocjnmjaa
namespace Go.Proofs.Ytneknpkocjnmjaa
open Go.RowKit Go.Shelf
set_option linter.unusedVariables false

theorem index_op (g o i len cap : Nat) (hi : i < len) (w : World) : (Instr.indexAt 22 (.slice (some ⟨g, o, none⟩) len cap) (.int .i64 (i : Int))).run Try.prog w = .ok (.pointer (some ⟨g, o + i * 6, none⟩)) w :=
  index_at (t := 22) (e := 35) (sz := 6) Try.underlying22 (by kernel_rfl) g o i len cap hi w
/-- A device of four lines under way. -/
structure Run4 (w W : World) (b : Nat) (L : Lay) (σ : St) (k : Nat) : Prop where
  at_ : AtQ w W b L σ
  n : σ.n = 4
  off : σ.off = false
  arms : σ.arms = []
  ops : σ.ops ≤ 40 * k
/-- The bytes of a range, in every content. -/
def Keeps (σ : St) (at_ : Nat) (bs : List Nat) : Prop := ∀ i x, bs[i]? = some x → Sure σ (at_ + i) x
theorem le_sum_of_mem : ∀ (l : List Nat) (x : Nat), x ∈ l → x ≤ l.sum
  | [], x, h => by simp at h
  | y :: r, x, h => by
    rw [List.sum_cons]
    rcases List.mem_cons.1 h with h | h
    · omega
    · have := le_sum_of_mem r x h; omega
theorem ops_len {xs : List OpR} {i : Nat} {o : OpR} {N : Nat} (h : (xs.map (fun o => o.bs.length + 6)).sum ≤ N) (hx : xs[i]? = some o) : o.bs.length ≤ N := by
  have h1 : o ∈ xs := List.mem_of_getElem? hx
  have h2 := le_sum_of_mem (xs.map (fun o => o.bs.length + 6)) (o.bs.length + 6) (List.mem_map.2 ⟨o, h1, rfl⟩)
  omega
theorem ops_few {xs : List OpR} {N : Nat} (h : (xs.map (fun o => o.bs.length + 6)).sum ≤ N) : 6 * xs.length ≤ N := by
  have h1 : ∀ l : List OpR, 6 * l.length ≤ (l.map (fun o => o.bs.length + 6)).sum := by
    intro l
    induction l with
    | nil => simp
    | cons a r ih => simp only [List.map_cons, List.sum_cons, List.length_cons]; omega
  have := h1 xs
  omega
/-- The steps ahead. -/
theorem run_before {w W : World} {b k : Nat} {L : Lay} {σ : St} {o : OpR} (h : Run4 w W b L σ k) (hk : k ≤ 400000) (ho : o.Ok W) : Calls Try.prog 6 #[.pointer (some ⟨b, 0, none⟩), .agg #[.int .i64 o.k, .int .i64 o.a, .int .i64 o.n, .slice o.bp o.bs.length o.bc, .int .u64 o.v, .slice o.kp o.kl o.kc], .int .i64 256] W fun e W' => e = .returned (.tuple #[]) ∧ ∃ L' σ', Run4 w W' b L' σ' (k + 1) ∧ RawD o σ σ' := by
  have hops := h.ops
  refine (raw_any o h.at_ h.n h.off h.arms (by omega) ho).mono ?_
  rintro e W' ⟨rfl, L', σ', h1, h2⟩
  exact ⟨rfl, L', σ', ⟨h1, h2.n.trans h.n, h2.off, h2.arms, by have := h2.ops; omega⟩, h2⟩
/-- Bytes, and what it leaves. -/
theorem run_bytes {w W : World} {b k at_ : Nat} {L : Lay} {σ : St} {bs : List Nat} (h : Run4 w W b L σ k) (hk : k ≤ 400000) (hbs : ∀ x ∈ bs, x < 256) (hlen : at_ + bs.length ≤ 256) (W2 : World) (hB : Below W.heap.size W W2) (ho : OwnB W2 W.heap.size bs) : Calls Try.prog 8 #[.pointer (some ⟨b, 0, none⟩), .int .i64 (at_ : Int), .slice (some ⟨W.heap.size, 0, none⟩) bs.length bs.length] W2 fun e W' => e = .returned (.int .i64 0) ∧ ∃ L' σ', Run4 w W' b L' σ' (k + 2) ∧ Keeps σ' at_ bs := by
  have hA2 := h.at_.below hB
  have hops := h.ops
  by_cases h0 : bs.length = 0
  · have hb0 : bs = [] := List.eq_nil_of_length_eq_zero h0
    subst hb0
    refine (no_bytes hA2.dev hA2.ok h.off (at_ : Int) _ _).mono ?_
    rintro e W' ⟨rfl, hb⟩
    exact ⟨rfl, L, σ, ⟨hA2.below hb, h.n, h.off, h.arms, by omega⟩, fun i x hx => by simp at hx⟩
  · refine (qbytes_any at_ bs.length hA2.dev hA2.ok h.off hA2.num h.arms (by omega) (ho.sl hbs) (Nat.le_refl _) (by omega) (by rw [h.n]; exact hlen) (fun ad he => ?_)).mono ?_
    · cases he
      exact ⟨ho.lt, fun hf => by have := h.at_.dev.foot_is hf; simp at this⟩
    · rintro e W' ⟨rfl, ha⟩
      obtain ⟨g1, g2, g3, g4, g5⟩ := bytes_like (bs := bs) (at_ := at_) (σ := σ) hbs hA2.ok (by rw [h.n]; exact hlen) (by omega)
      obtain ⟨L', hA'⟩ := hA2.atd ha g1 (by rw [g3]; omega)
      have hw : (wordsOf at_ bs.length).length ≤ 40 := by
        rw [wordsOf_eq at_ bs.length (by omega)]
        split
        · simp
        · simp; omega
      have hl : (linesOf at_ bs.length).length ≤ 20 := by
        rw [linesOf_eq at_ bs.length (by omega)]
        split
        · simp
        · simp; omega
      exact ⟨rfl, L', _, ⟨hA', g2.trans h.n, g5.trans h.off, g4.trans h.arms, by rw [g3]; omega⟩, fun i x hx => bytes_sure hbs hA2.ok (by rw [h.n]; exact hlen) (by omega) hx⟩
theorem Keeps.raw {o : OpR} {σ σ' : St} {at_ : Nat} {bs : List Nat} (h : Keeps σ at_ bs) (hn : σ.n = 4) (hlen : at_ + bs.length ≤ 256) (hr : RawD o σ σ') (hd : o.k = 7 → at_ + bs.length ≤ o.at ∨ o.at + o.bs.length ≤ at_) : Keeps σ' at_ bs := fun i x hx => by
  have hi : i < bs.length := (List.getElem?_eq_some_iff.1 hx).1
  exact hr.sure _ _ (fun e => by rcases hd e with h1 | h1 <;> omega) (by rw [hn]; omega) (h i x hx)
/-- The power goes and comes back; the bytes are loaded. -/
theorem run_crash {w W : World} {b k at_ c : Nat} {L : Lay} {σ : St} {bs kp : List Nat} {a : Option Addr} (h : Run4 w W b L σ k) (hK : Keeps σ at_ bs) (hlen : at_ + bs.length ≤ 256) (hk : SlN W a kp) (hkl : kp.length ≤ 274877906944) : Calls Try.prog 10 #[.pointer (some ⟨b, 0, none⟩), .slice a kp.length c] W fun e W2 => e = .returned (.int .i64 0) ∧
    Calls Try.prog 11 #[.pointer (some ⟨b, 0, none⟩)] W2 fun e W3 => e = .returned (.int .i64 0) ∧
      Calls Try.prog 12 #[.pointer (some ⟨b, 0, none⟩), .int .i64 (at_ : Int), .int .i64 (bs.length : Int)] W3 fun e W4 => ∃ R, e = .returned (.tuple #[.slice (some ⟨R, 0, none⟩) bs.length bs.length, .int .i64 0]) ∧ OwnB W4 R bs ∧ Below w.heap.size w W4 := by
  refine (pcrash_any c h.at_.dev h.at_.ok h.off hk hkl).mono ?_
  rintro e W2 ⟨rfl, L', σ', h1, h2, h3, h4, h5⟩
  have hA2 : AtQ w W2 b L' σ' := h.at_.step h2 (Lost.ok h.at_.ok h1) h3 (fun k hk => hk.elim (fun e => .inl e) (fun e => .inr (.inl e))) h4 (by have := h.at_.num; rw [h1.ops]; omega)
  refine ⟨rfl, (q_wk hA2 h1.off).mono ?_⟩
  rintro e W3 ⟨rfl, hA3⟩
  have hn : σ'.n = 4 := h1.n.trans h.n
  refine ⟨rfl, (callsIn_wide.1 (pload_in (at_ := at_) (n := bs.length) hA3.dev hA3.ok rfl (by show _ ≤ 64 * σ'.n; rw [hn]; exact hlen))).mono ?_⟩
  rintro e W4 ⟨R, rfl, r1, r2, r3⟩
  refine ⟨R, rfl, ?_, hA3.bel.trans (r3.mono hA3.bel.size)⟩
  have hb : (σ'.bytes.drop at_).take bs.length = bs := by
    refine List.ext_getElem? fun q => ?_
    rw [List.getElem?_take]
    by_cases hq : q < bs.length
    · rw [if_pos hq, List.getElem?_drop]
      obtain ⟨x, hx⟩ : ∃ x, bs[q]? = some x := ⟨_, List.getElem?_eq_getElem hq⟩
      rw [hx]
      exact (hK q x hx).lost h1 (by rw [h.n]; omega)
    · rw [if_neg hq, List.getElem?_eq_none (by omega)]
  have h6 : W4.heap[R]? = some (.cells (((σ'.bytes.drop at_).take bs.length).map B8).toArray 5 (0, 0)) := r2
  rw [hb] at h6
  exact h6
end Go.Proofs.Ytneknpkocjnmjaa
namespace Go.Proofs.Ytneknpkocjnmjaa
open Go.RowKit Go.Shelf
set_option linter.unusedVariables false

theorem index_num (g o i len cap : Nat) (hi : i < len) (w : World) : (Instr.indexAt 24 (.slice (some ⟨g, o, none⟩) len cap) (.int .i64 (i : Int))).run Try.prog w = .ok (.pointer (some ⟨g, o + i, none⟩)) w := by
  have h := index_at (t := 24) (e := 3) (sz := 1) Try.underlying24 (by kernel_rfl) g o i len cap hi w
  rwa [Nat.mul_one] at h
theorem infoI : ∃ i, Try.prog.info? 3 = some i ∧ i.zero = some (.int .i64 0) ∧ i.size = 1 ∧ i.bytes = 8 := by
  have h : (Try.prog.info? 3).map (fun i => (i.zero, i.size, i.bytes)) = some (some (.int .i64 0), 1, 8) := by kernel_rfl
  obtain ⟨i, h1, h2⟩ := Option.map_eq_some_iff.1 h
  simp only [Prod.mk.injEq] at h2
  exact ⟨i, h1, h2.1, h2.2.1, h2.2.2⟩
theorem cellOne (W : World) (x : Value) (t : TypeId) : ∀ j u, [x][j]? = some u → (W.alloc (.cells #[x] t)).cell? ((⟨W.heap.size, 0, none⟩ : Addr).add j) = some u := fun j u hu => by
  have h := heap_alloc_new W (.cells #[x] t)
  match j, hu with
  | 0, hu =>
    cases hu
    have e : (⟨W.heap.size, 0, none⟩ : Addr).add 0 = ⟨W.heap.size, 0, none⟩ := by simp [Addr.add]
    rw [e, cell8 h 0]
    rfl
  | n + 1, hu => simp at hu
theorem sizeOne (W : World) (o : Obj) {n : Nat} (h : n ≤ W.heap.size) : n ≤ (W.alloc o).heap.size := by simp; omega
def I64 (k : Nat) : Value := .int .i64 (k : Int)
/-- An owned row of ints, as a list of what lines keep. -/
theorem slN_own {W : World} {B n : Nat} {v : Value} {ks : List Nat} (h : W.ownsRow B 3 1 v n (ks.map I64)) (hn : ks.length = n) (hk : ∀ x ∈ ks, x < 1000) : ∃ a c, v = .slice a ks.length c ∧ SlN W a ks := by
  rcases h.2 with ⟨e, h0⟩ | ⟨g, cap, cur, e, h1, h2, h3, _, h4, h5⟩
  · have : ks = [] := List.eq_nil_of_length_eq_zero (by omega)
    subst this
    exact ⟨none, 0, e, by simp, .inl ⟨rfl, rfl⟩⟩
  · refine ⟨some ⟨g, 0, none⟩, cap, by rw [e, hn], fun x hx => by have := hk x hx; omega, .inr ⟨_, _, _, _, rfl, h2, fun j x hj => ?_⟩⟩
    have hlt : j < ks.length := (List.getElem?_eq_some_iff.1 hj).1
    have h6 : (cur.toList.take (n * 1))[j]? = some (I64 x) := by rw [h5, List.getElem?_map, hj]; rfl
    rw [List.getElem?_take, if_pos (by omega)] at h6
    rw [Nat.zero_add, cell8 h2]
    simpa [I64] using h6
set_option maxRecDepth 100000 in
set_option maxHeartbeats 2000000 in
theorem persistLasts_walk (w : World) (cs : List Value) (hR : RangeO w 1048576 cs) :
    Calls Try.prog 3 #[.agg cs.toArray] w fun e w' => e = .returned (.bool true) ∧ Below w.heap.size w w' := by
  obtain ⟨a1, a2, a3, a4, xs, ys, bs, zs, c1, c2, c3, c4, x, rfl, hx1, hx2, hy1, hy2, hb1, hb2, hz1, hz2, hxb, hbulk⟩ := hR
  obtain ⟨i0, hi0, hz0, hz1', hz2'⟩ := infoI
  obtain ⟨at_, hat, hat2⟩ : ∃ at_ : Nat, x % 256 = (at_ : Int) ∧ at_ < 256 := ⟨(x % 256).toNat, by omega, by omega⟩
  have kw1 := fun X => rwithin_any X x 256 (by omega) (by omega) hxb.1 hxb.2
  rw [hat] at kw1
  have fx1 := ops_few (xs := xs) (N := 1048576) (by omega)
  have fy1 := ops_few (xs := ys) (N := 1048576) (by omega)
  have lx := fun (i : Nat) (o : OpR) (h : xs[i]? = some o) => ops_len (xs := xs) (N := 1048576) (by omega) h
  have ly := fun (i : Nat) (o : OpR) (h : ys[i]? = some o) => ops_len (xs := ys) (N := 1048576) (by omega) h
  have hbl : bs.length ≤ 1048576 := by omega
  have hzl : zs.length ≤ 1048576 := by omega
  obtain ⟨w0, hw0⟩ : ∃ w0, w.alloc (.cells #[.slice a1 xs.length c1, .int .i64 x, .slice a2 bs.length c2, .slice a3 ys.length c3, .slice a4 zs.length c4] 26) = w0 := ⟨_, rfl⟩
  have hB0 : Below w.heap.size w w0 := by rw [← hw0]; exact (Below.refl _ _).alloc (Nat.le_refl _) _
  have hbox : w0.heap[w.heap.size]? = some (.cells #[.slice a1 xs.length c1, .int .i64 x, .slice a2 bs.length c2, .slice a3 ys.length c3, .slice a4 zs.length c4] 26 (0, 0)) := by rw [← hw0]; exact heap_alloc_new w _
  have hs0 : w0.heap.size = w.heap.size + 1 := by rw [← hw0]; simp
  have fx : ∀ W, Below w0.heap.size w0 W → W.cell? ⟨w.heap.size, 0, none⟩ = some (.slice a1 xs.length c1) ∧ W.cell? ⟨w.heap.size, 1, none⟩ = some (.int .i64 x) ∧ W.cell? ⟨w.heap.size, 2, none⟩ = some (.slice a2 bs.length c2) ∧ W.cell? ⟨w.heap.size, 3, none⟩ = some (.slice a3 ys.length c3) ∧ W.cell? ⟨w.heap.size, 4, none⟩ = some (.slice a4 zs.length c4) := fun W hW => by
    have h1 := (hW.block w.heap.size (by omega)).trans hbox
    exact ⟨cell8 h1 0, cell8 h1 1, cell8 h1 2, cell8 h1 3, cell8 h1 4⟩
  have k0 : Calls Try.prog 4 #[.int .i64 256] w0 fun e W => ∃ b L, e = .returned (.tuple #[.pointer (some ⟨b, 0, none⟩), .int .i64 0]) ∧ Run4 w0 W b L (newD 4) 0 := by
    refine (pnew_any w0 4 (by omega) (by omega)).mono ?_
    rintro e W ⟨b, L, rfl, h1, h2, h3, h4⟩
    exact ⟨b, L, rfl, ⟨h1, newD_ok (by omega) (by omega), by rw [h4]; exact Nat.zero_le _, h2, h3⟩, rfl, rfl, rfl, Nat.zero_le _⟩
  rw [← hw0] at k0
  have opx : ∀ W, Below w0.heap.size w0 W → ∀ i o, xs[i]? = some o → ∃ g off, a1 = some ⟨g, off, none⟩ ∧ o.Ok W ∧ ∀ j v, o.vals.toList[j]? = some v → W.cell? ⟨g, off + i * 6 + j, none⟩ = some v := fun W hW i o ho => by
    obtain ⟨g, off, e, _, hc⟩ := ((hx1.below hB0).below hW).at ho
    have hm := List.mem_of_getElem? ho
    obtain ⟨q1, q2, q3, q4, q5, q6⟩ := hx2 o hm
    exact ⟨g, off, e, ⟨(q1.below hB0).below hW, q2, lx i o ho, q3, q4, q5, q6⟩, hc⟩
  have opy : ∀ W, Below w0.heap.size w0 W → ∀ i o, ys[i]? = some o → ∃ g off, a3 = some ⟨g, off, none⟩ ∧ o.Ok W ∧ ∀ j v, o.vals.toList[j]? = some v → W.cell? ⟨g, off + i * 6 + j, none⟩ = some v := fun W hW i o ho => by
    obtain ⟨g, off, e, _, hc⟩ := ((hy1.below hB0).below hW).at ho
    have hm := List.mem_of_getElem? ho
    obtain ⟨q1, q2, q3, q4, q5, q6⟩ := hy2 o hm
    exact ⟨g, off, e, ⟨(q1.below hB0).below hW, q2, ly i o ho, q3, q4, q5, q6⟩, hc⟩
  have hbw : ∀ W, Below w0.heap.size w0 W → Sl W a2 bs := fun W hW => (hb1.below hB0).below hW
  have hzw : ∀ W, Below w0.heap.size w0 W → IntsC W a4 zs := fun W hW => (hz1.below hB0).below hW
  have OPX := hide opx
  have OPY := hide opy
  have HBW := hide hbw
  have HZW := hide hzw
  have HZ2 := hide hz2
  have FX := hide fx
  have K0 := hide k0
  have KW1 := hide kw1
  have HB0 := hide hB0
  have HW0 := hide hw0
  have HBC := hide hb2
  have HBS := hide hb1.lt
  have atI : (at_ : Int) < 256 := by omega
  clear opx opy hbw hzw hz2 fx k0 kw1 hB0 hbox hs0 lx ly hx1 hx2 hy1 hy2 hb1 hz1 hbulk hat hxb hb2
  generalize hxl : xs.length = nx at *
  generalize hyl : ys.length = ny at *
  generalize hzl2 : zs.length = nz at *
  generalize hbl2 : bs.length = nb at *
  have HXL := hide hxl
  have HYL := hide hyl
  have HZL := hide hzl2
  have HBL := hide hbl2
  have nxI : (nx : Int) ≤ 400000 := by omega
  have nyI : (ny : Int) ≤ 400000 := by omega
  have nzI : (nz : Int) ≤ 1048576 := by omega
  have nbI : (nb : Int) ≤ 1048576 := by omega
  clear hxl hyl hzl2 hbl2 hw0
  go_enter Try.func3, Try.ntmps3
  go_wp2_with (first
    | (go_at_call 4; refine (K0.out).mono ?_; rintro e W1 ⟨b, L, rfl, hA⟩; rw [HW0.out] at hA; have HA := hide hA; clear hA)
    | (go_at_call 5; refine (qworks_any _).mono ?_; rintro e W2 ⟨rfl, hb⟩; have HA2 := hide (show Run4 w0 W2 b L (newD 4) 0 from ⟨HA.out.at_.below hb, HA.out.n, HA.out.off, HA.out.arms, HA.out.ops⟩); clear hb))
  try go_frame
  go_loopw [5] (fun iv wr => ∃ (i : Nat) (L' : Lay) (σ : St), iv = .int .i64 (i : Int) ∧ i ≤ nx ∧ Run4 w0 wr b L' σ i) (fun iv _ => (nx - (intOf iv).toNat))
  case atStart => exact ⟨0, L, newD 4, rfl, Nat.zero_le _, HA2.out⟩
  case round =>
    obtain ⟨i, L1, σ1, rfl, hi, hrun⟩ := hrel
    obtain ⟨f0, f1, f2, f3, f4⟩ := FX.out wr hrun.at_.bel
    by_cases hlt : i < nx
    · have iI : (i : Int) < (nx : Int) := by omega
      obtain ⟨o, ho⟩ : ∃ o, xs[i]? = some o := ⟨_, List.getElem?_eq_getElem (by rw [HXL.out]; exact hlt)⟩
      obtain ⟨g, off, rfl, hok, hc⟩ := OPX.out wr hrun.at_.bel i o ho
      have d0 := hc 0 _ rfl
      have d1 := hc 1 _ rfl
      have d2 := hc 2 _ rfl
      have d3 := hc 3 _ rfl
      have d4 := hc 4 _ rfl
      have d5 := hc 5 _ rfl
      simp only [Nat.add_zero] at d0
      have ix := fun X => index_op g off i nx c1 hlt X
      have KR := hide (run_before hrun (by omega) hok)
      clear hc hok hrun ho OPX OPY f1 f2 f3 f4
      generalize o.bs.length = ol at *
      go_wp2_with (go_at_call 6; refine (KR.out).mono ?_; rintro e W3 ⟨rfl, L2, σ2, hr, _⟩; have HR := hide hr; clear hr)
      go_roundw
      case rel => exact ⟨i + 1, L2, σ2, int_congrP (by omega), by omega, HR.out⟩
      case measure => simp [intOf]; omega
    · have iI : ¬ (i : Int) < (nx : Int) := by omega
      obtain rfl : i = nx := by omega
      have HRUN := hide hrun
      clear hrun OPX
      obtain ⟨m, hm⟩ : ∃ m, m = min nb (256 - at_) := ⟨_, rfl⟩
      have HM := hide hm
      have hbm : ((bs.take m).length = m) ∧ at_ + m ≤ 256 ∧ m ≤ nb := by rw [List.length_take, HBL.out]; omega
      have HBM := hide hbm
      by_cases hcut : 256 - at_ < nb
      · have hm1 : m = 256 - at_ := by omega
        obtain ⟨g2, o2, rfl⟩ : ∃ g off, a2 = some ⟨g, off, none⟩ := by
          rcases HBW.out wr HRUN.out.at_.bel with e | ⟨g, off, e, _⟩
          · have h9 := HBL.out; rw [e] at h9; simp at h9; omega
          · exact ⟨g, off, e⟩
        have ecut := fun X => cut_bytes g2 o2 nb c2 m (by omega) HBC.out X
        have mI : (256 : Int) - (at_ : Int) = (m : Int) := by omega
        have mI2 : (m : Int) < (nb : Int) := by omega
        clear hm hm1 hbm hcut
        go_upto_region 12 with (go_at_call 7; refine (KW1.out _).mono ?_; rintro e w' ⟨rfl, hw⟩; obtain rfl := hw.symm)
        clear ecut mI mI2
        generalize (some (⟨g2, o2, none⟩ : Addr)) = a2 at *
        have hcb := copyBytes_any a2 c2 (bs.take m) wr ((HBW.out wr HRUN.out.at_.bel).take m) (by rw [HBM.out.1]; have := HBM.out.2.1; omega)
        rw [HBM.out.1] at hcb
        have hby : ∀ W2, Below wr.heap.size wr W2 → OwnB W2 wr.heap.size (bs.take m) → Calls Try.prog 8 #[.pointer (some ⟨b, 0, none⟩), .int .i64 (at_ : Int), .slice (some ⟨wr.heap.size, 0, none⟩) m m] W2 fun e W' => e = .returned (.int .i64 0) ∧ ∃ L' σ', Run4 w0 W' b L' σ' (i + 2) ∧ Keeps σ' at_ (bs.take m) := fun W2 h1 h2 => by
          have h3 := run_bytes (at_ := at_) (bs := bs.take m) HRUN.out (by omega) (fun x hx => HBS.out x (List.mem_of_mem_take hx)) (by rw [HBM.out.1]; exact HBM.out.2.1) W2 h1 h2
          rw [HBM.out.1] at h3
          exact h3
        have KCB := hide hcb
        have KBY := hide hby
        clear hcb hby
        go_wp2_with (first
          | (go_at_call 9; refine (KCB.out).mono ?_; rintro e W3 ⟨rfl, ho3, hb3⟩; have KB3 := hide (KBY.out W3 hb3 ho3); clear ho3 hb3)
          | (go_at_call 8; refine (KB3.out).mono ?_; rintro e W4 ⟨rfl, L4, σ4, hr4, hk4⟩; have HR4 := hide hr4; have HK4 := hide hk4; clear hr4 hk4))
        try go_frame
        clear KCB KBY KB3 f0 f1 f2 f3 f4
        go_loopw [8] (fun iv wx => ∃ (j : Nat) (L' : Lay) (σ : St), iv = .int .i64 (j : Int) ∧ j ≤ ny ∧ Run4 w0 wx b L' σ (i + 2 + j) ∧ Keeps σ at_ (bs.take m)) (fun iv _ => (ny - (intOf iv).toNat))
        case atStart => exact ⟨0, L4, σ4, rfl, Nat.zero_le _, HR4.out, HK4.out⟩
        case round =>
          obtain ⟨j, L5, σ5, rfl, hj, hrun5, hke5⟩ := hrel
          obtain ⟨f0, f1, f2, f3, f4⟩ := FX.out wr hrun5.at_.bel
          by_cases hlt : j < ny
          · have jI : (j : Int) < (ny : Int) := by omega
            obtain ⟨o, ho⟩ : ∃ o, ys[j]? = some o := ⟨_, List.getElem?_eq_getElem (by rw [HYL.out]; exact hlt)⟩
            obtain ⟨g, off, rfl, hok, hc⟩ := OPY.out wr hrun5.at_.bel j o ho
            have d0 := hc 0 _ rfl
            have d1 := hc 1 _ rfl
            have d2 := hc 2 _ rfl
            have d3 := hc 3 _ rfl
            have d4 := hc 4 _ rfl
            have d5 := hc 5 _ rfl
            simp only [Nat.add_zero] at d0
            have ix := fun X => index_op g off j ny c3 hlt X
            have kwo := fun X => rwithin_any X o.a 256 (by omega) (by omega) hok.lo hok.hi
            have eat : o.a % 256 = (o.at : Int) := by unfold OpR.at; omega
            have oat : o.at < 256 := by unfold OpR.at; omega
            rw [eat] at kwo
            have kr : ∀ X, Below wr.heap.size wr X → Calls Try.prog 6 #[.pointer (some ⟨b, 0, none⟩), .agg #[.int .i64 o.k, .int .i64 o.a, .int .i64 o.n, .slice o.bp o.bs.length o.bc, .int .u64 o.v, .slice o.kp o.kl o.kc], .int .i64 256] X fun e W' => e = .returned (.tuple #[]) ∧ ∃ L' σ', Run4 w0 W' b L' σ' (i + 2 + (j + 1)) ∧ ((o.k = 7 → at_ + m ≤ o.at ∨ o.at + o.bs.length ≤ at_) → Keeps σ' at_ (bs.take m)) := fun X hX => by
              refine (run_before (show Run4 w0 X b L5 σ5 (i + 2 + j) from ⟨hrun5.at_.below hX, hrun5.n, hrun5.off, hrun5.arms, hrun5.ops⟩) (by omega) (hok.below hX)).mono ?_
              rintro e W' ⟨rfl, L', σ', r1, r2⟩
              exact ⟨rfl, L', σ', r1, fun hd => hke5.raw hrun5.n (by rw [HBM.out.1]; exact HBM.out.2.1) r2 (by rw [HBM.out.1]; exact hd)⟩
            have KWO := hide kwo
            have KR := hide kr
            have HR5 := hide hrun5
            have HK5 := hide hke5
            have hol := hok.len
            have oatI : (o.at : Int) < 256 := by omega
            have hat9 := HBM.out.2.1
            have amI : (at_ : Int) + (m : Int) ≤ 256 := by omega
            clear hc hok hrun5 hke5 ho OPY f0 f1 f2 f4 kwo kr eat
            generalize hol2 : o.bs.length = ol at *
            generalize hoat2 : o.at = oa at *
            have olI : (ol : Int) ≤ 1048576 := by omega
            have CASES : (o.k = 7 ∧ (oa : Int) < (at_ : Int) + (m : Int) ∧ (at_ : Int) < (oa : Int) + (ol : Int)) ∨ (¬ o.k = 7) ∨ (o.k = 7 ∧ ¬ (oa : Int) < (at_ : Int) + (m : Int)) ∨ (o.k = 7 ∧ (oa : Int) < (at_ : Int) + (m : Int) ∧ ¬ (at_ : Int) < (oa : Int) + (ol : Int)) := by omega
            clear hol oat
            generalize o.k = ok at *
            rcases CASES with ⟨q1, q2, q3⟩ | q1 | ⟨q1, q2⟩ | ⟨q1, q2, q3⟩
            · subst q1
              clear KR
              go_wp2_with (go_at_call 7; refine (KWO.out _).mono ?_; rintro e w' ⟨rfl, hw⟩; obtain rfl := hw.symm)
              go_roundw
              case rel => exact ⟨j + 1, L5, σ5, int_congrP (by omega), by omega, ⟨HR5.out.at_.below ((Below.refl _ _).alloc (Nat.le_refl _) _), HR5.out.n, HR5.out.off, HR5.out.arms, by have := HR5.out.ops; omega⟩, HK5.out⟩
              case measure => simp [intOf]; omega
            · have hdis : ok = 7 → at_ + m ≤ oa ∨ oa + ol ≤ at_ := fun e => absurd e q1
              have HDIS := hide hdis
              clear hdis
              go_wp2_with (first
                | (go_at_call 7; refine (KWO.out _).mono ?_; rintro e w' ⟨rfl, hw⟩; obtain rfl := hw.symm)
                | (go_at_call 6; refine (KR.out _ ?hx).mono ?_; (case hx => exact (Below.refl _ _).alloc (Nat.le_refl _) _); rintro e W6 ⟨rfl, L6, σ6, hr6, hk6⟩; have HR6 := hide hr6; have HK6 := hide (hk6 HDIS.out); clear hr6 hk6))
              go_roundw
              case rel => exact ⟨j + 1, L6, σ6, int_congrP (by omega), by omega, HR6.out, HK6.out⟩
              case measure => simp [intOf]; omega
            · subst q1
              have hdis : (7 : Int) = 7 → at_ + m ≤ oa ∨ oa + ol ≤ at_ := fun e => by omega
              have HDIS := hide hdis
              clear hdis
              go_wp2_with (first
                | (go_at_call 7; refine (KWO.out _).mono ?_; rintro e w' ⟨rfl, hw⟩; obtain rfl := hw.symm)
                | (go_at_call 6; refine (KR.out _ ?hx).mono ?_; (case hx => exact (Below.refl _ _).alloc (Nat.le_refl _) _); rintro e W6 ⟨rfl, L6, σ6, hr6, hk6⟩; have HR6 := hide hr6; have HK6 := hide (hk6 HDIS.out); clear hr6 hk6))
              go_roundw
              case rel => exact ⟨j + 1, L6, σ6, int_congrP (by omega), by omega, HR6.out, HK6.out⟩
              case measure => simp [intOf]; omega
            · subst q1
              have hdis : (7 : Int) = 7 → at_ + m ≤ oa ∨ oa + ol ≤ at_ := fun e => by omega
              have HDIS := hide hdis
              clear hdis
              go_wp2_with (first
                | (go_at_call 7; refine (KWO.out _).mono ?_; rintro e w' ⟨rfl, hw⟩; obtain rfl := hw.symm)
                | (go_at_call 6; refine (KR.out _ ?hx).mono ?_; (case hx => exact (Below.refl _ _).alloc (Nat.le_refl _) _); rintro e W6 ⟨rfl, L6, σ6, hr6, hk6⟩; have HR6 := hide hr6; have HK6 := hide (hk6 HDIS.out); clear hr6 hk6))
              go_roundw
              case rel => exact ⟨j + 1, L6, σ6, int_congrP (by omega), by omega, HR6.out, HK6.out⟩
              case measure => simp [intOf]; omega
          · have jI : ¬ (j : Int) < (ny : Int) := by omega
            obtain rfl : j = ny := by omega
            have hr5 := hrun5
            have HR5 := hide hrun5
            have HK5 := hide hke5
            have HB5 := hide hr5.at_.bel
            clear hrun5 hke5 hr5 OPY f0 f1 f2
            go_wp2_with (fail)
            try go_frame
            clear f3 f4
            obtain ⟨WS, rfl⟩ : ∃ x, x = wr := ⟨_, rfl⟩
            go_loopw [11, 12] (fun kv iv wx => ∃ (q : Nat) (ks : List Nat), iv = .int .i64 (q : Int) ∧ q ≤ nz ∧ ks.length = q ∧ (∀ x ∈ ks, x < 1000) ∧ wx.ownsRow WS.heap.size 3 1 kv q (ks.map I64) ∧ Below WS.heap.size WS wx) (fun kv iv _ => (nz - (intOf iv).toNat))
            case atStart => exact ⟨0, [], rfl, Nat.zero_le _, rfl, by simp, ⟨rfl, .inl ⟨rfl, rfl⟩⟩, Below.refl _ _⟩
            case round =>
              obtain ⟨q, ks, rfl, hq, hkl, hkb, hown, hBx⟩ := hrel
              have hb9 := HB5.out.trans (hBx.mono HB5.out.size)
              obtain ⟨f0, f1, f2, f3, f4⟩ := FX.out wr hb9
              by_cases hlt : q < nz
              · have qI : (q : Int) < (nz : Int) := by omega
                obtain ⟨z, hz⟩ : ∃ z, zs[q]? = some z := ⟨_, List.getElem?_eq_getElem (by rw [HZL.out]; exact hlt)⟩
                obtain ⟨g, off, rfl, hcell⟩ : ∃ g off, a4 = some ⟨g, off, none⟩ ∧ wr.cell? ⟨g, off + q, none⟩ = some (.int .i64 z) := by
                  rcases HZW.out wr hb9 with e | ⟨g, off, e, _, h5⟩
                  · rw [e] at hz; simp at hz
                  · exact ⟨g, off, e, h5 q z hz⟩
                have hzb := HZ2.out z (List.mem_of_getElem? hz)
                obtain ⟨r, hr, hr2⟩ : ∃ r : Nat, z % 1000 = (r : Int) ∧ r < 1000 := ⟨(z % 1000).toNat, by omega, by omega⟩
                have kwz := fun X => rwithin_any X z 1000 (by omega) (by omega) hzb.1 hzb.2
                rw [hr] at kwz
                have KWZ := hide kwz
                have ix := fun X => index_num g off q nz c4 hlt X
                have ho2 : (wr.alloc (.cells #[.int .i64 (r : Int)] 3)).ownsRow WS.heap.size 3 1 u11 q (ks.map I64) := ownsRow_of_block hown (fun g hg => (by obtain ⟨c, hc⟩ := own_type hown hg; exact ((Below.refl _ wr).alloc (Nat.le_refl _) _).block g (lt_of_heap hc)))
                have HO2 := hide ho2
                have HO1 := hide hown
                have HBX := hide hBx
                have HKL := hide hkl
                have HKB := hide hkb
                clear ho2 hown hBx kwz hzb hz hr hkl hkb f0 f1 f2 f3 hb9
                go_wp2_with (first
                  | (go_at_call 7; refine (KWZ.out _).mono ?_; rintro e w' ⟨rfl, hw⟩; obtain rfl := hw.symm)
                  | (at_builtin; refine wpList_append_own_at _ rfl _ _ 24 rfl WS.heap.size 3 i0 (.int .i64 0) 1 8 Try.underlying24 hi0 hz0 hz1' hz2' rfl (by decide) u11 q (ks.map I64) rfl HO2.out ⟨wr.heap.size, 0, none⟩ 1 1 [.int .i64 (r : Int)] rfl rfl (cellOne wr _ _) (by simp [Value.oneCell']) (by unfold maxLen; omega) (by omega) (sizeOne wr _ HBX.out.size) ?_; intro v1 x1 ho3 hg3 hnn hat; clear hnn hat; have HO3 := hide ho3; have HG3 := hide hg3; clear ho3 hg3))
                have hbb : Below wr.heap.size wr (wr.alloc (.cells #[.int .i64 (r : Int)] 3)) := (Below.refl _ wr).alloc (Nat.le_refl _) _
                have hown1 : ∀ g, u11.ownBlock = some g → WS.heap.size ≤ g := fun g hg => by
                  rcases HO1.out.2 with ⟨e1, _⟩ | ⟨g', cap, cur, e1, e2, _⟩
                  · rw [e1] at hg; cases hg
                  · rw [e1] at hg; cases hg; exact e2
                refine ⟨⟨q + 1, ks ++ [r], int_congrP (by omega), by omega, by rw [List.length_append, HKL.out]; rfl, fun y hy => ?_, by rw [List.map_append]; exact HO3.out, ?_⟩, by simp [intOf]; omega⟩
                · rcases List.mem_append.1 hy with h | h
                  · exact HKB.out y h
                  · simp at h; omega
                · have h7 := hbb
                  have h8 := HG3.out
                  have h9 := HBX.out
                  exact ⟨h8.os.trans (h7.os.trans h9.os), h8.tape.trans (h7.tape.trans h9.tape), h8.output.trans (h7.output.trans h9.output), Nat.le_trans h9.size (Nat.le_trans h7.size h8.size), fun g hg => (h8.block g (by have := h7.size; have := h9.size; omega) (fun e => by have := hown1 g e.symm; omega)).trans ((h7.block g (by have := h9.size; omega)).trans (h9.block g hg))⟩
              · have qI : ¬ (q : Int) < (nz : Int) := by omega
                obtain rfl : q = nz := by omega
                obtain ⟨ka, kc, rfl, hsn⟩ := slN_own hown hkl hkb
                have hr9 : Run4 w0 wr b L5 σ5 (i + 2 + j) := ⟨HR5.out.at_.below hBx, HR5.out.n, HR5.out.off, HR5.out.arms, HR5.out.ops⟩
                have kcr := run_crash (c := kc) (bs := bs.take m) hr9 HK5.out (by rw [HBM.out.1]; exact HBM.out.2.1) hsn (by omega)
                rw [HBM.out.1] at kcr
                have KCR := hide kcr
                rw [hkl] at KCR
                rw [hkl]
                have amI : (m : Int) ≤ 256 := by have := HBM.out.2.1; omega
                clear kcr hr9 hsn hown hBx hkb f0 f1 f2 f3 hb9 hkl
                go_wp2_with (first
                  | (go_at_call 10; refine (KCR.out).mono ?_; rintro e W7 ⟨rfl, hw7⟩; have KWK := hide hw7; clear hw7)
                  | (go_at_call 11; refine (KWK.out).mono ?_; rintro e W8 ⟨rfl, hl8⟩; have KLD := hide hl8; clear hl8)
                  | (go_at_call 12; refine (KLD.out).mono ?_; rintro e W9 ⟨R, rfl, ho9, hb9⟩; have ke := eqBytes_any (some ⟨R, 0, none⟩) a2 m c2 (bs.take m) (bs.take m) W9 (OwnB.sl ho9 (fun x hx => HBS.out x (List.mem_of_mem_take hx))) ((HBW.out W9 hb9).take m) (by rw [HBM.out.1]; omega); rw [HBM.out.1, decide_eq_true rfl] at ke; have KE := hide ke; have HB9 := hide hb9; clear ke ho9 hb9)
                  | (go_at_call 13; refine (KE.out).mono ?_; rintro e w' ⟨rfl, nq, rfl⟩))
                go_ret
                exact ⟨rfl, below_drewN (HB0.out.trans (HB9.out.mono HB0.out.size)) nq⟩
      · have hm1 : m = nb := by omega
        have mI2 : ¬ (256 : Int) - (at_ : Int) < (nb : Int) := by omega
        clear hm hbm hcut
        go_upto_region 12 with (go_at_call 7; refine (KW1.out _).mono ?_; rintro e w' ⟨rfl, hw⟩; obtain rfl := hw.symm)
        clear mI2
        subst hm1
        have hcb := copyBytes_any a2 c2 (bs.take m) wr ((HBW.out wr HRUN.out.at_.bel).take m) (by rw [HBM.out.1]; have := HBM.out.2.1; omega)
        rw [HBM.out.1] at hcb
        have hby : ∀ W2, Below wr.heap.size wr W2 → OwnB W2 wr.heap.size (bs.take m) → Calls Try.prog 8 #[.pointer (some ⟨b, 0, none⟩), .int .i64 (at_ : Int), .slice (some ⟨wr.heap.size, 0, none⟩) m m] W2 fun e W' => e = .returned (.int .i64 0) ∧ ∃ L' σ', Run4 w0 W' b L' σ' (i + 2) ∧ Keeps σ' at_ (bs.take m) := fun W2 h1 h2 => by
          have h3 := run_bytes (at_ := at_) (bs := bs.take m) HRUN.out (by omega) (fun x hx => HBS.out x (List.mem_of_mem_take hx)) (by rw [HBM.out.1]; exact HBM.out.2.1) W2 h1 h2
          rw [HBM.out.1] at h3
          exact h3
        have KCB := hide hcb
        have KBY := hide hby
        clear hcb hby
        go_wp2_with (first
          | (go_at_call 9; refine (KCB.out).mono ?_; rintro e W3 ⟨rfl, ho3, hb3⟩; have KB3 := hide (KBY.out W3 hb3 ho3); clear ho3 hb3)
          | (go_at_call 8; refine (KB3.out).mono ?_; rintro e W4 ⟨rfl, L4, σ4, hr4, hk4⟩; have HR4 := hide hr4; have HK4 := hide hk4; clear hr4 hk4))
        try go_frame
        clear KCB KBY KB3 f0 f1 f2 f3 f4
        go_loopw [8] (fun iv wx => ∃ (j : Nat) (L' : Lay) (σ : St), iv = .int .i64 (j : Int) ∧ j ≤ ny ∧ Run4 w0 wx b L' σ (i + 2 + j) ∧ Keeps σ at_ (bs.take m)) (fun iv _ => (ny - (intOf iv).toNat))
        case atStart => exact ⟨0, L4, σ4, rfl, Nat.zero_le _, HR4.out, HK4.out⟩
        case round =>
          obtain ⟨j, L5, σ5, rfl, hj, hrun5, hke5⟩ := hrel
          obtain ⟨f0, f1, f2, f3, f4⟩ := FX.out wr hrun5.at_.bel
          by_cases hlt : j < ny
          · have jI : (j : Int) < (ny : Int) := by omega
            obtain ⟨o, ho⟩ : ∃ o, ys[j]? = some o := ⟨_, List.getElem?_eq_getElem (by rw [HYL.out]; exact hlt)⟩
            obtain ⟨g, off, rfl, hok, hc⟩ := OPY.out wr hrun5.at_.bel j o ho
            have d0 := hc 0 _ rfl
            have d1 := hc 1 _ rfl
            have d2 := hc 2 _ rfl
            have d3 := hc 3 _ rfl
            have d4 := hc 4 _ rfl
            have d5 := hc 5 _ rfl
            simp only [Nat.add_zero] at d0
            have ix := fun X => index_op g off j ny c3 hlt X
            have kwo := fun X => rwithin_any X o.a 256 (by omega) (by omega) hok.lo hok.hi
            have eat : o.a % 256 = (o.at : Int) := by unfold OpR.at; omega
            have oat : o.at < 256 := by unfold OpR.at; omega
            rw [eat] at kwo
            have kr : ∀ X, Below wr.heap.size wr X → Calls Try.prog 6 #[.pointer (some ⟨b, 0, none⟩), .agg #[.int .i64 o.k, .int .i64 o.a, .int .i64 o.n, .slice o.bp o.bs.length o.bc, .int .u64 o.v, .slice o.kp o.kl o.kc], .int .i64 256] X fun e W' => e = .returned (.tuple #[]) ∧ ∃ L' σ', Run4 w0 W' b L' σ' (i + 2 + (j + 1)) ∧ ((o.k = 7 → at_ + m ≤ o.at ∨ o.at + o.bs.length ≤ at_) → Keeps σ' at_ (bs.take m)) := fun X hX => by
              refine (run_before (show Run4 w0 X b L5 σ5 (i + 2 + j) from ⟨hrun5.at_.below hX, hrun5.n, hrun5.off, hrun5.arms, hrun5.ops⟩) (by omega) (hok.below hX)).mono ?_
              rintro e W' ⟨rfl, L', σ', r1, r2⟩
              exact ⟨rfl, L', σ', r1, fun hd => hke5.raw hrun5.n (by rw [HBM.out.1]; exact HBM.out.2.1) r2 (by rw [HBM.out.1]; exact hd)⟩
            have KWO := hide kwo
            have KR := hide kr
            have HR5 := hide hrun5
            have HK5 := hide hke5
            have hol := hok.len
            have oatI : (o.at : Int) < 256 := by omega
            have hat9 := HBM.out.2.1
            have amI : (at_ : Int) + (m : Int) ≤ 256 := by omega
            clear hc hok hrun5 hke5 ho OPY f0 f1 f2 f4 kwo kr eat
            generalize hol2 : o.bs.length = ol at *
            generalize hoat2 : o.at = oa at *
            have olI : (ol : Int) ≤ 1048576 := by omega
            have CASES : (o.k = 7 ∧ (oa : Int) < (at_ : Int) + (m : Int) ∧ (at_ : Int) < (oa : Int) + (ol : Int)) ∨ (¬ o.k = 7) ∨ (o.k = 7 ∧ ¬ (oa : Int) < (at_ : Int) + (m : Int)) ∨ (o.k = 7 ∧ (oa : Int) < (at_ : Int) + (m : Int) ∧ ¬ (at_ : Int) < (oa : Int) + (ol : Int)) := by omega
            clear hol oat
            generalize o.k = ok at *
            rcases CASES with ⟨q1, q2, q3⟩ | q1 | ⟨q1, q2⟩ | ⟨q1, q2, q3⟩
            · subst q1
              clear KR
              go_wp2_with (go_at_call 7; refine (KWO.out _).mono ?_; rintro e w' ⟨rfl, hw⟩; obtain rfl := hw.symm)
              go_roundw
              case rel => exact ⟨j + 1, L5, σ5, int_congrP (by omega), by omega, ⟨HR5.out.at_.below ((Below.refl _ _).alloc (Nat.le_refl _) _), HR5.out.n, HR5.out.off, HR5.out.arms, by have := HR5.out.ops; omega⟩, HK5.out⟩
              case measure => simp [intOf]; omega
            · have hdis : ok = 7 → at_ + m ≤ oa ∨ oa + ol ≤ at_ := fun e => absurd e q1
              have HDIS := hide hdis
              clear hdis
              go_wp2_with (first
                | (go_at_call 7; refine (KWO.out _).mono ?_; rintro e w' ⟨rfl, hw⟩; obtain rfl := hw.symm)
                | (go_at_call 6; refine (KR.out _ ?hx).mono ?_; (case hx => exact (Below.refl _ _).alloc (Nat.le_refl _) _); rintro e W6 ⟨rfl, L6, σ6, hr6, hk6⟩; have HR6 := hide hr6; have HK6 := hide (hk6 HDIS.out); clear hr6 hk6))
              go_roundw
              case rel => exact ⟨j + 1, L6, σ6, int_congrP (by omega), by omega, HR6.out, HK6.out⟩
              case measure => simp [intOf]; omega
            · subst q1
              have hdis : (7 : Int) = 7 → at_ + m ≤ oa ∨ oa + ol ≤ at_ := fun e => by omega
              have HDIS := hide hdis
              clear hdis
              go_wp2_with (first
                | (go_at_call 7; refine (KWO.out _).mono ?_; rintro e w' ⟨rfl, hw⟩; obtain rfl := hw.symm)
                | (go_at_call 6; refine (KR.out _ ?hx).mono ?_; (case hx => exact (Below.refl _ _).alloc (Nat.le_refl _) _); rintro e W6 ⟨rfl, L6, σ6, hr6, hk6⟩; have HR6 := hide hr6; have HK6 := hide (hk6 HDIS.out); clear hr6 hk6))
              go_roundw
              case rel => exact ⟨j + 1, L6, σ6, int_congrP (by omega), by omega, HR6.out, HK6.out⟩
              case measure => simp [intOf]; omega
            · subst q1
              have hdis : (7 : Int) = 7 → at_ + m ≤ oa ∨ oa + ol ≤ at_ := fun e => by omega
              have HDIS := hide hdis
              clear hdis
              go_wp2_with (first
                | (go_at_call 7; refine (KWO.out _).mono ?_; rintro e w' ⟨rfl, hw⟩; obtain rfl := hw.symm)
                | (go_at_call 6; refine (KR.out _ ?hx).mono ?_; (case hx => exact (Below.refl _ _).alloc (Nat.le_refl _) _); rintro e W6 ⟨rfl, L6, σ6, hr6, hk6⟩; have HR6 := hide hr6; have HK6 := hide (hk6 HDIS.out); clear hr6 hk6))
              go_roundw
              case rel => exact ⟨j + 1, L6, σ6, int_congrP (by omega), by omega, HR6.out, HK6.out⟩
              case measure => simp [intOf]; omega
          · have jI : ¬ (j : Int) < (ny : Int) := by omega
            obtain rfl : j = ny := by omega
            have hr5 := hrun5
            have HR5 := hide hrun5
            have HK5 := hide hke5
            have HB5 := hide hr5.at_.bel
            clear hrun5 hke5 hr5 OPY f0 f1 f2
            go_wp2_with (fail)
            try go_frame
            clear f3 f4
            obtain ⟨WS, rfl⟩ : ∃ x, x = wr := ⟨_, rfl⟩
            go_loopw [11, 12] (fun kv iv wx => ∃ (q : Nat) (ks : List Nat), iv = .int .i64 (q : Int) ∧ q ≤ nz ∧ ks.length = q ∧ (∀ x ∈ ks, x < 1000) ∧ wx.ownsRow WS.heap.size 3 1 kv q (ks.map I64) ∧ Below WS.heap.size WS wx) (fun kv iv _ => (nz - (intOf iv).toNat))
            case atStart => exact ⟨0, [], rfl, Nat.zero_le _, rfl, by simp, ⟨rfl, .inl ⟨rfl, rfl⟩⟩, Below.refl _ _⟩
            case round =>
              obtain ⟨q, ks, rfl, hq, hkl, hkb, hown, hBx⟩ := hrel
              have hb9 := HB5.out.trans (hBx.mono HB5.out.size)
              obtain ⟨f0, f1, f2, f3, f4⟩ := FX.out wr hb9
              by_cases hlt : q < nz
              · have qI : (q : Int) < (nz : Int) := by omega
                obtain ⟨z, hz⟩ : ∃ z, zs[q]? = some z := ⟨_, List.getElem?_eq_getElem (by rw [HZL.out]; exact hlt)⟩
                obtain ⟨g, off, rfl, hcell⟩ : ∃ g off, a4 = some ⟨g, off, none⟩ ∧ wr.cell? ⟨g, off + q, none⟩ = some (.int .i64 z) := by
                  rcases HZW.out wr hb9 with e | ⟨g, off, e, _, h5⟩
                  · rw [e] at hz; simp at hz
                  · exact ⟨g, off, e, h5 q z hz⟩
                have hzb := HZ2.out z (List.mem_of_getElem? hz)
                obtain ⟨r, hr, hr2⟩ : ∃ r : Nat, z % 1000 = (r : Int) ∧ r < 1000 := ⟨(z % 1000).toNat, by omega, by omega⟩
                have kwz := fun X => rwithin_any X z 1000 (by omega) (by omega) hzb.1 hzb.2
                rw [hr] at kwz
                have KWZ := hide kwz
                have ix := fun X => index_num g off q nz c4 hlt X
                have ho2 : (wr.alloc (.cells #[.int .i64 (r : Int)] 3)).ownsRow WS.heap.size 3 1 u11 q (ks.map I64) := ownsRow_of_block hown (fun g hg => (by obtain ⟨c, hc⟩ := own_type hown hg; exact ((Below.refl _ wr).alloc (Nat.le_refl _) _).block g (lt_of_heap hc)))
                have HO2 := hide ho2
                have HO1 := hide hown
                have HBX := hide hBx
                have HKL := hide hkl
                have HKB := hide hkb
                clear ho2 hown hBx kwz hzb hz hr hkl hkb f0 f1 f2 f3 hb9
                go_wp2_with (first
                  | (go_at_call 7; refine (KWZ.out _).mono ?_; rintro e w' ⟨rfl, hw⟩; obtain rfl := hw.symm)
                  | (at_builtin; refine wpList_append_own_at _ rfl _ _ 24 rfl WS.heap.size 3 i0 (.int .i64 0) 1 8 Try.underlying24 hi0 hz0 hz1' hz2' rfl (by decide) u11 q (ks.map I64) rfl HO2.out ⟨wr.heap.size, 0, none⟩ 1 1 [.int .i64 (r : Int)] rfl rfl (cellOne wr _ _) (by simp [Value.oneCell']) (by unfold maxLen; omega) (by omega) (sizeOne wr _ HBX.out.size) ?_; intro v1 x1 ho3 hg3 hnn hat; clear hnn hat; have HO3 := hide ho3; have HG3 := hide hg3; clear ho3 hg3))
                have hbb : Below wr.heap.size wr (wr.alloc (.cells #[.int .i64 (r : Int)] 3)) := (Below.refl _ wr).alloc (Nat.le_refl _) _
                have hown1 : ∀ g, u11.ownBlock = some g → WS.heap.size ≤ g := fun g hg => by
                  rcases HO1.out.2 with ⟨e1, _⟩ | ⟨g', cap, cur, e1, e2, _⟩
                  · rw [e1] at hg; cases hg
                  · rw [e1] at hg; cases hg; exact e2
                refine ⟨⟨q + 1, ks ++ [r], int_congrP (by omega), by omega, by rw [List.length_append, HKL.out]; rfl, fun y hy => ?_, by rw [List.map_append]; exact HO3.out, ?_⟩, by simp [intOf]; omega⟩
                · rcases List.mem_append.1 hy with h | h
                  · exact HKB.out y h
                  · simp at h; omega
                · have h7 := hbb
                  have h8 := HG3.out
                  have h9 := HBX.out
                  exact ⟨h8.os.trans (h7.os.trans h9.os), h8.tape.trans (h7.tape.trans h9.tape), h8.output.trans (h7.output.trans h9.output), Nat.le_trans h9.size (Nat.le_trans h7.size h8.size), fun g hg => (h8.block g (by have := h7.size; have := h9.size; omega) (fun e => by have := hown1 g e.symm; omega)).trans ((h7.block g (by have := h9.size; omega)).trans (h9.block g hg))⟩
              · have qI : ¬ (q : Int) < (nz : Int) := by omega
                obtain rfl : q = nz := by omega
                obtain ⟨ka, kc, rfl, hsn⟩ := slN_own hown hkl hkb
                have hr9 : Run4 w0 wr b L5 σ5 (i + 2 + j) := ⟨HR5.out.at_.below hBx, HR5.out.n, HR5.out.off, HR5.out.arms, HR5.out.ops⟩
                have kcr := run_crash (c := kc) (bs := bs.take m) hr9 HK5.out (by rw [HBM.out.1]; exact HBM.out.2.1) hsn (by omega)
                rw [HBM.out.1] at kcr
                have KCR := hide kcr
                rw [hkl] at KCR
                rw [hkl]
                have amI : (m : Int) ≤ 256 := by have := HBM.out.2.1; omega
                clear kcr hr9 hsn hown hBx hkb f0 f1 f2 f3 hb9 hkl
                go_wp2_with (first
                  | (go_at_call 10; refine (KCR.out).mono ?_; rintro e W7 ⟨rfl, hw7⟩; have KWK := hide hw7; clear hw7)
                  | (go_at_call 11; refine (KWK.out).mono ?_; rintro e W8 ⟨rfl, hl8⟩; have KLD := hide hl8; clear hl8)
                  | (go_at_call 12; refine (KLD.out).mono ?_; rintro e W9 ⟨R, rfl, ho9, hb9⟩; have ke := eqBytes_any (some ⟨R, 0, none⟩) a2 m c2 (bs.take m) (bs.take m) W9 (OwnB.sl ho9 (fun x hx => HBS.out x (List.mem_of_mem_take hx))) ((HBW.out W9 hb9).take m) (by rw [HBM.out.1]; omega); rw [HBM.out.1, decide_eq_true rfl] at ke; have KE := hide ke; have HB9 := hide hb9; clear ke ho9 hb9)
                  | (go_at_call 13; refine (KE.out).mono ?_; rintro e w' ⟨rfl, nq, rfl⟩))
                go_ret
                exact ⟨rfl, below_drewN (HB0.out.trans (HB9.out.mono HB0.out.size)) nq⟩
end Go.Proofs.Ytneknpkocjnmjaa
namespace Go.Proofs.Ytneknpkocjnmjaa
theorem RangeO.mono {W : Go.World} {m n : Nat} {cs : List Go.Value} (h : RangeO W m cs) (hmn : m ≤ n) : RangeO W n cs := by
  obtain ⟨a1, a2, a3, a4, xs, ys, bs, zs, c1, c2, c3, c4, x, e, q1, q2, q3, q4, q5, q6, q7, q8, q9, q10⟩ := h
  exact ⟨a1, a2, a3, a4, xs, ys, bs, zs, c1, c2, c3, c4, x, e, q1, q2, q3, q4, q5, q6, q7, q8, q9, by omega⟩
end Go.Proofs.Ytneknpkocjnmjaa
namespace Go.Proofs.Ytneknpkocjnmjaa.persistLasts
open Go.ChangeShapes Go.WideShapes Go.ChangeAt Go.RowKit Go.Proofs.Ytneknpkocjnmjaa
set_option linter.unusedVariables false

set_option maxRecDepth 100000 in
theorem contract (H : Type) (enc : TypeId × Value → H) (W : World) (base : Nat) (args : Array Value) (ds gs : List (DataW H)) (before : List MemPlace)
    (hval : ∀ (j : Nat) t v, Try.f3.params[j]? = some t → args[j]? = some v → Value.okWide Try.prog W .any base t v)
    (hW : DataW.Whole enc Try.prog Try.f3.params.toList Rows.persistLastsSpec.vars false W args.toList ds gs before) (hk : Rows.uptoSmall H (ds ++ gs) = true) :
    Calls Try.prog 3 args W fun e W' => ∃ v, e = .returned v ∧ Rows.persistLastsSpec.post enc Try.prog Try.f3 false true false false W args v W' := by
  have hW' := hW
  obtain ⟨p, q, hA0, hV, rfl, hfz, hnd⟩ := hW
  have hA : DataW.TrodAll enc Try.prog W 0 (fun _ => true) true Try.f3.params.toList args.toList ds p := hA0
  rw [Try.params3] at hA hval
  obtain ⟨v0, vs0, d0, ds0, p0, q0, hargs, rfl, rfl, h0, r0⟩ := trodAll_cons hA
  obtain ⟨rfl, rfl, rfl⟩ := trodAll_nil r0
  obtain rfl : args = #[v0] := by cases args; simp_all
  obtain ⟨rfl, rfl⟩ := trodVars_none hV
  have hb := bulk_of hk
  simp only [List.append_nil, Rows.uptoBulkAll] at hb
  have k0 := h0
  have lt0 : ∀ x ∈ p0, x.block < W.heap.size := by obtain ⟨m, hm⟩ := k0; exact DataW.trod_lt m _ _ _ hm
  obtain ⟨cs0, rfl, ro0⟩ := open_range (hval 0 26 v0 rfl rfl) h0
  clear hA0
  refine (persistLasts_walk W cs0 (ro0.mono (by omega))).mono fun e W' ⟨he, bel⟩ => ?_
  subst he
  exact ⟨_, rfl, _, _, _, [], _, [], hW', trodAll_mk1 (shut_bool Try.underlying4 _), (trodAll_cons_mk (Below.trod laidOut (by kernel_rfl) (of_decide_eq_true (by kernel_rfl)) k0 bel lt0) trodAll_mk0), rfl, bel.frame _, fun h => by cases h⟩

set_option maxRecDepth 100000 in
theorem lifted (os : Os) (started : os.Started) (H : Type) (enc : TypeId × Value → H) (F : Stop.Interp) :
    ReturnsInHanded {} Try.checked os 3 .any ((Rows.OpenSpec.upto Rows.persistLastsSpec).pre6 enc Try.prog Try.f3 Rows.persistLastsUptoRow.domain false) (((Rows.OpenSpec.upto Rows.persistLastsSpec).at F).post enc Try.prog Try.f3 false true false false) := by
  refine returnsInHanded_of_cond (C := Try.checked) (s := Rows.OpenSpec.upto Rows.persistLastsSpec) (k := Rows.uptoSmall) rfl own started (by kernel_rfl) Try.func3
    (OpenSpec.witness (enc := enc) (C := Try.checked) (s := Rows.OpenSpec.upto Rows.persistLastsSpec) (k := Rows.uptoSmall) rfl false ⟨#[], #[.agg #[.slice none 0 0, .int .i64 0, .slice none 0 0, .slice none 0 0, .slice none 0 0]], []⟩ 8 (by kernel_rfl) (by kernel_rfl) (by kernel_rfl)
      (x := ([.agg [.nil, .lit (.int .i64 0), .nil, .nil, .nil]], [], [])) (by kernel_rfl) rfl (by kernel_rfl)) ?_
  intro W base args ds gs before hval hW _ hk _
  exact contract H enc W base args ds gs before hval hW hk

theorem over : Rows.PersistLastsUptoSaid :=
  OpenClaim.holds_of_cond 3 Try.f3 rfl rfl rfl rfl rfl rfl rfl ⟨rfl, rfl, rfl, rfl, rfl⟩ rfl rfl rfl rfl rfl (by kernel_rfl) Try.func3 (by kernel_rfl)
    (of_decide_eq_true (by kernel_rfl)) (by unfold Func.isWrapper; first | (rw [if_pos (by decide +kernel)]; kernel_rfl) | (rw [if_neg (by decide +kernel)]; exact ⟨rfl, rfl⟩))
    (fun os started H enc _ F => lifted os started H enc F)

end Go.Proofs.Ytneknpkocjnmjaa.persistLasts

namespace Go.Proofs.Ytneknpkocjnmjaa
/-- PersistLasts, as it is stated for what is of bounded bulk. -/
theorem persistLasts_holds : Rows.PersistLastsUptoSaid := persistLasts.over
#print axioms persistLasts_holds
end Go.Proofs.Ytneknpkocjnmjaa
