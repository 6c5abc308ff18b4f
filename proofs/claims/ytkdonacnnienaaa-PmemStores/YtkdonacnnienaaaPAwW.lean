/- The statements' awake(), walked. -/
import Derived.Test.YtkdonacnnienaaaPAwk
namespace Go.Proofs.Ytkdonacnnienaaa
open Go.RowKit Go.Shelf
set_option linter.unusedVariables false

theorem a_eq {W : World} {R : Nat} (h : OwnB W R bytes16) : Calls Try.prog 19 #[.slice (some ⟨R, 0, none⟩) 16 16, .slice (some ⟨W.heap.size, 0, none⟩) 16 16] (W.alloc (.cells (bytes16.map B8).toArray 5)) fun e w' => e = .returned (.bool true) ∧ Below W.heap.size W w' := by
  have hA : Below W.heap.size W (W.alloc (.cells (bytes16.map B8).toArray 5)) := (Below.refl _ W).alloc (Nat.le_refl _) _
  have h1 : OwnB (W.alloc (.cells (bytes16.map B8).toArray 5)) R bytes16 := h.below hA h.lt
  have h2 : OwnB (W.alloc (.cells (bytes16.map B8).toArray 5)) W.heap.size bytes16 := heapNew W _
  have hb : ∀ x ∈ bytes16, x < 256 := by decide
  refine (eqBytes_any (some ⟨R, 0, none⟩) (some ⟨W.heap.size, 0, none⟩) 16 16 bytes16 bytes16 _ (h1.sl hb) (h2.sl hb) (by decide)).mono ?_
  rintro e w' ⟨rfl, n, rfl⟩
  exact ⟨by simp, below_drewN hA n⟩
set_option maxRecDepth 100000 in
set_option maxHeartbeats 1000000 in
theorem awake_any (w : World) : Calls Try.prog 8 #[] w fun e w' => e = .returned (.bool true) ∧ Below w.heap.size w w' := by
  have K0 := hide (a_new (w := w))
  go_enter Try.func8, Try.ntmps8
  go_wp2_with (first
    | (go_at_call 33; refine (K0.out).mono ?_; rintro e W0 ⟨b, L0, rfl, hA⟩; have K1 := hide (a_st1 hA); clear hA)
    | (go_at_call 32; refine (K1.out).mono ?_; rintro e W1 ⟨rfl, L1, hA⟩; have K2 := hide (a_fl hA); clear hA K1)
    | (go_at_call 34; refine (K2.out).mono ?_; rintro e W2 ⟨rfl, L2, hA⟩; have K3 := hide (a_st2 hA); clear hA)
    | (go_at_call 32; refine (K3.out).mono ?_; rintro e W3 ⟨rfl, L3, hA⟩; have K4 := hide (a_fen hA); clear hA)
    | (go_at_call 26; refine (K4.out).mono ?_; rintro e W4 ⟨rfl, L4, hA⟩; have K5 := hide (a_ops hA); have K6 := hide (a_con hA); clear hA)
    | (go_at_call 24; refine (K5.out).mono ?_; rintro e w' ⟨rfl, hw⟩; obtain rfl := hw.symm)
    | (go_at_call 18; refine (K6.out).mono ?_; rintro e W6 ⟨ca, cc, rfl, hA⟩; have K7 := hide (a_cr hA); clear hA)
    | (go_at_call 11; refine (K7.out).mono ?_; rintro e W7 ⟨rfl, L7, σ7, hl, hA⟩; have K8 := hide (a_off hA hl); have K9 := hide (a_wake hA hl); have HL := hide hl; clear hA hl)
    | (go_at_call 14; refine (K8.out).mono ?_; rintro e w' ⟨rfl, hw⟩; obtain rfl := hw.symm)
    | (go_at_call 15; refine (K9.out).mono ?_; rintro e W9 ⟨rfl, hA⟩; have KA := hide (a_load hA HL.out); clear hA)
    | (go_at_call 10; refine (KA.out).mono ?_; rintro e WA ⟨R, rfl, ho, hb⟩; have KE := hide (a_eq ho); have HB := hide hb; clear ho hb)
    | (go_at_call 19; refine (KE.out).mono ?_; rintro e WE ⟨rfl, he⟩; have HE := hide he; clear he))
  go_ret
  exact ⟨rfl, HB.out.trans (HE.out.mono HB.out.size)⟩
end Go.Proofs.Ytkdonacnnienaaa
