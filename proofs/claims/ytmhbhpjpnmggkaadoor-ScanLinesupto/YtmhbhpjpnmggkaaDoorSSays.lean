/- Package scan: whether a line says something. -/
import Derived.Test.YtmhbhpjpnmggkaaDoorSTok
import Derived.Test.YtmhbhpjpnmggkaaDoorSEscA
namespace Go.Proofs.YtmhbhpjpnmggkaaDoor
open Go.RowKit Go.Shelf
set_option linter.unusedVariables false

/-- Neither blank nor a remark. -/
def saysV (s : ByteArray) : Bool := !decide (skp blankC (bl s) = s.size) && !isAt s (skp blankC (bl s)) 35
set_option maxRecDepth 100000 in
set_option maxHeartbeats 4000000 in
theorem says_any (s : ByteArray) (w : World) (hs : s.size ≤ 140737488355328) :
    Calls Tryd.prog 56 #[.string s] w fun e w' => e = .returned (.bool (saysV s)) ∧ Below w.heap.size w w' := by
  have hR0 : Rd (w.alloc (.cells #[.string s, .int .i64 0] 80)) w.heap.size s 0 := heap_alloc_new w _
  have hB0 : Below w.heap.size w (w.alloc (.cells #[.string s, .int .i64 0] 80)) := (Below.refl _ _).alloc (Nat.le_refl _) _
  have HR := hide hR0
  have HG := hide (grown_drewN (w.alloc (.cells #[.string s, .int .i64 0] 80)) 0 (some w.heap.size))
  have hle := skp_le blankC (bl s)
  rw [bl_len] at hle
  have ks := fun x (h : Rd x w.heap.size s 0) => skipBlank w.heap.size s 0 x h (Nat.zero_le _) hs
  simp only [List.drop_zero, Nat.zero_add] at ks
  unfold saysV
  generalize skp blankC (bl s) = k at *
  have KS := hide ks
  have kd := fun x (h : Rd x w.heap.size s k) => done_any w.heap.size s k x h hle
  by_cases hk : k = s.size
  · rw [decide_eq_true hk] at kd ⊢
    have KD := hide kd
    clear kd ks hR0
    go_enter Tryd.func56, Tryd.ntmps56
    go_wp2_with (first | (go_at_call 41; refine (KS.out _ HR.out).mono ?_; rintro e x ⟨rfl, hRx, hgx⟩; have HRX := hide hRx; have HGX := hide (grown_trans HG.out hgx); clear hRx hgx HR) | (go_at_call 40; refine (KD.out _ HRX.out).mono ?_; rintro e z ⟨rfl, nz, hz⟩; have HGZ := hide (grown_trans HGX.out (grown_drewN _ nz _)); have HRZ := hide (HRX.out.drewN nz); rw [← hz] at HGZ HRZ; clear hz HRX))
    go_ret
    refine ⟨rfl, ?_⟩
    exact hB0.grown HGZ.out hB0.size (fun k e => by cases e; exact Nat.le_refl _)
  · rw [decide_eq_false hk] at kd ⊢
    have KD := hide kd
    have kt := fun x (h : Rd x w.heap.size s k) => takes_any w.heap.size s k 35 x h hle hs
    cases ht : isAt s k 35 with
    | true =>
      rw [ht] at kt
      have KT := hide kt
      clear kt kd ks hR0
      go_enter Tryd.func56, Tryd.ntmps56
      go_wp2_with (first | (go_at_call 41; refine (KS.out _ HR.out).mono ?_; rintro e x ⟨rfl, hRx, hgx⟩; have HRX := hide hRx; have HGX := hide (grown_trans HG.out hgx); clear hRx hgx HR) | (go_at_call 40; refine (KD.out _ HRX.out).mono ?_; rintro e z ⟨rfl, nz, hz⟩; have HGZ := hide (grown_trans HGX.out (grown_drewN _ nz _)); have HRZ := hide (HRX.out.drewN nz); rw [← hz] at HGZ HRZ; clear hz HRX) | (go_at_call 38; refine (KT.out _ HRZ.out).mono ?_; rintro e y ⟨rfl, hRy, hgy⟩; have HGY := hide (grown_trans HGZ.out hgy); clear hRy hgy HRZ))
      go_ret
      refine ⟨rfl, ?_⟩
      exact hB0.grown HGY.out hB0.size (fun k e => by cases e; exact Nat.le_refl _)
    | false =>
      rw [ht] at kt
      have KT := hide kt
      clear kt kd ks hR0
      go_enter Tryd.func56, Tryd.ntmps56
      go_wp2_with (first | (go_at_call 41; refine (KS.out _ HR.out).mono ?_; rintro e x ⟨rfl, hRx, hgx⟩; have HRX := hide hRx; have HGX := hide (grown_trans HG.out hgx); clear hRx hgx HR) | (go_at_call 40; refine (KD.out _ HRX.out).mono ?_; rintro e z ⟨rfl, nz, hz⟩; have HGZ := hide (grown_trans HGX.out (grown_drewN _ nz _)); have HRZ := hide (HRX.out.drewN nz); rw [← hz] at HGZ HRZ; clear hz HRX) | (go_at_call 38; refine (KT.out _ HRZ.out).mono ?_; rintro e y ⟨rfl, hRy, hgy⟩; have HGY := hide (grown_trans HGZ.out hgy); clear hRy hgy HRZ))
      go_ret
      refine ⟨rfl, ?_⟩
      exact hB0.grown HGY.out hB0.size (fun k e => by cases e; exact Nat.le_refl _)
end Go.Proofs.YtmhbhpjpnmggkaaDoor
