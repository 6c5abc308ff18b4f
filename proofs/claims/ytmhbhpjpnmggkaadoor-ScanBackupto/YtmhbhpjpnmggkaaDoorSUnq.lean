/- Package scan: a quoted text alone, read. -/
import Derived.Test.YtmhbhpjpnmggkaaDoorSQtdW
namespace Go.Proofs.YtmhbhpjpnmggkaaDoor
open Go.RowKit Go.Shelf
set_option linter.unusedVariables false

set_option maxRecDepth 100000 in
set_option maxHeartbeats 4000000 in
theorem unq_ok (s : ByteArray) (w : World) (hs : s.size ≤ 16384) (h0 : isAt s 0 34 = true) (T : List UInt8) (E : Nat) (hQ : Qt ((bl s).drop 1) = (T, E, true)) (hE : 1 + E = s.size) :
    Calls Tryd.prog 16 #[.string s] w fun e w' => e = .returned (.tuple #[.string ⟨T.toArray⟩, .nilIface]) ∧ Below w.heap.size w w' := by
  have hR0 : Rd (w.alloc (.cells #[.string s, .int .i64 0] 80)) w.heap.size s 0 := heap_alloc_new w _
  have hB0 : Below w.heap.size w (w.alloc (.cells #[.string s, .int .i64 0] 80)) := (Below.refl _ _).alloc (Nat.le_refl _) _
  have HR := hide hR0
  have HG := hide (grown_drewN (w.alloc (.cells #[.string s, .int .i64 0] 80)) 0 (some w.heap.size))
  have hs' : s.size ≤ 140737488355328 := by omega
  have h1 : 1 ≤ s.size := by omega
  have kq := fun x (h : Rd x w.heap.size s 1) => quoted_any w.heap.size s 1 x h h1 hs'
  rw [hQ] at kq
  simp only [if_true] at kq
  rw [hE] at kq
  have KQ := hide kq
  have kd := fun x (h : Rd x w.heap.size s s.size) => done_any w.heap.size s s.size x h (Nat.le_refl _)
  rw [decide_eq_true rfl] at kd
  have KD := hide kd
  clear hR0 kq kd hQ
  go_enter Tryd.func16, Tryd.ntmps16
  go_wp2_with (first | (go_at_call 38; refine (takes_yes w.heap.size s 0 34 _ HR.out (Nat.zero_le _) hs' h0).mono ?_; rintro e x ⟨rfl, hRx, hgx⟩; have HRX := hide hRx; have HGX := hide (grown_trans HG.out hgx); clear hRx hgx HR) | (go_at_call 39; refine (KQ.out _ HRX.out).mono ?_; rintro e y ⟨rfl, hRy, hgy⟩; have HRY := hide hRy; have HGY := hide (grown_trans HGX.out hgy); clear hRy hgy HRX) | (go_at_call 40; refine (KD.out _ HRY.out).mono ?_; rintro e z ⟨rfl, nz, hz⟩; subst hz))
  go_ret2
  refine ⟨rfl, ?_⟩
  exact below_drewN (hB0.grown HGY.out hB0.size (fun k e => by cases e; exact Nat.le_refl _)) nz
end Go.Proofs.YtmhbhpjpnmggkaaDoor
