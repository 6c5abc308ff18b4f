/- The road of UtfNames: it returns true, and writes nothing that was there. -/
import Derived.Test.YtmidlkjdjohbdabUMend
namespace Go.Proofs.Ytmidlkjdjohbdab.utfNames
open Go.RowKit Go.Proofs.Ytmidlkjdjohbdab
set_option linter.unusedVariables false

def ps0 : ByteArray := { data := #[226, 130] }
theorem pe0 (w : World) : Calls Try.prog 20 #[.string { data := #[226, 130] }] w fun e w' => e = .returned (.int .i64 2) ∧ Below w.heap.size w w' := by
  have h := pending_any ps0 w (by decide)
  have e : pendingV (bl ps0) = 2 := by decide +kernel
  rw [e] at h
  exact h
def ps1 : ByteArray := { data := #[224, 128] }
theorem pe1 (w : World) : Calls Try.prog 20 #[.string { data := #[224, 128] }] w fun e w' => e = .returned (.int .i64 0) ∧ Below w.heap.size w w' := by
  have h := pending_any ps1 w (by decide)
  have e : pendingV (bl ps1) = 0 := by decide +kernel
  rw [e] at h
  exact h
def ps2 : ByteArray := { data := #[240, 159, 152] }
theorem pe2 (w : World) : Calls Try.prog 20 #[.string { data := #[240, 159, 152] }] w fun e w' => e = .returned (.int .i64 3) ∧ Below w.heap.size w w' := by
  have h := pending_any ps2 w (by decide)
  have e : pendingV (bl ps2) = 3 := by decide +kernel
  rw [e] at h
  exact h
def ps3 : ByteArray := { data := #[192] }
theorem pe3 (w : World) : Calls Try.prog 20 #[.string { data := #[192] }] w fun e w' => e = .returned (.int .i64 0) ∧ Below w.heap.size w w' := by
  have h := pending_any ps3 w (by decide)
  have e : pendingV (bl ps3) = 0 := by decide +kernel
  rw [e] at h
  exact h
def ps4 : ByteArray := { data := #[] }
theorem pe4 (w : World) : Calls Try.prog 20 #[.string { data := #[] }] w fun e w' => e = .returned (.int .i64 0) ∧ Below w.heap.size w w' := by
  have h := pending_any ps4 w (by decide)
  have e : pendingV (bl ps4) = 0 := by decide +kernel
  rw [e] at h
  exact h
def ca0 : ByteArray := { data := #[226, 130] }
def cb0 : ByteArray := { data := #[172, 65] }
theorem cl0 (w : World) : Calls Try.prog 21 #[.string { data := #[226, 130] }, .string { data := #[172, 65] }] w fun e w' => e = .returned (.int .i64 1) ∧ Below w.heap.size w w' := by
  have h := closes_any ca0 cb0 w (by decide)
  have e : closesV (bl ca0) (bl cb0) = 1 := by decide +kernel
  rw [e] at h
  exact h
def ca1 : ByteArray := { data := #[226] }
def cb1 : ByteArray := { data := #[130, 172] }
theorem cl1 (w : World) : Calls Try.prog 21 #[.string { data := #[226] }, .string { data := #[130, 172] }] w fun e w' => e = .returned (.int .i64 2) ∧ Below w.heap.size w w' := by
  have h := closes_any ca1 cb1 w (by decide)
  have e : closesV (bl ca1) (bl cb1) = 2 := by decide +kernel
  rw [e] at h
  exact h
def ca2 : ByteArray := { data := #[226] }
def cb2 : ByteArray := { data := #[130] }
theorem cl2 (w : World) : Calls Try.prog 21 #[.string { data := #[226] }, .string { data := #[130] }] w fun e w' => e = .returned (.int .i64 0) ∧ Below w.heap.size w w' := by
  have h := closes_any ca2 cb2 w (by decide)
  have e : closesV (bl ca2) (bl cb2) = 0 := by decide +kernel
  rw [e] at h
  exact h
def ca3 : ByteArray := { data := #[65] }
def cb3 : ByteArray := { data := #[65] }
theorem cl3 (w : World) : Calls Try.prog 21 #[.string { data := #[65] }, .string { data := #[65] }] w fun e w' => e = .returned (.int .i64 0) ∧ Below w.heap.size w w' := by
  have h := closes_any ca3 cb3 w (by decide)
  have e : closesV (bl ca3) (bl cb3) = 0 := by decide +kernel
  rw [e] at h
  exact h
def ca4 : ByteArray := { data := #[240] }
def cb4 : ByteArray := { data := #[159, 152, 128] }
theorem cl4 (w : World) : Calls Try.prog 21 #[.string { data := #[240] }, .string { data := #[159, 152, 128] }] w fun e w' => e = .returned (.int .i64 3) ∧ Below w.heap.size w w' := by
  have h := closes_any ca4 cb4 w (by decide)
  have e : closesV (bl ca4) (bl cb4) = 3 := by decide +kernel
  rw [e] at h
  exact h
def ns0 : ByteArray := { data := #[237, 160, 128] }
theorem cn0 (w : World) : Calls Try.prog 14 #[.string { data := #[237, 160, 128] }] w fun e w' => e = .returned (.int .i64 3) ∧ Below w.heap.size w w' := by
  have h := count_any ns0 w (by decide)
  have e : (Cs 0 (bl ns0)).length = 3 := by decide +kernel
  rw [e] at h
  exact h
def ns1 : ByteArray := { data := #[244, 144, 128, 128] }
theorem cn1 (w : World) : Calls Try.prog 14 #[.string { data := #[244, 144, 128, 128] }] w fun e w' => e = .returned (.int .i64 4) ∧ Below w.heap.size w w' := by
  have h := count_any ns1 w (by decide)
  have e : (Cs 0 (bl ns1)).length = 4 := by decide +kernel
  rw [e] at h
  exact h
def ms : ByteArray := { data := #[255] }
theorem me (w : World) : Calls Try.prog 26 #[.string { data := #[255] }] w fun e w' => e = .returned (.string { data := #[239, 191, 189] }) ∧ Below w.heap.size w w' := by
  have h := mend_any ms w (by decide)
  have e : mendV (bl ms) = [239, 191, 189] := by decide +kernel
  rw [e] at h
  exact h

set_option maxRecDepth 100000 in
set_option maxHeartbeats 4000000 in
theorem walk (w : World) : Calls Try.prog 8 #[] w fun e w' => e = .returned (.bool true) ∧ Below w.heap.size w w' := by
  have P0 := hide trivial
  have P1 := hide trivial
  have P2 := hide trivial
  have P3 := hide trivial
  have P4 := hide trivial
  have C0 := hide trivial
  have C1 := hide trivial
  have C2 := hide trivial
  have C3 := hide trivial
  have C4 := hide trivial
  have N0 := hide trivial
  have N1 := hide trivial
  go_enter Try.func8, Try.ntmps8
  go_wp2_with (first | (go_at_call 20; clear P0; refine (pe0 _).mono ?_; rintro e wp0 ⟨rfl, hp0⟩) | (go_at_call 20; clear P1; refine (pe1 _).mono ?_; rintro e wp1 ⟨rfl, hp1⟩) | (go_at_call 20; clear P2; refine (pe2 _).mono ?_; rintro e wp2 ⟨rfl, hp2⟩) | (go_at_call 20; clear P3; refine (pe3 _).mono ?_; rintro e wp3 ⟨rfl, hp3⟩) | (go_at_call 20; clear P4; refine (pe4 _).mono ?_; rintro e wp4 ⟨rfl, hp4⟩) | (go_at_call 21; clear C0; refine (cl0 _).mono ?_; rintro e wc0 ⟨rfl, hc0⟩) | (go_at_call 21; clear C1; refine (cl1 _).mono ?_; rintro e wc1 ⟨rfl, hc1⟩) | (go_at_call 21; clear C2; refine (cl2 _).mono ?_; rintro e wc2 ⟨rfl, hc2⟩) | (go_at_call 21; clear C3; refine (cl3 _).mono ?_; rintro e wc3 ⟨rfl, hc3⟩) | (go_at_call 21; clear C4; refine (cl4 _).mono ?_; rintro e wc4 ⟨rfl, hc4⟩) | (go_at_call 9; refine (awake_any _).mono ?_; rintro e wa ⟨rfl, ha⟩) | (go_at_call 14; clear N0; refine (cn0 _).mono ?_; rintro e wn0 ⟨rfl, hn0⟩) | (go_at_call 14; clear N1; refine (cn1 _).mono ?_; rintro e wn1 ⟨rfl, hn1⟩) | (go_at_call 26; refine (me _).mono ?_; rintro e wm ⟨rfl, hm⟩))
  go_ret
  exact ⟨rfl, bseq (bseq (bseq (bseq (bseq (bseq (bseq (bseq (bseq (bseq (bseq (bseq (bseq hp0 hp1) hp2) hp3) hp4) hc0) hc1) hc2) hc3) hc4) ha) hn0) hn1) hm⟩
end Go.Proofs.Ytmidlkjdjohbdab.utfNames
