/- The road of UtfReads: for every text of bounded size it returns true, and writes nothing that was there. -/
import Derived.Test.YtmidlkjdjohbdaaURefE
namespace Go.Proofs.Ytmidlkjdjohbdaa.utfReads
open Go.RowKit Go.Proofs.Ytmidlkjdjohbdaa
set_option linter.unusedVariables false

def Ans3 (s : ByteArray) (f : Nat) (a b : Int) (g : Bool) : Prop := ∀ w, Calls Try.prog f #[.string s] w fun e w' => e = .returned (.tuple #[.int .i32 a, .int .i64 b, .bool g]) ∧ Below w.heap.size w w'
def AnsI (s : ByteArray) (f : Nat) (a : Int) : Prop := ∀ w, Calls Try.prog f #[.string s] w fun e w' => e = .returned (.int .i64 a) ∧ Below w.heap.size w w'
def AnsS (s : ByteArray) (f : Nat) (t : ByteArray) : Prop := ∀ w, Calls Try.prog f #[.string s] w fun e w' => e = .returned (.string t) ∧ Below w.heap.size w w'

set_option maxRecDepth 100000 in
set_option maxHeartbeats 2000000 in
theorem walk (s : ByteArray) (w : World) (hs : s.size ≤ 1048576) :
    Calls Try.prog 3 #[.string s] w fun e w' => e = .returned (.bool true) ∧ Below w.heap.size w w' := by
  have hcl := Cs_len_le (bl s)
  rw [bl_len] at hcl
  have k1 : Ans3 s 9 (firstV (bl s)).1 (firstV (bl s)).2.1 (firstV (bl s)).2.2 := fun w => first_any s w (by omega)
  have k2 : Ans3 s 10 (firstV (bl s)).1 (firstV (bl s)).2.1 (firstV (bl s)).2.2 := fun w => refFirst_any s w (by omega)
  have k3 : Ans3 s 11 (lastV (bl s)).1 (lastV (bl s)).2.1 (lastV (bl s)).2.2 := fun w => last_any s w (by omega)
  have k4 : Ans3 s 12 (lastV (bl s)).1 (lastV (bl s)).2.1 (lastV (bl s)).2.2 := fun w => refLast_any s w hs
  have k5 : AnsI s 13 ((Cs 0 (bl s)).length : Nat) := fun w => count_any s w (by omega)
  have k6 : AnsI s 14 ((Cs 0 (bl s)).length : Nat) := fun w => refCount_any s w hs
  have k7 : ∀ w, Calls Try.prog 16 #[.string s] w fun e w' => ∃ g, e = .returned (.slice (some ⟨g, 0, none⟩) (Cs 0 (bl s)).length (Cs 0 (bl s)).length) ∧ SlU w' (some ⟨g, 0, none⟩) (runesZ (bl s)) ∧ Below w.heap.size w w' := fun w => (runes_any s w (by omega)).mono (by
    rintro e w' ⟨g, rfl, ho, hB⟩
    rw [← runesZ_len] at ho
    obtain ⟨a, cap, he, hsl⟩ := slu_of_owns ho
    cases he
    exact ⟨g, rfl, hsl, hB⟩)
  have k8 := fun w => refRunes_any s w hs
  have k9 : AnsI s 18 (pendingV (bl s) : Nat) := fun w => pending_any s w (by omega)
  have k10 : AnsI s 19 (pendingV (bl s) : Nat) := fun w => refPending_any s w (by omega)
  have k11 : AnsS s 20 ⟨(mendV (bl s)).toArray⟩ := fun w => mend_any s w (by omega)
  have k12 : AnsS s 21 ⟨(mendV (bl s)).toArray⟩ := fun w => refMend_any s w hs
  have hrl := runesZ_len (bl s)
  generalize (firstV (bl s)).1 = f1 at *
  generalize (firstV (bl s)).2.1 = f2 at *
  generalize (firstV (bl s)).2.2 = f3 at *
  generalize (lastV (bl s)).1 = l1 at *
  generalize (lastV (bl s)).2.1 = l2 at *
  generalize (lastV (bl s)).2.2 = l3 at *
  generalize (Cs 0 (bl s)).length = m at *
  generalize runesZ (bl s) = Z at *
  generalize (pendingV (bl s)) = p at *
  generalize mendV (bl s) = M at *
  have ks := fun (w : World) (a b : Option Addr) (c d : Nat) (h1 : SlU w a Z) (h2 : SlU w b Z) => same_yes a b c d Z m hrl w h1 h2 (by omega)
  have q1 : (f1 != f1) = false := by simp
  have q2 : (f2 != f2) = false := by simp
  have q3 : (l1 != l1) = false := by simp
  have q4 : (l2 != l2) = false := by simp
  have q5 : ((m : Int) == (m : Int)) = true := by simp
  have q6 : ((p : Int) == (p : Int)) = true := by simp
  have q7 : (M == M) = true := by simp
  have K1 := hide k1
  have K2 := hide k2
  have K3 := hide k3
  have K4 := hide k4
  have K5 := hide k5
  have K6 := hide k6
  have K7 := hide k7
  have K8 := hide k8
  have K9 := hide k9
  have K10 := hide k10
  have K11 := hide k11
  have K12 := hide k12
  have KS := hide ks
  clear k1 k2 k3 k4 k5 k6 k7 k8 k9 k10 k11 k12 ks hrl
  cases f3
  all_goals
    cases l3
    all_goals
      go_enter Try.func3, Try.ntmps3
      go_wp2_with (first | (go_at_call 9; refine (K1.out _).mono ?_; rintro e w1 ⟨rfl, hB1⟩) | (go_at_call 10; refine (K2.out _).mono ?_; rintro e w2 ⟨rfl, hB2⟩) | (go_at_call 11; refine (K3.out _).mono ?_; rintro e w3 ⟨rfl, hB3⟩) | (go_at_call 12; refine (K4.out _).mono ?_; rintro e w4 ⟨rfl, hB4⟩) | (go_at_call 13; refine (K5.out _).mono ?_; rintro e w5 ⟨rfl, hB5⟩) | (go_at_call 14; refine (K6.out _).mono ?_; rintro e w6 ⟨rfl, hB6⟩) | (go_at_call 16; refine (K7.out _).mono ?_; rintro e w7 ⟨g7, rfl, hs7, hB7⟩) | (go_at_call 17; refine (K8.out _).mono ?_; rintro e w8 ⟨a8, c8, rfl, hs8, hB8⟩) | (go_at_call 15; refine (KS.out _ _ _ _ _ (hs7.below hB8) hs8).mono ?_; rintro e wx ⟨rfl, hBx⟩) | (go_at_call 18; refine (K9.out _).mono ?_; rintro e w9 ⟨rfl, hB9⟩) | (go_at_call 19; refine (K10.out _).mono ?_; rintro e w10 ⟨rfl, hB10⟩) | (go_at_call 20; refine (K11.out _).mono ?_; rintro e w11 ⟨rfl, hB11⟩) | (go_at_call 21; refine (K12.out _).mono ?_; rintro e w12 ⟨rfl, hB12⟩))
      go_ret
      exact ⟨rfl, bseq (bseq (bseq (bseq (bseq (bseq (bseq (bseq (bseq (bseq (bseq (bseq hB1 hB2) hB3) hB4) hB5) hB6) hB7) hB8) hBx) hB9) hB10) hB11) hB12⟩
end Go.Proofs.Ytmidlkjdjohbdaa.utfReads
