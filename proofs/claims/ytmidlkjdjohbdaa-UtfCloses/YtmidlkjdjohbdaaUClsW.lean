/- The road of UtfCloses: for every two texts it returns true, and writes nothing that was there. -/
import Derived.Test.YtmidlkjdjohbdaaURefC
namespace Go.Proofs.Ytmidlkjdjohbdaa.utfCloses
open Go.RowKit Go.Proofs.Ytmidlkjdjohbdaa
set_option linter.unusedVariables false

def AnsI (f : Nat) (args : Array Value) (n : Int) : Prop := ∀ w, Calls Try.prog f args w fun e w' => e = .returned (.int .i64 n) ∧ Below w.heap.size w w'

set_option maxRecDepth 100000 in
set_option maxHeartbeats 1000000 in
theorem walk (a b : ByteArray) (w : World) (ha : a.size ≤ 9223372036854775807) (hb : b.size ≤ 9223372036854775807) :
    Calls Try.prog 7 #[.string a, .string b] w fun e w' => e = .returned (.bool true) ∧ Below w.heap.size w w' := by
  have k1 : AnsI 30 #[.string a, .string b] (closesV (bl a) (bl b)) := fun w => closes_any a b w hb
  have k2 : AnsI 31 #[.string a, .string b] (closesV (bl a) (bl b)) := fun w => refCloses_any a b w ha hb
  have k3 : AnsI 30 #[.string { data := #[] }, .string b] 0 := fun w => by
    have := closes_any { data := #[] } b w hb
    exact this
  generalize hK : (closesV (bl a) (bl b) : Int) = K at *
  have hKK : (K != K) = false := by simp
  have K1 := hide k1
  have K2 := hide k2
  have K3 := hide k3
  clear k1 k2 k3 hK
  have M1 := hide trivial
  go_enter Try.func7, Try.ntmps7
  go_wp2_with (first | (go_at_call 30; clear M1; refine (K1.out _).mono ?_; rintro e w1 ⟨rfl, hB1⟩) | (go_at_call 31; refine (K2.out _).mono ?_; rintro e w2 ⟨rfl, hB2⟩))
  have HB2 := hide (bseq hB1 hB2)
  clear hB1 hB2 K1 K2 hKK
  go_loopw [5] (fun q wr => ∃ n : Nat, n ≤ 5 ∧ n ≤ a.size + 1 ∧ q = .int .i64 n ∧ Below w.heap.size w wr) (fun q _ => 5 - (intOf q).toNat)
  case atStart => exact ⟨0, by omega, by omega, rfl, HB2.out⟩
  case round =>
    clear HB2
    obtain ⟨n, hn5, hna, rfl, hB⟩ := hrel
    have HB := hide hB
    clear hB
    by_cases h4 : n ≤ 4
    · have h4' : (n : Int) ≤ 4 := by omega
      by_cases hl : n ≤ a.size
      · have hl' : (n : Int) ≤ (a.size : Int) := by omega
        have e1 : ((a.size : Int) - (n : Int)).toNat = a.size - n := by omega
        have hps : (a.extract (a.size - n) a.size).size ≤ 9223372036854775807 := by rw [ByteArray.size_extract]; omega
        have k1 : AnsI 30 #[.string (a.extract (a.size - n) a.size), .string b] (closesV (bl (a.extract (a.size - n) a.size)) (bl b)) := fun w => closes_any _ b w hb
        have k2 : AnsI 31 #[.string (a.extract (a.size - n) a.size), .string b] (closesV (bl (a.extract (a.size - n) a.size)) (bl b)) := fun w => refCloses_any _ b w hps hb
        have k4 : AnsI 18 #[.string (a.extract (a.size - n) a.size)] (pendingV (bl (a.extract (a.size - n) a.size))) := fun w => pending_any _ w hps
        have k5 : AnsI 19 #[.string (a.extract (a.size - n) a.size)] (pendingV (bl (a.extract (a.size - n) a.size))) := fun w => refPending_any _ w hps
        clear hps
        generalize hK : (closesV (bl (a.extract (a.size - n) a.size)) (bl b) : Int) = K at *
        generalize hP : (pendingV (bl (a.extract (a.size - n) a.size)) : Int) = P at *
        have hKK : (K != K) = false := by simp
        have hPP : (P != P) = false := by simp
        have K1 := hide k1
        have K2 := hide k2
        have K4 := hide k4
        have K5 := hide k5
        clear k1 k2 k4 k5 hK hP
        go_wp2_with (first | (go_at_call 30; refine (K1.out _).mono ?_; rintro e w1 ⟨rfl, hB1⟩) | (go_at_call 31; refine (K2.out _).mono ?_; rintro e w2 ⟨rfl, hB2⟩) | (go_at_call 18; refine (K4.out _).mono ?_; rintro e w3 ⟨rfl, hB3⟩) | (go_at_call 19; refine (K5.out _).mono ?_; rintro e w4 ⟨rfl, hB4⟩))
        go_roundw
        case rel => exact ⟨n + 1, by omega, by omega, by go_num, bseq (bseq (bseq (bseq HB.out hB1) hB2) hB3) hB4⟩
        case measure => simp [intOf]; omega
      · have hl' : (a.size : Int) < (n : Int) := by omega
        go_wp2_with (first | (go_at_call 30; refine (K3.out _).mono ?_; rintro e w1 ⟨rfl, hB1⟩) | (go_at_call 25; refine (awake_any _).mono ?_; rintro e w2 ⟨rfl, hB2⟩))
        go_ret
        exact ⟨rfl, bseq (bseq HB.out hB1) hB2⟩
    · have hn : n = 5 := by omega
      subst hn
      go_wp2_with (first | (go_at_call 30; refine (K3.out _).mono ?_; rintro e w1 ⟨rfl, hB1⟩) | (go_at_call 25; refine (awake_any _).mono ?_; rintro e w2 ⟨rfl, hB2⟩))
      go_ret
      exact ⟨rfl, bseq (bseq HB.out hB1) hB2⟩
end Go.Proofs.Ytmidlkjdjohbdaa.utfCloses
