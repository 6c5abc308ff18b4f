/- The road of UtfPlaces: for every text of bounded size and every number it returns true, and writes nothing that was there. -/
import Derived.Test.YtmidlkjdjohbdaaUChs
namespace Go.Proofs.Ytmidlkjdjohbdaa.utfPlaces
open Go.RowKit Go.Proofs.Ytmidlkjdjohbdaa
set_option linter.unusedVariables false

def Ans (s : ByteArray) (f : Nat) (n : Int) (a b : Int) : Prop := ∀ w, Calls Try.prog f #[.string s, .int .i64 n] w fun e w' => e = .returned (.tuple #[.int .i64 a, .int .i64 b]) ∧ Below w.heap.size w w'
def AnsB (s : ByteArray) (f : Nat) (n : Int) (a : Bool) : Prop := ∀ w, Calls Try.prog f #[.string s, .int .i64 n] w fun e w' => e = .returned (.bool a) ∧ Below w.heap.size w w'

set_option maxRecDepth 100000 in
set_option maxHeartbeats 1000000 in
theorem place_any (s : ByteArray) (n : Int) (w : World) (hs : s.size ≤ 1048576) :
    Calls Try.prog 22 #[.string s, .int .i64 n] w fun e w' => e = .returned (.bool true) ∧ Below w.heap.size w w' := by
  have k1 : Ans s 42 n (atV (bl s) n).1 (atV (bl s) n).2 := fun w => at_any s n w (by omega)
  have k2 : Ans s 43 n (atV (bl s) n).1 (atV (bl s) n).2 := fun w => refAt_any s n w hs
  have k3 : Ans s 44 n (ofV (bl s) n).1 (ofV (bl s) n).2 := fun w => of_any s n w (by omega)
  have k4 : Ans s 45 n (ofV (bl s) n).1 (ofV (bl s) n).2 := fun w => refOf_any s n w hs
  have k5 : AnsB s 46 n (beginsV (bl s) n) := fun w => begins_any s n w (by omega)
  have k6 : AnsB s 47 n (beginsV (bl s) n) := fun w => refBegins_any s n w hs
  generalize (atV (bl s) n).1 = a1 at *
  generalize (atV (bl s) n).2 = a2 at *
  generalize (ofV (bl s) n).1 = o1 at *
  generalize (ofV (bl s) n).2 = o2 at *
  generalize beginsV (bl s) n = b at *
  have e1 : (a1 == a1) = true := by simp
  have e2 : (a2 == a2) = true := by simp
  have e3 : (o1 == o1) = true := by simp
  have e4 : (o2 == o2) = true := by simp
  have K1 := hide k1
  have K2 := hide k2
  have K3 := hide k3
  have K4 := hide k4
  clear k1 k2 k3 k4
  cases b
  all_goals
    have K5 := hide k5
    have K6 := hide k6
    clear k5 k6
    go_enter Try.func22, Try.ntmps22
    go_wp2_with (first | (go_at_call 42; refine (K1.out _).mono ?_; rintro e w1 ⟨rfl, hB1⟩) | (go_at_call 43; refine (K2.out _).mono ?_; rintro e w2 ⟨rfl, hB2⟩) | (go_at_call 44; refine (K3.out _).mono ?_; rintro e w3 ⟨rfl, hB3⟩) | (go_at_call 45; refine (K4.out _).mono ?_; rintro e w4 ⟨rfl, hB4⟩) | (go_at_call 46; refine (K5.out _).mono ?_; rintro e w5 ⟨rfl, hB5⟩) | (go_at_call 47; refine (K6.out _).mono ?_; rintro e w6 ⟨rfl, hB6⟩))
    go_ret
    exact ⟨rfl, bseq (bseq (bseq (bseq (bseq hB1 hB2) hB3) hB4) hB5) hB6⟩

set_option maxHeartbeats 1000000 in
theorem walk (s : ByteArray) (n : Int) (w : World) (hs : s.size ≤ 1048576) :
    Calls Try.prog 4 #[.string s, .int .i64 n] w fun e w' => e = .returned (.bool true) ∧ Below w.heap.size w w' := by
  by_cases h2 : 200 < s.size
  · have h2' : (200 : Int) < (s.size : Int) := by omega
    go_enter Try.func4, Try.ntmps4
    go_wp2_with (go_at_call 22; refine (place_any _ _ _ hs).mono ?_; rintro e w1 ⟨rfl, hB1⟩)
    go_ret
    exact ⟨rfl, hB1⟩
  · have h2' : (s.size : Int) ≤ 200 := by omega
    go_enter Try.func4, Try.ntmps4
    go_wp2_with (go_at_call 22; refine (place_any _ _ _ hs).mono ?_; rintro e w1 ⟨rfl, hB1⟩)
    have HB1 := hide hB1
    clear hB1
    go_loopw [5] (fun q wr => ∃ i : Int, -2 ≤ i ∧ i ≤ (s.size : Int) + 3 ∧ q = .int .i64 i ∧ Below w.heap.size w wr) (fun q _ => ((s.size : Int) + 3 - intOf q).toNat)
    case atStart => exact ⟨-2, by omega, by omega, rfl, HB1.out⟩
    case round =>
      obtain ⟨i, h1, h3, rfl, hB⟩ := hrel
      have HB := hide hB
      clear hB HB1
      by_cases hlt : i ≤ (s.size : Int) + 2
      · go_wp2_with (go_at_call 22; refine (place_any _ _ _ hs).mono ?_; rintro e w2 ⟨rfl, hB2⟩)
        go_roundw
        case rel => exact ⟨i + 1, by omega, by omega, rfl, bseq HB.out hB2⟩
        case measure => simp [intOf]; omega
      · have hlt' : (s.size : Int) + 2 < i := by omega
        go_wp2
        go_ret
        exact ⟨rfl, HB.out⟩
end Go.Proofs.Ytmidlkjdjohbdaa.utfPlaces
