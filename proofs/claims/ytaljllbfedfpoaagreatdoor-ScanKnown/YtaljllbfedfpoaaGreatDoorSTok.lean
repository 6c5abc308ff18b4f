/- Package scan: the kinds of bytes, runs, the token of a run. -/
import Derived.Test.YtaljllbfedfpoaaGreatDoorSNum
import Derived.Test.YtaljllbfedfpoaaGreatDoorTShelf
namespace Go.Proofs.YtaljllbfedfpoaaGreatDoor
open Go.RowKit Go.Shelf
set_option linter.unusedVariables false

def blankC (c : Nat) : Bool := c == 32 || c == 9
def runC (c : Nat) : Bool := (decide (97 ≤ c) && decide (c ≤ 122)) || (decide (48 ≤ c) && decide (c ≤ 57)) || c == 46 || c == 95 || c == 45
theorem natI (c k : Nat) : ((c : Int) == (k : Int)) = (c == k) := by
  by_cases h : c = k
  · subst h; simp
  · rw [beq_eq_false_iff_ne.2 h]; exact beq_eq_false_iff_ne.2 (by omega)
set_option maxHeartbeats 400000 in
theorem isBlank_any (c : Nat) (w : World) (hc : c < 256) : Calls Tryz.prog 27 #[.int .u8 (c : Int)] w fun e w' => e = .returned (.bool (blankC c)) ∧ w' = w := by
  by_cases h1 : c = 32
  · subst h1
    go_enter Tryz.func27, Tryz.ntmps27
    go_wp2
    go_ret
    exact ⟨rfl, rfl⟩
  · have e1 : ((c : Int) == 32) = false := beq_eq_false_iff_ne.2 (by omega)
    by_cases h2 : c = 9
    · subst h2
      go_enter Tryz.func27, Tryz.ntmps27
      go_wp2
      go_ret
      exact ⟨rfl, rfl⟩
    · have e2 : ((c : Int) == 9) = false := beq_eq_false_iff_ne.2 (by omega)
      have e3 : blankC c = false := by unfold blankC; simp [h1, h2]
      rw [e3]
      clear h1 h2 e3
      go_enter Tryz.func27, Tryz.ntmps27
      go_wp2
      go_ret
      exact ⟨rfl, rfl⟩
set_option maxHeartbeats 1000000 in
theorem inRun_any (c : Nat) (w : World) (hc : c < 256) : Calls Tryz.prog 30 #[.int .u8 (c : Int)] w fun e w' => e = .returned (.bool (runC c)) ∧ w' = w := by
  obtain ⟨R, hR⟩ : ∃ R, runC c = R := ⟨_, rfl⟩
  rw [hR]
  have HR := hide hR
  clear hR
  go_enter Tryz.func30, Tryz.ntmps30
  go_wp2
  all_goals go_ret
  all_goals refine ⟨?_, rfl⟩
  all_goals rw [← HR.out]
  all_goals refine congrArg (fun b => Ending.returned (Value.bool b)) ?_
  all_goals (rw [Bool.eq_iff_iff]; simp only [runC, Bool.or_eq_true, Bool.and_eq_true, decide_eq_true_eq, beq_iff_eq, true_iff]; omega)
theorem blank_enters : ∀ args w', (callFunc 27 args).run Tryz.prog w' = .ok (.enter 27 args) w' := enters_of Tryz.func27 (by kernel_rfl) rfl
theorem run_enters : ∀ args w', (callFunc 30 args).run Tryz.prog w' = .ok (.enter 30 args) w' := enters_of Tryz.func30 (by kernel_rfl) rfl
theorem skipBlank (b : Nat) (s : ByteArray) (p : Nat) (w : World) (h : Rd w b s p) (hp : p ≤ s.size) (hs : s.size ≤ 140737488355328) :
    Calls Tryz.prog 26 #[.pointer (some ⟨b, 0, none⟩), .func (.func 27) #[] #[]] w fun e w' => e = .returned (.bool (decide (0 < skp blankC ((bl s).drop p)))) ∧ Rd w' b s (p + skp blankC ((bl s).drop p)) ∧ w.grownBy w' (some b) :=
  skip_any 27 blankC (fun c w' hc => isBlank_any c w' hc) blank_enters b s p w h hp hs
theorem skipRun (b : Nat) (s : ByteArray) (p : Nat) (w : World) (h : Rd w b s p) (hp : p ≤ s.size) (hs : s.size ≤ 140737488355328) :
    Calls Tryz.prog 26 #[.pointer (some ⟨b, 0, none⟩), .func (.func 30) #[] #[]] w fun e w' => e = .returned (.bool (decide (0 < skp runC ((bl s).drop p)))) ∧ Rd w' b s (p + skp runC ((bl s).drop p)) ∧ w.grownBy w' (some b) :=
  skip_any 30 runC (fun c w' hc => inRun_any c w' hc) run_enters b s p w h hp hs
/-- A run, and nothing else. -/
def isRunL (l : List UInt8) : Bool := decide (0 < skp runC l) && decide (skp runC l = l.length)
set_option maxHeartbeats 400000 in
theorem isRun_any (s : ByteArray) (w : World) (hs : s.size ≤ 140737488355328) : Calls Tryz.prog 67 #[.string s] w fun e w' => e = .returned (.bool (isRunL (bl s))) ∧ Below w.heap.size w w' := by
  have hR : Rd (w.alloc (.cells #[.string s, .int .i64 0] 58)) w.heap.size s 0 := heap_alloc_new w _
  have ks := skipRun w.heap.size s 0 _ hR (by omega) hs
  rw [List.drop_zero, Nat.zero_add] at ks
  have kd := done_any w.heap.size s (skp runC (bl s))
  have hle := skp_le runC (bl s)
  rw [bl_len] at hle
  have hl : isRunL (bl s) = (decide (0 < skp runC (bl s)) && decide (skp runC (bl s) = s.size)) := by unfold isRunL; rw [bl_len]
  rw [hl]
  have hB0 : Below w.heap.size w (w.alloc (.cells #[.string s, .int .i64 0] 58)) := (Below.refl _ _).alloc (Nat.le_refl _) _
  generalize skp runC (bl s) = n at *
  have KS := hide ks
  have KD := hide kd
  have HB0 := hide hB0
  clear ks kd hl hR hB0
  by_cases hn : 0 < n
  · have hd : decide (0 < n) = true := decide_eq_true hn
    rw [hd] at KS ⊢
    go_enter Tryz.func67, Tryz.ntmps67
    go_wp2_with (first | (go_at_call 26; refine KS.out.mono ?_; rintro e w1 ⟨rfl, hR1, hg1⟩) | (go_at_call 28; refine (KD.out _ hR1 hle).mono ?_; rintro e w2 ⟨rfl, k, rfl⟩))
    go_ret
    refine ⟨by simp, ?_⟩
    have h1 : Below w.heap.size w w1 := HB0.out.grown hg1 HB0.out.size (fun k e => by cases e; exact Nat.le_refl _)
    exact below_drewN h1 k
  · have hd : decide (0 < n) = false := decide_eq_false hn
    rw [hd] at KS ⊢
    go_enter Tryz.func67, Tryz.ntmps67
    go_wp2_with (first | (go_at_call 26; refine KS.out.mono ?_; rintro e w1 ⟨rfl, hR1, hg1⟩))
    go_ret
    exact ⟨rfl, HB0.out.grown hg1 HB0.out.size (fun k e => by cases e; exact Nat.le_refl _)⟩
end Go.Proofs.YtaljllbfedfpoaaGreatDoor
