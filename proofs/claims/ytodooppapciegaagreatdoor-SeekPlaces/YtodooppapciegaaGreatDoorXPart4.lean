/- Package seek: kinds of characters: line ends, words, blanks, folded. -/
import Derived.Test.YtodooppapciegaaGreatDoorXPart3
import Derived.Test.YtodooppapciegaaGreatDoorKRune
namespace Go.Proofs.YtodooppapciegaaGreatDoor
open Go.RowKit Go.Shelf
set_option linter.unusedVariables false

def endP (c : Ch) : Bool := c.2 && endK c.1
def wordP (c : Ch) : Bool := c.2 && wordK c.1
def blankP (c : Ch) : Bool := c.2 && blankK c.1
set_option maxHeartbeats 1000000 in
theorem ends_any (c : Ch) (w : World) : Calls Tryz.prog 48 #[chV c] w fun e w' => e = .returned (.bool (endP c)) ∧ Below w.heap.size w w' := by
  obtain ⟨c0, c1⟩ := c
  have hb : Below w.heap.size w (w.alloc (.cells #[.int .i32 c0, .bool c1] 71)) := (Below.refl _ w).alloc (Nat.le_refl _) _
  have HB := hide hb
  unfold chV endP
  simp only
  clear hb
  cases c1 <;> (
    go_enter Tryz.func48, Tryz.ntmps48
    go_wp2_with (go_at_call 64; refine (kends_any _ _).mono ?_; rintro e z ⟨rfl, rfl⟩)
    go_ret
    exact ⟨rfl, HB.out⟩)
set_option maxHeartbeats 1000000 in
theorem xword_any (c : Ch) (w : World) : Calls Tryz.prog 65 #[chV c] w fun e w' => e = .returned (.bool (wordP c)) ∧ Below w.heap.size w w' := by
  obtain ⟨c0, c1⟩ := c
  have hb : Below w.heap.size w (w.alloc (.cells #[.int .i32 c0, .bool c1] 71)) := (Below.refl _ w).alloc (Nat.le_refl _) _
  have HB := hide hb
  unfold chV wordP
  simp only
  clear hb
  cases c1 <;> (
    go_enter Tryz.func65, Tryz.ntmps65
    go_wp2_with (go_at_call 77; refine (word_any _ _).mono ?_; rintro e z ⟨rfl, rfl⟩)
    go_ret
    exact ⟨rfl, HB.out⟩)
set_option maxHeartbeats 1000000 in
theorem xblank_any (c : Ch) (w : World) : Calls Tryz.prog 67 #[chV c] w fun e w' => e = .returned (.bool (blankP c)) ∧ Below w.heap.size w w' := by
  obtain ⟨c0, c1⟩ := c
  have hb : Below w.heap.size w (w.alloc (.cells #[.int .i32 c0, .bool c1] 71)) := (Below.refl _ w).alloc (Nat.le_refl _) _
  have HB := hide hb
  unfold chV blankP
  simp only
  clear hb
  cases c1 <;> (
    go_enter Tryz.func67, Tryz.ntmps67
    go_wp2_with (go_at_call 79; refine (blank_any _ _).mono ?_; rintro e z ⟨rfl, rfl⟩)
    go_ret
    exact ⟨rfl, HB.out⟩)
set_option maxHeartbeats 1000000 in
theorem xwithin_any (c : Ch) (w : World) : Calls Tryz.prog 28 #[chV c] w fun e w' => e = .returned (.bool (!endP c)) ∧ Below w.heap.size w w' := by
  obtain ⟨c0, c1⟩ := c
  have hb : Below w.heap.size w (w.alloc (.cells #[.int .i32 c0, .bool c1] 71)) := (Below.refl _ w).alloc (Nat.le_refl _) _
  have kc := ends_any (c0, c1) (w.alloc (.cells #[.int .i32 c0, .bool c1] 71))
  have hx' := heap_alloc_new w (.cells #[.int .i32 c0, .bool c1] 71)
  have x0 := cel2 hx' 0 _ rfl
  have x1 := cel2 hx' 1 _ rfl
  have HB := hide hb
  unfold chV at kc ⊢
  simp only at kc ⊢
  have KC := hide kc
  clear hb kc hx'
  generalize endP (c0, c1) = pc at *
  go_enter Tryz.func28, Tryz.ntmps28
  go_wp2_with (refine (KC.out).mono ?_; rintro e z ⟨rfl, hbz⟩; have HZ := hide hbz; clear hbz)
  go_ret
  exact ⟨rfl, bseq HB.out HZ.out⟩
theorem endsV (W : World) : PartV (fun _ => False) W (.func (.func 48) #[] #[]) endP :=
  ⟨fun _ h => h.elim, 48, #[], rfl, enters_of Tryz.func48 (by kernel_rfl) rfl, fun W' _ c => ends_any c W'⟩
theorem wordV (W : World) : PartV (fun _ => False) W (.func (.func 65) #[] #[]) wordP :=
  ⟨fun _ h => h.elim, 65, #[], rfl, enters_of Tryz.func65 (by kernel_rfl) rfl, fun W' _ c => xword_any c W'⟩
theorem blankV (W : World) : PartV (fun _ => False) W (.func (.func 67) #[] #[]) blankP :=
  ⟨fun _ h => h.elim, 67, #[], rfl, enters_of Tryz.func67 (by kernel_rfl) rfl, fun W' _ c => xblank_any c W'⟩
theorem withinV (W : World) : PartV (fun _ => False) W (.func (.func 28) #[] #[]) (fun c => !endP c) :=
  ⟨fun _ h => h.elim, 28, #[], rfl, enters_of Tryz.func28 (by kernel_rfl) rfl, fun W' _ c => xwithin_any c W'⟩
end Go.Proofs.YtodooppapciegaaGreatDoor
