/- Package seek: kinds of characters: line ends, words, blanks, folded. -/
import Derived.Test.YtnghecdljjbcmaaXPart3
import Derived.Test.YtnghecdljjbcmaaKRune
namespace Go.Proofs.Ytnghecdljjbcmaa
open Go.RowKit Go.Shelf
set_option linter.unusedVariables false

def endP (c : Ch) : Bool := c.2 && endK c.1
def wordP (c : Ch) : Bool := c.2 && wordK c.1
def blankP (c : Ch) : Bool := c.2 && blankK c.1
set_option maxHeartbeats 1000000 in
theorem ends_any (c : Ch) (w : World) : Calls Try.prog 45 #[chV c] w fun e w' => e = .returned (.bool (endP c)) ∧ Below w.heap.size w w' := by
  obtain ⟨c0, c1⟩ := c
  have hb : Below w.heap.size w (w.alloc (.cells #[.int .i32 c0, .bool c1] 68)) := (Below.refl _ w).alloc (Nat.le_refl _) _
  have HB := hide hb
  unfold chV endP
  simp only
  clear hb
  cases c1 <;> (
    go_enter Try.func45, Try.ntmps45
    go_wp2_with (go_at_call 54; refine (kends_any _ _).mono ?_; rintro e z ⟨rfl, rfl⟩)
    go_ret
    exact ⟨rfl, HB.out⟩)
set_option maxHeartbeats 1000000 in
theorem xword_any (c : Ch) (w : World) : Calls Try.prog 55 #[chV c] w fun e w' => e = .returned (.bool (wordP c)) ∧ Below w.heap.size w w' := by
  obtain ⟨c0, c1⟩ := c
  have hb : Below w.heap.size w (w.alloc (.cells #[.int .i32 c0, .bool c1] 68)) := (Below.refl _ w).alloc (Nat.le_refl _) _
  have HB := hide hb
  unfold chV wordP
  simp only
  clear hb
  cases c1 <;> (
    go_enter Try.func55, Try.ntmps55
    go_wp2_with (go_at_call 67; refine (word_any _ _).mono ?_; rintro e z ⟨rfl, rfl⟩)
    go_ret
    exact ⟨rfl, HB.out⟩)
set_option maxHeartbeats 1000000 in
theorem xblank_any (c : Ch) (w : World) : Calls Try.prog 57 #[chV c] w fun e w' => e = .returned (.bool (blankP c)) ∧ Below w.heap.size w w' := by
  obtain ⟨c0, c1⟩ := c
  have hb : Below w.heap.size w (w.alloc (.cells #[.int .i32 c0, .bool c1] 68)) := (Below.refl _ w).alloc (Nat.le_refl _) _
  have HB := hide hb
  unfold chV blankP
  simp only
  clear hb
  cases c1 <;> (
    go_enter Try.func57, Try.ntmps57
    go_wp2_with (go_at_call 69; refine (blank_any _ _).mono ?_; rintro e z ⟨rfl, rfl⟩)
    go_ret
    exact ⟨rfl, HB.out⟩)
set_option maxHeartbeats 1000000 in
theorem xwithin_any (c : Ch) (w : World) : Calls Try.prog 30 #[chV c] w fun e w' => e = .returned (.bool (!endP c)) ∧ Below w.heap.size w w' := by
  obtain ⟨c0, c1⟩ := c
  have hb : Below w.heap.size w (w.alloc (.cells #[.int .i32 c0, .bool c1] 68)) := (Below.refl _ w).alloc (Nat.le_refl _) _
  have kc := ends_any (c0, c1) (w.alloc (.cells #[.int .i32 c0, .bool c1] 68))
  have hx' := heap_alloc_new w (.cells #[.int .i32 c0, .bool c1] 68)
  have x0 := cel2 hx' 0 _ rfl
  have x1 := cel2 hx' 1 _ rfl
  have HB := hide hb
  unfold chV at kc ⊢
  simp only at kc ⊢
  have KC := hide kc
  clear hb kc hx'
  generalize endP (c0, c1) = pc at *
  go_enter Try.func30, Try.ntmps30
  go_wp2_with (refine (KC.out).mono ?_; rintro e z ⟨rfl, hbz⟩; have HZ := hide hbz; clear hbz)
  go_ret
  exact ⟨rfl, bseq HB.out HZ.out⟩
theorem endsV (W : World) : PartV (fun _ => False) W (.func (.func 45) #[] #[]) endP :=
  ⟨fun _ h => h.elim, 45, #[], rfl, enters_of Try.func45 (by kernel_rfl) rfl, fun W' _ c => ends_any c W'⟩
theorem wordV (W : World) : PartV (fun _ => False) W (.func (.func 55) #[] #[]) wordP :=
  ⟨fun _ h => h.elim, 55, #[], rfl, enters_of Try.func55 (by kernel_rfl) rfl, fun W' _ c => xword_any c W'⟩
theorem blankV (W : World) : PartV (fun _ => False) W (.func (.func 57) #[] #[]) blankP :=
  ⟨fun _ h => h.elim, 57, #[], rfl, enters_of Try.func57 (by kernel_rfl) rfl, fun W' _ c => xblank_any c W'⟩
theorem withinV (W : World) : PartV (fun _ => False) W (.func (.func 30) #[] #[]) (fun c => !endP c) :=
  ⟨fun _ h => h.elim, 30, #[], rfl, enters_of Try.func30 (by kernel_rfl) rfl, fun W' _ c => xwithin_any c W'⟩
end Go.Proofs.Ytnghecdljjbcmaa
