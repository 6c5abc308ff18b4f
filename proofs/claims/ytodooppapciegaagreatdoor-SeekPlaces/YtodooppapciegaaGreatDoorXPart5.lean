/- Package seek: kinds of characters: alike, folded. -/
import Derived.Test.YtodooppapciegaaGreatDoorXPart4
namespace Go.Proofs.YtodooppapciegaaGreatDoor
open Go.RowKit Go.Shelf
set_option linter.unusedVariables false

def alkP (want : Int) (c : Ch) : Bool := c.2 && decide (foldK c.1 = want)
set_option maxHeartbeats 1000000 in
theorem alike1_any (B : Nat) (want : Int) (c : Ch) (w : World) (h : w.heap[B]? = some (.cells #[.int .i32 want] 21 (0, 0))) :
    Calls Tryz.prog 72 #[chV c, .pointer (some ⟨B, 0, none⟩)] w fun e w' => e = .returned (.bool (alkP want c)) ∧ Below w.heap.size w w' := by
  obtain ⟨c0, c1⟩ := c
  have hb : Below w.heap.size w (w.alloc (.cells #[.int .i32 c0, .bool c1] 71)) := (Below.refl _ w).alloc (Nat.le_refl _) _
  have e0 := cel2 ((hb.block B (Array.getElem?_eq_some_iff.1 h).1).trans h) 0 (.int .i32 want) rfl
  have HB := hide hb
  unfold chV alkP
  simp only
  clear h hb
  cases c1 with
  | false =>
    go_enter Tryz.func72, Tryz.ntmps72
    go_wp2_with (fail)
    try (go_quiet (fail); go_wp2_with (fail))
    go_ret
    first | exact ⟨rfl, HB.out⟩ | exact ⟨rfl, below_drewN HB.out _⟩
  | true =>
    go_enter Tryz.func72, Tryz.ntmps72
    go_wp2_with (fail)
    go_quiet ((go_at_call 71; refine Calls.quiet_of_same (fold_any _ _)))
    go_wp2_with (fail)
    go_ret
    first | exact ⟨rfl, HB.out⟩ | exact ⟨rfl, below_drewN HB.out _⟩ | exact ⟨by simp, HB.out⟩ | exact ⟨by simp, below_drewN HB.out _⟩
/-- As the character, but for the fold. -/
def alkD (d : Ch) (c : Ch) : Bool := if d.2 = true then alkP (foldK d.1) c else decide (c = d)
set_option maxHeartbeats 1000000 in
theorem alike_any (d : Ch) (w : World) :
    Calls Tryz.prog 50 #[chV d] w fun e w' => ∃ v, e = .returned v ∧ PartV (fun k => k = w.heap.size + 1) w' v (alkD d) ∧ Below w.heap.size w w' := by
  obtain ⟨d0, d1⟩ := d
  have hx' := heap_alloc_new w (.cells #[.int .i32 d0, .bool d1] 71)
  have x0 := cel2 hx' 0 (.int .i32 d0) rfl
  have x1 := cel2 hx' 1 (.bool d1) rfl
  have hb : Below w.heap.size w (w.alloc (.cells #[.int .i32 d0, .bool d1] 71)) := (Below.refl _ w).alloc (Nat.le_refl _) _
  cases d1 with
  | false =>
    have kc := same_any (d0, false) (w.alloc (.cells #[.int .i32 d0, .bool false] 71))
    have hz : (w.alloc (.cells #[.int .i32 d0, .bool false] 71)).heap.size = w.heap.size + 1 := by simp
    rw [hz] at kc
    have HB := hide hb
    have HZ := hide hz
    unfold chV at kc ⊢
    simp only at kc ⊢
    have KC := hide kc
    clear hb kc hx' hz
    go_enter Tryz.func50, Tryz.ntmps50
    go_wp2_with (refine (KC.out).mono ?_; rintro e z ⟨v, rfl, hp, hbz⟩; have HP := hide hp; have HBZ := hide hbz; clear hbz hp)
    go_ret
    exact ⟨_, rfl, (HP.out).congr (fun c => rfl), bseq HB.out (by rw [HZ.out]; exact HBZ.out)⟩
  | true =>
    have hb2 : Below w.heap.size w ((w.alloc (.cells #[.int .i32 d0, .bool true] 71)).alloc (.cells #[.int .i32 (foldK d0)] 21)) := hb.alloc (by simp) _
    have k2 : ((w.alloc (.cells #[.int .i32 d0, .bool true] 71)).alloc (.cells #[.int .i32 (foldK d0)] 21)).heap[w.heap.size + 1]? = some (.cells #[.int .i32 (foldK d0)] 21 (0, 0)) := heap_alloc2_new w _ _
    have hp : PartV (fun k => k = w.heap.size + 1) ((w.alloc (.cells #[.int .i32 d0, .bool true] 71)).alloc (.cells #[.int .i32 (foldK d0)] 21)) (.func (.func 72) #[] #[.pointer (some ⟨w.heap.size + 1, 0, none⟩)]) (alkD (d0, true)) :=
      ⟨fun k hk => by rw [hk]; simp, 72, _, rfl, enters_of Tryz.func72 (by kernel_rfl) rfl, fun W' hB c => alike1_any (w.heap.size + 1) (foldK d0) c W' ((hB.2 _ rfl).trans k2)⟩
    have HP := hide hp
    have HB := hide hb2
    unfold chV
    simp only
    clear hb hb2 hx' k2 hp
    go_enter Tryz.func50, Tryz.ntmps50
    go_wp2_with (go_at_call 71; refine (fold_any _ _).mono ?_; rintro e z ⟨rfl, rfl⟩)
    go_ret
    exact ⟨_, rfl, HP.out, HB.out⟩
end Go.Proofs.YtodooppapciegaaGreatDoor
