/- Package seek: kinds of characters: one, a range, one of several. -/
import Derived.Test.YtodooppapciegaaGreatDoorXPart
import Derived.Shelf.Abstract
namespace Go.Proofs.YtodooppapciegaaGreatDoor
open Go.RowKit Go.Shelf
set_option linter.unusedVariables false

theorem cel2 {w : World} {B : Nat} {cs : Array Value} {t : TypeId} (h : w.heap[B]? = some (.cells cs t (0, 0))) (i : Nat) (v : Value) (hv : cs[i]? = some v) : w.cell? ⟨B, i, none⟩ = some v := by
  simp only [World.cell?, h]
  exact hv
set_option maxHeartbeats 1000000 in
theorem same1_any (B : Nat) (d c : Ch) (w : World) (h : w.heap[B]? = some (.cells #[.int .i32 d.1, .bool d.2] 71 (0, 0))) :
    Calls Tryz.prog 73 #[chV c, .pointer (some ⟨B, 0, none⟩)] w fun e w' => e = .returned (.bool (decide (c = d))) ∧ Below w.heap.size w w' := by
  obtain ⟨c0, c1⟩ := c
  obtain ⟨d0, d1⟩ := d
  have hb : Below w.heap.size w (w.alloc (.cells #[.int .i32 c0, .bool c1] 71)) := (Below.refl _ w).alloc (Nat.le_refl _) _
  have h' := (hb.block B (Array.getElem?_eq_some_iff.1 h).1).trans h
  have e0 := cel2 h' 0 _ rfl
  have e1 := cel2 h' 1 _ rfl
  have g0 := Tryz.noGuardCh
  have g1 := fun W => eql_ch c0 d0 c1 d1 W
  have HB := hide hb
  unfold chV
  simp only
  clear h h' hb
  go_enter Tryz.func73, Tryz.ntmps73
  go_wp2_with (fail)
  try (go_quiet (fail); go_wp2_with (fail))
  go_ret
  first | exact ⟨rfl, HB.out⟩ | exact ⟨rfl, below_drewN HB.out _⟩
set_option maxHeartbeats 1000000 in
theorem same_any (d : Ch) (w : World) :
    Calls Tryz.prog 51 #[chV d] w fun e w' => ∃ v, e = .returned v ∧ PartV (fun k => k = w.heap.size) w' v (fun c => decide (c = d)) ∧ Below w.heap.size w w' := by
  have hb : Below w.heap.size w (w.alloc (.cells #[.int .i32 d.1, .bool d.2] 71)) := (Below.refl _ w).alloc (Nat.le_refl _) _
  have hp : PartV (fun k => k = w.heap.size) (w.alloc (.cells #[.int .i32 d.1, .bool d.2] 71)) (.func (.func 73) #[] #[.pointer (some ⟨w.heap.size, 0, none⟩)]) (fun c => decide (c = d)) :=
    ⟨fun k hk => by rw [hk]; simp, 73, #[.pointer (some ⟨w.heap.size, 0, none⟩)], rfl, enters_of Tryz.func73 (by kernel_rfl) rfl, fun W' hB c => same1_any w.heap.size d c W' ((hB.2 _ rfl).trans (heap_alloc_new w _))⟩
  have HP := hide hp
  have HB := hide hb
  unfold chV
  clear hp hb
  go_enter Tryz.func51, Tryz.ntmps51
  go_wp2_with (fail)
  go_ret
  exact ⟨_, rfl, HP.out, HB.out⟩
/-- A range of right runes. -/
def btwP (lo hi : Int) (c : Ch) : Bool := c.2 && decide (lo ≤ c.1) && decide (c.1 ≤ hi)
set_option maxHeartbeats 1000000 in
theorem between1_any (B B' : Nat) (lo hi : Int) (c : Ch) (w : World) (h : w.heap[B]? = some (.cells #[.int .i32 lo] 21 (0, 0))) (h' : w.heap[B']? = some (.cells #[.int .i32 hi] 21 (0, 0))) :
    Calls Tryz.prog 76 #[chV c, .pointer (some ⟨B, 0, none⟩), .pointer (some ⟨B', 0, none⟩)] w fun e w' => e = .returned (.bool (btwP lo hi c)) ∧ Below w.heap.size w w' := by
  obtain ⟨c0, c1⟩ := c
  have hb : Below w.heap.size w (w.alloc (.cells #[.int .i32 c0, .bool c1] 71)) := (Below.refl _ w).alloc (Nat.le_refl _) _
  have e0 := cel2 ((hb.block B (Array.getElem?_eq_some_iff.1 h).1).trans h) 0 _ rfl
  have e1 := cel2 ((hb.block B' (Array.getElem?_eq_some_iff.1 h').1).trans h') 0 _ rfl
  have HB := hide hb
  unfold chV btwP
  simp only
  clear h h' hb
  cases c1 with
  | false =>
    go_enter Tryz.func76, Tryz.ntmps76
    go_wp2_with (fail)
    try (go_quiet (fail); go_wp2_with (fail))
    go_ret
    first | exact ⟨rfl, HB.out⟩ | exact ⟨rfl, below_drewN HB.out _⟩
  | true =>
    by_cases h1 : lo ≤ c0
    · have d1 : decide (lo ≤ c0) = true := decide_eq_true h1
      rw [d1]
      go_enter Tryz.func76, Tryz.ntmps76
      go_wp2_with (fail)
      try (go_quiet (fail); go_wp2_with (fail))
      go_ret
      first | exact ⟨rfl, HB.out⟩ | exact ⟨rfl, below_drewN HB.out _⟩ | exact ⟨by simp, HB.out⟩ | exact ⟨by simp, below_drewN HB.out _⟩
    · have d1 : decide (lo ≤ c0) = false := decide_eq_false h1
      rw [d1]
      go_enter Tryz.func76, Tryz.ntmps76
      go_wp2_with (fail)
      try (go_quiet (fail); go_wp2_with (fail))
      go_ret
      first | exact ⟨rfl, HB.out⟩ | exact ⟨rfl, below_drewN HB.out _⟩ | exact ⟨by simp, HB.out⟩ | exact ⟨by simp, below_drewN HB.out _⟩
set_option maxHeartbeats 1000000 in
theorem between_any (lo hi : Int) (w : World) :
    Calls Tryz.prog 54 #[.int .i32 lo, .int .i32 hi] w fun e w' => ∃ v, e = .returned v ∧ PartV (fun k => k = w.heap.size ∨ k = w.heap.size + 1) w' v (btwP lo hi) ∧ Below w.heap.size w w' := by
  have hb1 : Below w.heap.size w (w.alloc (.cells #[.int .i32 lo] 21)) := (Below.refl _ w).alloc (Nat.le_refl _) _
  have hb2 : Below w.heap.size w ((w.alloc (.cells #[.int .i32 lo] 21)).alloc (.cells #[.int .i32 hi] 21)) := hb1.alloc (by simp) _
  have k1 : ((w.alloc (.cells #[.int .i32 lo] 21)).alloc (.cells #[.int .i32 hi] 21)).heap[w.heap.size]? = some (.cells #[.int .i32 lo] 21 (0, 0)) := by
    rw [Below.heap_alloc _ _ _ (by simp)]
    exact heap_alloc_new w _
  have k2 : ((w.alloc (.cells #[.int .i32 lo] 21)).alloc (.cells #[.int .i32 hi] 21)).heap[w.heap.size + 1]? = some (.cells #[.int .i32 hi] 21 (0, 0)) := heap_alloc2_new w _ _
  have hp : PartV (fun k => k = w.heap.size ∨ k = w.heap.size + 1) ((w.alloc (.cells #[.int .i32 lo] 21)).alloc (.cells #[.int .i32 hi] 21)) (.func (.func 76) #[] #[.pointer (some ⟨w.heap.size, 0, none⟩), .pointer (some ⟨w.heap.size + 1, 0, none⟩)]) (btwP lo hi) :=
    ⟨fun k hk => by rcases hk with hk | hk <;> (rw [hk]; simp; try omega), 76, _, rfl, enters_of Tryz.func76 (by kernel_rfl) rfl, fun W' hB c => between1_any w.heap.size (w.heap.size + 1) lo hi c W' ((hB.2 _ (.inl rfl)).trans k1) ((hB.2 _ (.inr rfl)).trans k2)⟩
  have HP := hide hp
  have HB := hide hb2
  clear hp hb1 hb2 k1 k2
  go_enter Tryz.func54, Tryz.ntmps54
  go_wp2_with (fail)
  try (go_quiet (fail); go_wp2_with (fail))
  go_ret
  exact ⟨_, rfl, HP.out, HB.out⟩
end Go.Proofs.YtodooppapciegaaGreatDoor
