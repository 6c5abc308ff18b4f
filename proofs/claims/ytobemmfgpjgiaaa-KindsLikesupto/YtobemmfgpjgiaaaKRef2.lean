/- What the document's rune functions answer. -/
import Derived.Test.YtobemmfgpjgiaaaKRef
namespace Go.Proofs.Ytobemmfgpjgiaaa
open Go.RowKit
set_option linter.unusedVariables false

theorem cellsZ_at {w : World} {b : Nat} {zs : List Int} {t : TypeId} (h : w.heap[b]? = some (.cells (zs.map fun x => Value.int .i32 x).toArray t (0, 0))) : CellsZ w b zs := fun i x hx => by
  have h2 : ((zs.map fun x => Value.int .i32 x).toArray)[i]? = some (.int .i32 x) := by simp [hx]
  simp [World.cell?, h, h2]
theorem cellsZ_new (w : World) (zs : List Int) (t : TypeId) : CellsZ (w.alloc (.cells (zs.map fun x => Value.int .i32 x).toArray t)) w.heap.size zs := cellsZ_at (World.alloc_heap_new w _)
theorem cellsZ_new2 (w : World) (o : Obj) (zs : List Int) (t : TypeId) : CellsZ ((w.alloc o).alloc (.cells (zs.map fun x => Value.int .i32 x).toArray t)) (w.heap.size + 1) zs := by
  have h := cellsZ_new (w.alloc o) zs t
  rwa [World.size_alloc] at h

def blankZ : List Int := [9, 13, 32, 32, 133, 133, 160, 160, 5760, 5760, 8192, 8202, 8232, 8233, 8239, 8239, 8287, 8287, 12288, 12288]
theorem rblank_call (r : Int) (w : World) : Calls Try.prog 30 #[.int .i32 r, .slice (some ⟨w.heap.size, 0, none⟩) 20 20] (w.alloc (.cells #[.int .i32 9, .int .i32 13, .int .i32 32, .int .i32 32, .int .i32 133, .int .i32 133, .int .i32 160, .int .i32 160, .int .i32 5760, .int .i32 5760, .int .i32 8192, .int .i32 8202, .int .i32 8232, .int .i32 8233, .int .i32 8239, .int .i32 8239, .int .i32 8287, .int .i32 8287, .int .i32 12288, .int .i32 12288] 21)) fun e w' => e = .returned (.bool (inZ r blankZ)) ∧ w' = w.alloc (.cells #[.int .i32 9, .int .i32 13, .int .i32 32, .int .i32 32, .int .i32 133, .int .i32 133, .int .i32 160, .int .i32 160, .int .i32 5760, .int .i32 5760, .int .i32 8192, .int .i32 8202, .int .i32 8232, .int .i32 8233, .int .i32 8239, .int .i32 8239, .int .i32 8287, .int .i32 8287, .int .i32 12288, .int .i32 12288] 21) :=
  rwithin_any r w.heap.size blankZ _ (cellsZ_new w blankZ 21) (by decide)
def wordZ : List Int := [48, 57, 65, 90, 95, 95, 97, 122, 170, 170, 181, 181, 186, 186, 192, 214, 216, 246, 248, 893, 895, 902, 904, 1327, 1329, 1366, 1377, 1415, 1488, 1514, 1568, 1641, 2308, 2361, 3585, 3632, 4256, 4351, 7680, 8191, 12353, 12438, 12449, 12538, 13312, 19903, 19968, 40959, 44032, 55203, 63744, 64255, 65296, 65305, 65313, 65338, 65345, 65370, 65382, 65437, 66560, 66639, 119808, 120831, 131072, 195103]
theorem rword_call (r : Int) (w : World) : Calls Try.prog 30 #[.int .i32 r, .slice (some ⟨w.heap.size, 0, none⟩) 66 66] (w.alloc (.cells #[.int .i32 48, .int .i32 57, .int .i32 65, .int .i32 90, .int .i32 95, .int .i32 95, .int .i32 97, .int .i32 122, .int .i32 170, .int .i32 170, .int .i32 181, .int .i32 181, .int .i32 186, .int .i32 186, .int .i32 192, .int .i32 214, .int .i32 216, .int .i32 246, .int .i32 248, .int .i32 893, .int .i32 895, .int .i32 902, .int .i32 904, .int .i32 1327, .int .i32 1329, .int .i32 1366, .int .i32 1377, .int .i32 1415, .int .i32 1488, .int .i32 1514, .int .i32 1568, .int .i32 1641, .int .i32 2308, .int .i32 2361, .int .i32 3585, .int .i32 3632, .int .i32 4256, .int .i32 4351, .int .i32 7680, .int .i32 8191, .int .i32 12353, .int .i32 12438, .int .i32 12449, .int .i32 12538, .int .i32 13312, .int .i32 19903, .int .i32 19968, .int .i32 40959, .int .i32 44032, .int .i32 55203, .int .i32 63744, .int .i32 64255, .int .i32 65296, .int .i32 65305, .int .i32 65313, .int .i32 65338, .int .i32 65345, .int .i32 65370, .int .i32 65382, .int .i32 65437, .int .i32 66560, .int .i32 66639, .int .i32 119808, .int .i32 120831, .int .i32 131072, .int .i32 195103] 21)) fun e w' => e = .returned (.bool (inZ r wordZ)) ∧ w' = w.alloc (.cells #[.int .i32 48, .int .i32 57, .int .i32 65, .int .i32 90, .int .i32 95, .int .i32 95, .int .i32 97, .int .i32 122, .int .i32 170, .int .i32 170, .int .i32 181, .int .i32 181, .int .i32 186, .int .i32 186, .int .i32 192, .int .i32 214, .int .i32 216, .int .i32 246, .int .i32 248, .int .i32 893, .int .i32 895, .int .i32 902, .int .i32 904, .int .i32 1327, .int .i32 1329, .int .i32 1366, .int .i32 1377, .int .i32 1415, .int .i32 1488, .int .i32 1514, .int .i32 1568, .int .i32 1641, .int .i32 2308, .int .i32 2361, .int .i32 3585, .int .i32 3632, .int .i32 4256, .int .i32 4351, .int .i32 7680, .int .i32 8191, .int .i32 12353, .int .i32 12438, .int .i32 12449, .int .i32 12538, .int .i32 13312, .int .i32 19903, .int .i32 19968, .int .i32 40959, .int .i32 44032, .int .i32 55203, .int .i32 63744, .int .i32 64255, .int .i32 65296, .int .i32 65305, .int .i32 65313, .int .i32 65338, .int .i32 65345, .int .i32 65370, .int .i32 65382, .int .i32 65437, .int .i32 66560, .int .i32 66639, .int .i32 119808, .int .i32 120831, .int .i32 131072, .int .i32 195103] 21) :=
  rwithin_any r w.heap.size wordZ _ (cellsZ_new w wordZ 21) (by decide)
def zeroZ : List Int := [0, 31, 127, 159, 768, 879, 1155, 1161, 1425, 1469, 1552, 1562, 1611, 1631, 8203, 8207, 8232, 8238, 8288, 8292, 8400, 8447, 65024, 65039, 65056, 65071, 65279, 65279, 917760, 917999]
theorem rzero_call (r : Int) (w : World) : Calls Try.prog 30 #[.int .i32 r, .slice (some ⟨w.heap.size, 0, none⟩) 30 30] (w.alloc (.cells #[.int .i32 0, .int .i32 31, .int .i32 127, .int .i32 159, .int .i32 768, .int .i32 879, .int .i32 1155, .int .i32 1161, .int .i32 1425, .int .i32 1469, .int .i32 1552, .int .i32 1562, .int .i32 1611, .int .i32 1631, .int .i32 8203, .int .i32 8207, .int .i32 8232, .int .i32 8238, .int .i32 8288, .int .i32 8292, .int .i32 8400, .int .i32 8447, .int .i32 65024, .int .i32 65039, .int .i32 65056, .int .i32 65071, .int .i32 65279, .int .i32 65279, .int .i32 917760, .int .i32 917999] 21)) fun e w' => e = .returned (.bool (inZ r zeroZ)) ∧ w' = w.alloc (.cells #[.int .i32 0, .int .i32 31, .int .i32 127, .int .i32 159, .int .i32 768, .int .i32 879, .int .i32 1155, .int .i32 1161, .int .i32 1425, .int .i32 1469, .int .i32 1552, .int .i32 1562, .int .i32 1611, .int .i32 1631, .int .i32 8203, .int .i32 8207, .int .i32 8232, .int .i32 8238, .int .i32 8288, .int .i32 8292, .int .i32 8400, .int .i32 8447, .int .i32 65024, .int .i32 65039, .int .i32 65056, .int .i32 65071, .int .i32 65279, .int .i32 65279, .int .i32 917760, .int .i32 917999] 21) :=
  rwithin_any r w.heap.size zeroZ _ (cellsZ_new w zeroZ 21) (by decide)
def twoZ : List Int := [4352, 4447, 11904, 12350, 12353, 19903, 19968, 42191, 44032, 55203, 63744, 64255, 65072, 65135, 65280, 65376, 65504, 65510, 127744, 128591, 128640, 128767, 129280, 129535, 131072, 262141]
theorem rtwo_call (r : Int) (w : World) : Calls Try.prog 30 #[.int .i32 r, .slice (some ⟨w.heap.size, 0, none⟩) 26 26] (w.alloc (.cells #[.int .i32 4352, .int .i32 4447, .int .i32 11904, .int .i32 12350, .int .i32 12353, .int .i32 19903, .int .i32 19968, .int .i32 42191, .int .i32 44032, .int .i32 55203, .int .i32 63744, .int .i32 64255, .int .i32 65072, .int .i32 65135, .int .i32 65280, .int .i32 65376, .int .i32 65504, .int .i32 65510, .int .i32 127744, .int .i32 128591, .int .i32 128640, .int .i32 128767, .int .i32 129280, .int .i32 129535, .int .i32 131072, .int .i32 262141] 21)) fun e w' => e = .returned (.bool (inZ r twoZ)) ∧ w' = w.alloc (.cells #[.int .i32 4352, .int .i32 4447, .int .i32 11904, .int .i32 12350, .int .i32 12353, .int .i32 19903, .int .i32 19968, .int .i32 42191, .int .i32 44032, .int .i32 55203, .int .i32 63744, .int .i32 64255, .int .i32 65072, .int .i32 65135, .int .i32 65280, .int .i32 65376, .int .i32 65504, .int .i32 65510, .int .i32 127744, .int .i32 128591, .int .i32 128640, .int .i32 128767, .int .i32 129280, .int .i32 129535, .int .i32 131072, .int .i32 262141] 21) :=
  rwithin_any r w.heap.size twoZ _ (cellsZ_new w twoZ 21) (by decide)
set_option maxHeartbeats 1000000 in
theorem rblank_any (r : Int) (w : World) : Calls Try.prog 10 #[.int .i32 r] w fun e w' => e = .returned (.bool (inZ r blankZ)) ∧ Below w.heap.size w w' := by
  go_enter Try.func10, Try.ntmps10
  go_wp2_with (go_at_call 30; refine (rblank_call _ _).mono ?_; rintro e w1 ⟨rfl, rfl⟩)
  go_ret
  exact ⟨rfl, (Below.refl _ w).alloc (Nat.le_refl _) _⟩
set_option maxHeartbeats 1000000 in
theorem rword_any (r : Int) (w : World) : Calls Try.prog 12 #[.int .i32 r] w fun e w' => e = .returned (.bool (inZ r wordZ)) ∧ Below w.heap.size w w' := by
  go_enter Try.func12, Try.ntmps12
  go_wp2_with (go_at_call 30; refine (rword_call _ _).mono ?_; rintro e w1 ⟨rfl, rfl⟩)
  go_ret
  exact ⟨rfl, (Below.refl _ w).alloc (Nat.le_refl _) _⟩
theorem rends_any (r : Int) (w : World) : Calls Try.prog 14 #[.int .i32 r] w fun e w' => e = .returned (.bool (endK r)) ∧ w' = w := by
  go_enter Try.func14, Try.ntmps14
  go_wp2
  all_goals go_ret
  all_goals refine ⟨ret_b ?_, rfl⟩
  all_goals first | (simp [endK, endL, inO_cons, inO_nil, Bool.or_assoc]; done) | (simp_all [endK, endL, inO_cons, inO_nil]; done)

theorem rtwo_call2 (r : Int) (o : Obj) (w : World) : Calls Try.prog 30 #[.int .i32 r, .slice (some ⟨w.heap.size + 1, 0, none⟩) 26 26] ((w.alloc o).alloc (.cells #[.int .i32 4352, .int .i32 4447, .int .i32 11904, .int .i32 12350, .int .i32 12353, .int .i32 19903, .int .i32 19968, .int .i32 42191, .int .i32 44032, .int .i32 55203, .int .i32 63744, .int .i32 64255, .int .i32 65072, .int .i32 65135, .int .i32 65280, .int .i32 65376, .int .i32 65504, .int .i32 65510, .int .i32 127744, .int .i32 128591, .int .i32 128640, .int .i32 128767, .int .i32 129280, .int .i32 129535, .int .i32 131072, .int .i32 262141] 21)) fun e w' => e = .returned (.bool (inZ r twoZ)) ∧ w' = (w.alloc o).alloc (.cells #[.int .i32 4352, .int .i32 4447, .int .i32 11904, .int .i32 12350, .int .i32 12353, .int .i32 19903, .int .i32 19968, .int .i32 42191, .int .i32 44032, .int .i32 55203, .int .i32 63744, .int .i32 64255, .int .i32 65072, .int .i32 65135, .int .i32 65280, .int .i32 65376, .int .i32 65504, .int .i32 65510, .int .i32 127744, .int .i32 128591, .int .i32 128640, .int .i32 128767, .int .i32 129280, .int .i32 129535, .int .i32 131072, .int .i32 262141] 21) :=
  rwithin_any r (w.heap.size + 1) twoZ _ (cellsZ_new2 w o twoZ 21) (by decide)
set_option maxHeartbeats 1000000 in
theorem rwidth_any (r : Int) (w : World) : Calls Try.prog 16 #[.int .i32 r] w fun e w' => e = .returned (.int .i64 (if inZ r zeroZ then 0 else if inZ r twoZ then 2 else 1)) ∧ Below w.heap.size w w' := by
  have M1 := hide trivial
  cases hz : inZ r zeroZ with
  | true =>
    go_enter Try.func16, Try.ntmps16
    go_wp2_with (go_at_call 30; refine (rzero_call _ _).mono ?_; rintro e w1 ⟨rfl, rfl⟩)
    go_ret
    exact ⟨rfl, (Below.refl _ w).alloc (Nat.le_refl _) _⟩
  | false =>
    cases ht : inZ r twoZ with
    | true =>
      go_enter Try.func16, Try.ntmps16
      go_wp2_with (first | (clear M1; go_at_call 30; refine (rzero_call _ _).mono ?_; rintro e w1 ⟨rfl, rfl⟩) | (go_at_call 30; refine (rtwo_call2 _ _ _).mono ?_; rintro e w1 ⟨rfl, rfl⟩))
      go_ret
      exact ⟨rfl, ((Below.refl _ w).alloc (Nat.le_refl _) _).alloc (by simp) _⟩
    | false =>
      go_enter Try.func16, Try.ntmps16
      go_wp2_with (first | (clear M1; go_at_call 30; refine (rzero_call _ _).mono ?_; rintro e w1 ⟨rfl, rfl⟩) | (go_at_call 30; refine (rtwo_call2 _ _ _).mono ?_; rintro e w1 ⟨rfl, rfl⟩))
      go_ret
      exact ⟨rfl, ((Below.refl _ w).alloc (Nat.le_refl _) _).alloc (by simp) _⟩

end Go.Proofs.Ytobemmfgpjgiaaa
