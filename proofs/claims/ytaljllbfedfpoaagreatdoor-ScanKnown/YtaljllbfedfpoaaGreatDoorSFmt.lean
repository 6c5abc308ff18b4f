/- The library's strconv.FormatInt to the base 16, at three numbers. -/
import Derived.Test.YtaljllbfedfpoaaGreatDoorSRd
import Derived.Handy
import Derived.WalkKit
import Derived.Laws.Bits64b
import Derived.Laws.IdiomStrings
namespace Go.Proofs.YtaljllbfedfpoaaGreatDoor
open Go.RowKit
set_option linter.unusedVariables false
set_option linter.unusedSimpArgs false

/-- What the library's table says of 16. -/
def LaidZ (w : World) : Prop := w.cell? ⟨6, 15, none⟩ = some (.int .u8 4)
theorem LaidZ.below {w w' : World} (h : LaidZ w) (hb : Below w.heap.size w w') : LaidZ w' := (hb.cell (World.block_lt_of_cell? _ _ h)).trans h
set_option maxRecDepth 100000 in
set_option maxHeartbeats 4000000 in
theorem pow2_16 (w : World) : Calls Tryz.prog 99 #[.int .i64 16] w fun e w' => e = .returned (.bool true) ∧ w' = w := by
  go_enter Tryz.func99, Tryz.ntmps99
  go_wp2
  go_ret
  exact ⟨rfl, rfl⟩
set_option maxRecDepth 100000 in
set_option maxHeartbeats 4000000 in
theorem tz64_16 (w : World) (h : LaidZ w) : Calls Tryz.prog 111 #[.int .u64 16] w fun e w' => e = .returned (.int .i64 4) ∧ w' = w := by
  have c : w.cell? ⟨6, 15, none⟩ = some (.int .u8 4) := h
  have key : IntKind.u64.wrap (bits BinOp.and IntKind.u64 16 (IntKind.u64.wrap (-16)) * 285870213051353865) / 288230376151711744 = 15 := by decide
  go_enter Tryz.func111, Tryz.ntmps111
  go_wp2_with (simp only [key])
  go_ret
  exact ⟨rfl, rfl⟩
set_option maxRecDepth 100000 in
set_option maxHeartbeats 4000000 in
theorem tz_16 (w : World) (h : LaidZ w) : Calls Tryz.prog 100 #[.int .u64 16] w fun e w' => e = .returned (.int .i64 4) ∧ w' = w := by
  go_enter Tryz.func100, Tryz.ntmps100
  go_wp2_with (go_at_call 111; refine (tz64_16 _ h).mono ?_; rintro e w' ⟨rfl, rfl⟩)
  go_ret
  exact ⟨rfl, rfl⟩
theorem a65 (W : World) (b : Nat) (A : Array Value) (t : TypeId) (h : W.heap[b]? = some (.cells A t (0, 0))) (o : Nat) (ho : o < A.size) : (∃ v, W.cell? ⟨b, o, none⟩ = some v) ∧ W.frozen? ⟨b, o, none⟩ = false := by
  refine ⟨⟨A[o], ?_⟩, ?_⟩
  · simp only [World.cell?, h]
    exact Array.getElem?_eq_getElem ho
  · simp [World.frozen?, h]
theorem size65 : Tryz.zeroCells156.size = 65 := by kernel_rfl
theorem convA (w : World) (A : Array Value) (o : Nat) (bs : List UInt8) (hA : ∀ j (h : j < bs.length), A[o + j]? = some (.int .u8 (bs[j].toNat : Int))) :
    (convert 25 9 (.slice (some ⟨w.heap.size, o, none⟩) bs.length bs.length)).run Tryz.prog (w.alloc (.cells A 156)) = .ok (.string ⟨bs.toArray⟩) (w.alloc (.cells A 156)) := by
  refine run_convert_bytes_back (P := Tryz.prog) _ 25 9 5 ⟨w.heap.size, o, none⟩ bs.length bs Tryz.underlying25 Tryz.underlying5 Tryz.underlying9 (fun j hj => ?_)
  have hh : (w.alloc (.cells A 156)).heap[w.heap.size]? = some (.cells A 156 (0, 0)) := heap_alloc_new w _
  rw [show (⟨w.heap.size, o, none⟩ : Addr).add j = ⟨w.heap.size, o + j, none⟩ from by cases j <;> simp [Addr.add]]
  simp only [World.cell?, hh]
  exact hA j hj
theorem conv2 (w : World) (X Y : Value) (a b : UInt8) (hX : X = .int .u8 (a.toNat : Int)) (hY : Y = .int .u8 (b.toNat : Int)) :
    (convert 25 9 (.slice (some ⟨w.heap.size, 63, none⟩) 2 2)).run Tryz.prog (w.alloc (.cells ((Tryz.zeroCells156.setIfInBounds 64 X).setIfInBounds 63 Y) 156)) = .ok (.string ⟨#[b, a]⟩) (w.alloc (.cells ((Tryz.zeroCells156.setIfInBounds 64 X).setIfInBounds 63 Y) 156)) := by
  refine convA w _ 63 [b, a] (fun j hj => ?_)
  subst hX hY
  have h0 : j = 0 ∨ j = 1 := by simp at hj; omega
  rcases h0 with rfl | rfl
  · simp [Array.getElem?_setIfInBounds, size65]
  · simp [Array.getElem?_setIfInBounds, size65]
theorem conv4 (w : World) (X Y Z V : Value) (a b c d : UInt8) (hX : X = .int .u8 (a.toNat : Int)) (hY : Y = .int .u8 (b.toNat : Int)) (hZ : Z = .int .u8 (c.toNat : Int)) (hV : V = .int .u8 (d.toNat : Int)) :
    (convert 25 9 (.slice (some ⟨w.heap.size, 61, none⟩) 4 4)).run Tryz.prog (w.alloc (.cells ((((Tryz.zeroCells156.setIfInBounds 64 X).setIfInBounds 63 Y).setIfInBounds 62 Z).setIfInBounds 61 V) 156)) = .ok (.string ⟨#[d, c, b, a]⟩) (w.alloc (.cells ((((Tryz.zeroCells156.setIfInBounds 64 X).setIfInBounds 63 Y).setIfInBounds 62 Z).setIfInBounds 61 V) 156)) := by
  refine convA w _ 61 [d, c, b, a] (fun j hj => ?_)
  subst hX hY hZ hV
  have h0 : j = 0 ∨ j = 1 ∨ j = 2 ∨ j = 3 := by simp at hj; omega
  rcases h0 with rfl | rfl | rfl | rfl
  all_goals simp [Array.getElem?_setIfInBounds, size65]
set_option maxRecDepth 100000 in
set_option maxHeartbeats 4000000 in
theorem fb_133 (w : World) (h : LaidZ w) : Calls Tryz.prog 88 #[.slice none 0 0, .int .u64 133, .int .i64 16, .bool false, .bool false] w fun e w' => e = .returned (.tuple #[.slice none 0 0, .string ⟨#[56, 53]⟩]) ∧ Below w.heap.size w w' := by
  have HP := hide pow2_16
  have HT := hide tz_16
  have HH := hide h
  have hb0 := heap_alloc_new w (.cells Tryz.zeroCells156 156)
  obtain ⟨⟨v64, c64⟩, f64⟩ := a65 _ _ _ _ hb0 64 (by rw [size65]; decide)
  obtain ⟨⟨v63, c63⟩, f63⟩ := a65 _ _ _ _ hb0 63 (by rw [size65]; decide)
  clear h hb0
  go_enter Tryz.func88, Tryz.ntmps88
  go_wp2_with (first | (go_at_call 99; refine (HP.out _).mono ?_; rintro e x ⟨rfl, hx⟩; subst hx) | (go_at_call 100; refine (HT.out _ (HH.out.below ((Below.refl _ _).alloc (Nat.le_refl _) _))).mono ?_; rintro e x ⟨rfl, hx⟩; subst hx))
  refine wp_loop_rounds 3 ?_
  rw [rounds_succ]
  go_wp2
  rw [rounds_succ]
  go_wp2
  rw [conv2 w _ _ 53 56 ?hX ?hY]
  case hX => rfl
  case hY => rfl
  go_wp2
  go_ret2
  exact ⟨rfl, (Below.refl _ _).alloc (Nat.le_refl _) _⟩
set_option maxRecDepth 100000 in
set_option maxHeartbeats 4000000 in
theorem fb_8232 (w : World) (h : LaidZ w) : Calls Tryz.prog 88 #[.slice none 0 0, .int .u64 8232, .int .i64 16, .bool false, .bool false] w fun e w' => e = .returned (.tuple #[.slice none 0 0, .string ⟨#[50, 48, 50, 56]⟩]) ∧ Below w.heap.size w w' := by
  have HP := hide pow2_16
  have HT := hide tz_16
  have HH := hide h
  have hb0 := heap_alloc_new w (.cells Tryz.zeroCells156 156)
  obtain ⟨⟨v64, c64⟩, f64⟩ := a65 _ _ _ _ hb0 64 (by rw [size65]; decide)
  obtain ⟨⟨v63, c63⟩, f63⟩ := a65 _ _ _ _ hb0 63 (by rw [size65]; decide)
  obtain ⟨⟨v62, c62⟩, f62⟩ := a65 _ _ _ _ hb0 62 (by rw [size65]; decide)
  obtain ⟨⟨v61, c61⟩, f61⟩ := a65 _ _ _ _ hb0 61 (by rw [size65]; decide)
  clear h hb0
  go_enter Tryz.func88, Tryz.ntmps88
  go_wp2_with (first | (go_at_call 99; refine (HP.out _).mono ?_; rintro e x ⟨rfl, hx⟩; subst hx) | (go_at_call 100; refine (HT.out _ (HH.out.below ((Below.refl _ _).alloc (Nat.le_refl _) _))).mono ?_; rintro e x ⟨rfl, hx⟩; subst hx))
  refine wp_loop_rounds 5 ?_
  rw [rounds_succ]
  go_wp2
  rw [rounds_succ]
  go_wp2
  rw [rounds_succ]
  go_wp2
  rw [rounds_succ]
  go_wp2
  rw [conv4 w _ _ _ _ 56 50 48 50 ?hX ?hY ?hZ ?hV]
  case hX => rfl
  case hY => rfl
  case hZ => rfl
  case hV => rfl
  go_wp2
  go_ret2
  exact ⟨rfl, (Below.refl _ _).alloc (Nat.le_refl _) _⟩
set_option maxRecDepth 100000 in
set_option maxHeartbeats 4000000 in
theorem fb_8233 (w : World) (h : LaidZ w) : Calls Tryz.prog 88 #[.slice none 0 0, .int .u64 8233, .int .i64 16, .bool false, .bool false] w fun e w' => e = .returned (.tuple #[.slice none 0 0, .string ⟨#[50, 48, 50, 57]⟩]) ∧ Below w.heap.size w w' := by
  have HP := hide pow2_16
  have HT := hide tz_16
  have HH := hide h
  have hb0 := heap_alloc_new w (.cells Tryz.zeroCells156 156)
  obtain ⟨⟨v64, c64⟩, f64⟩ := a65 _ _ _ _ hb0 64 (by rw [size65]; decide)
  obtain ⟨⟨v63, c63⟩, f63⟩ := a65 _ _ _ _ hb0 63 (by rw [size65]; decide)
  obtain ⟨⟨v62, c62⟩, f62⟩ := a65 _ _ _ _ hb0 62 (by rw [size65]; decide)
  obtain ⟨⟨v61, c61⟩, f61⟩ := a65 _ _ _ _ hb0 61 (by rw [size65]; decide)
  clear h hb0
  go_enter Tryz.func88, Tryz.ntmps88
  go_wp2_with (first | (go_at_call 99; refine (HP.out _).mono ?_; rintro e x ⟨rfl, hx⟩; subst hx) | (go_at_call 100; refine (HT.out _ (HH.out.below ((Below.refl _ _).alloc (Nat.le_refl _) _))).mono ?_; rintro e x ⟨rfl, hx⟩; subst hx))
  refine wp_loop_rounds 5 ?_
  rw [rounds_succ]
  go_wp2
  rw [rounds_succ]
  go_wp2
  rw [rounds_succ]
  go_wp2
  rw [rounds_succ]
  go_wp2
  rw [conv4 w _ _ _ _ 57 50 48 50 ?hX ?hY ?hZ ?hV]
  case hX => rfl
  case hY => rfl
  case hZ => rfl
  case hV => rfl
  go_wp2
  go_ret2
  exact ⟨rfl, (Below.refl _ _).alloc (Nat.le_refl _) _⟩
set_option maxRecDepth 100000 in
set_option maxHeartbeats 4000000 in
theorem fi_133 (w : World) (h : LaidZ w) : Calls Tryz.prog 66 #[.int .i64 133, .int .i64 16] w fun e w' => e = .returned (.string ⟨#[56, 53]⟩) ∧ Below w.heap.size w w' := by
  go_enter Tryz.func66, Tryz.ntmps66
  go_wp2_with (go_at_call 88; refine (fb_133 _ h).mono ?_; rintro e x ⟨rfl, hx⟩)
  go_ret
  exact ⟨rfl, hx⟩
set_option maxRecDepth 100000 in
set_option maxHeartbeats 4000000 in
theorem fmt_133 (w : World) (h : LaidZ w) : Calls Tryz.prog 48 #[.int .i64 133, .int .i64 16] w fun e w' => e = .returned (.string ⟨#[56, 53]⟩) ∧ Below w.heap.size w w' := by
  go_enter Tryz.func48, Tryz.ntmps48
  go_wp2_with (go_at_call 66; refine (fi_133 _ h).mono ?_; rintro e x ⟨rfl, hx⟩)
  go_ret
  exact ⟨rfl, hx⟩
set_option maxRecDepth 100000 in
set_option maxHeartbeats 4000000 in
theorem escape_133 (f : Int) (w : World) (h : LaidZ w) : Calls Tryz.prog 43 #[.int .i32 133, .int .u8 f] w fun e w' => e = .returned (.string ⟨#[92, 117, 123, 56, 53, 125]⟩) ∧ Below w.heap.size w w' := by
  go_enter Tryz.func43, Tryz.ntmps43
  go_wp2_with (go_at_call 48; refine (fmt_133 _ h).mono ?_; rintro e x ⟨rfl, hx⟩)
  go_ret
  exact ⟨rfl, hx⟩
set_option maxRecDepth 100000 in
set_option maxHeartbeats 4000000 in
theorem fi_8232 (w : World) (h : LaidZ w) : Calls Tryz.prog 66 #[.int .i64 8232, .int .i64 16] w fun e w' => e = .returned (.string ⟨#[50, 48, 50, 56]⟩) ∧ Below w.heap.size w w' := by
  go_enter Tryz.func66, Tryz.ntmps66
  go_wp2_with (go_at_call 88; refine (fb_8232 _ h).mono ?_; rintro e x ⟨rfl, hx⟩)
  go_ret
  exact ⟨rfl, hx⟩
set_option maxRecDepth 100000 in
set_option maxHeartbeats 4000000 in
theorem fmt_8232 (w : World) (h : LaidZ w) : Calls Tryz.prog 48 #[.int .i64 8232, .int .i64 16] w fun e w' => e = .returned (.string ⟨#[50, 48, 50, 56]⟩) ∧ Below w.heap.size w w' := by
  go_enter Tryz.func48, Tryz.ntmps48
  go_wp2_with (go_at_call 66; refine (fi_8232 _ h).mono ?_; rintro e x ⟨rfl, hx⟩)
  go_ret
  exact ⟨rfl, hx⟩
set_option maxRecDepth 100000 in
set_option maxHeartbeats 4000000 in
theorem escape_8232 (f : Int) (w : World) (h : LaidZ w) : Calls Tryz.prog 43 #[.int .i32 8232, .int .u8 f] w fun e w' => e = .returned (.string ⟨#[92, 117, 123, 50, 48, 50, 56, 125]⟩) ∧ Below w.heap.size w w' := by
  go_enter Tryz.func43, Tryz.ntmps43
  go_wp2_with (go_at_call 48; refine (fmt_8232 _ h).mono ?_; rintro e x ⟨rfl, hx⟩)
  go_ret
  exact ⟨rfl, hx⟩
set_option maxRecDepth 100000 in
set_option maxHeartbeats 4000000 in
theorem fi_8233 (w : World) (h : LaidZ w) : Calls Tryz.prog 66 #[.int .i64 8233, .int .i64 16] w fun e w' => e = .returned (.string ⟨#[50, 48, 50, 57]⟩) ∧ Below w.heap.size w w' := by
  go_enter Tryz.func66, Tryz.ntmps66
  go_wp2_with (go_at_call 88; refine (fb_8233 _ h).mono ?_; rintro e x ⟨rfl, hx⟩)
  go_ret
  exact ⟨rfl, hx⟩
set_option maxRecDepth 100000 in
set_option maxHeartbeats 4000000 in
theorem fmt_8233 (w : World) (h : LaidZ w) : Calls Tryz.prog 48 #[.int .i64 8233, .int .i64 16] w fun e w' => e = .returned (.string ⟨#[50, 48, 50, 57]⟩) ∧ Below w.heap.size w w' := by
  go_enter Tryz.func48, Tryz.ntmps48
  go_wp2_with (go_at_call 66; refine (fi_8233 _ h).mono ?_; rintro e x ⟨rfl, hx⟩)
  go_ret
  exact ⟨rfl, hx⟩
set_option maxRecDepth 100000 in
set_option maxHeartbeats 4000000 in
theorem escape_8233 (f : Int) (w : World) (h : LaidZ w) : Calls Tryz.prog 43 #[.int .i32 8233, .int .u8 f] w fun e w' => e = .returned (.string ⟨#[92, 117, 123, 50, 48, 50, 57, 125]⟩) ∧ Below w.heap.size w w' := by
  go_enter Tryz.func43, Tryz.ntmps43
  go_wp2_with (go_at_call 48; refine (fmt_8233 _ h).mono ?_; rintro e x ⟨rfl, hx⟩)
  go_ret
  exact ⟨rfl, hx⟩
end Go.Proofs.YtaljllbfedfpoaaGreatDoor
