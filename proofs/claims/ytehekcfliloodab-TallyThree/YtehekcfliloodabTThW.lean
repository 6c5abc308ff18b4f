/- The road of TallyThree: for every three texts of a size that memory can hold it returns true, and writes nothing that was there. -/
import Derived.Test.YtehekcfliloodabTJm
namespace Go.Proofs.Ytehekcfliloodab
open Go.RowKit
set_option linter.unusedVariables false

namespace tallyThree
theorem three_rows (w : World) (o1 o2 o3 : Obj) : (((w.alloc o1).alloc o2).alloc o3).heap[w.heap.size]? = some o1 ∧ (((w.alloc o1).alloc o2).alloc o3).heap[w.heap.size + 1]? = some o2 ∧ (((w.alloc o1).alloc o2).alloc o3).heap[w.heap.size + 1 + 1]? = some o3 := by
  refine ⟨?_, ?_, ?_⟩
  · rw [Below.heap_alloc _ _ _ (by simp; omega), Below.heap_alloc _ _ _ (by simp)]
    exact heap_alloc_new w o1
  · rw [Below.heap_alloc _ _ _ (by simp)]
    exact heap_alloc2_new w o1 o2
  · have := heap_alloc_new ((w.alloc o1).alloc o2) o3
    simp only [World.size_alloc] at this
    exact this
theorem keep2 {W W' : World} {B : Nat} {o o' : Obj} (h : W.heap[B]? = some o) (hB : Below W.heap.size W W') : (W'.alloc o').heap[B]? = some o := by
  have h1 := row_keep h hB
  rw [Below.heap_alloc _ _ _ (Array.getElem?_eq_some_iff.1 h1).1]
  exact h1

set_option maxRecDepth 100000 in
set_option maxHeartbeats 100000000 in
theorem walk (a b c : ByteArray) (w : World) (hs : a.size + b.size + c.size ≤ 9223372036854775807) :
    Calls Try.prog 4 #[.string a, .string b, .string c] w fun e w' => e = .returned (.bool true) ∧ Below w.heap.size w w' := by
  have o1 := fun w => tof_any a w (by omega)
  have o2 := fun w => tof_any b w (by omega)
  have o3 := fun w => tof_any c w (by omega)
  have o4 := fun w => tof_any (a ++ b ++ c) w (by rw [ByteArray.size_append, ByteArray.size_append]; omega)
  have j1 := fun w => join_of a b w (by omega)
  have j2 := fun w => join_of b c w (by omega)
  have j3 := fun w => join_of (a ++ b) c w (by rw [ByteArray.size_append]; omega)
  have j4 := fun w => join_of a (b ++ c) w (by rw [ByteArray.size_append]; omega)
  have j5 := fun w => join_of ⟨#[]⟩ a w (by show 0 + a.size ≤ _; omega)
  have j6 := fun w => join_of a ⟨#[]⟩ w (by show a.size + 0 ≤ _; omega)
  have e0 : (⟨#[]⟩ : ByteArray) ++ a = a := ByteArray.empty_append
  have e1 : a ++ (⟨#[]⟩ : ByteArray) = a := ByteArray.append_empty
  rw [e0, zero_ty] at j5
  rw [e1, zero_ty] at j6
  rw [← ByteArray.append_assoc] at j4
  have ks := fun w => seam_yes a.size (chn (bl a)) (lin (bl a)) (hd a) (tl a) b.size (chn (bl b)) (lin (bl b)) (hd b) (tl b) w (by omega) (by omega) (may_of' a) (may_of' b)
  obtain ⟨sa1, sa2, sa3, sa4, sa5, sa6⟩ := seam_adds a b
  have hc1 := (chn_le (bl a)).1
  have hc2 := (chn_le (bl b)).1
  have hl1 := lin_le (bl a)
  have hl2 := lin_le (bl b)
  have hc3 := (chn_le (bl (a ++ b))).1
  have hl3 := lin_le (bl (a ++ b))
  rw [bl_len] at hc1 hc2 hc3
  rw [ByteArray.size_append] at hc3
  have hab : a.size + b.size ≤ 9223372036854775807 := by omega
  have ad1 := fun w => run_string_add_sum (P := Try.prog) w a b hab
  have ad2 := fun w => run_string_add_sum (P := Try.prog) w (a ++ b) c (by rw [ByteArray.size_append]; omega)
  unfold tyC at o1 o2 o3 o4
  have heqX := fun w => eql_ty a.size (chn (bl a)) (lin (bl a)) (hd a) (tl a) a.size (chn (bl a)) (lin (bl a)) (hd a) (tl a) w
  have heqL := fun w => eql_ty (a ++ b ++ c).size (chn (bl (a ++ b ++ c))) (lin (bl (a ++ b ++ c))) (hd (a ++ b ++ c)) (tl (a ++ b ++ c)) (a ++ b ++ c).size (chn (bl (a ++ b ++ c))) (lin (bl (a ++ b ++ c))) (hd (a ++ b ++ c)) (tl (a ++ b ++ c)) w
  rw [show sameT a.size (chn (bl a)) (lin (bl a)) (hd a) (tl a) a.size (chn (bl a)) (lin (bl a)) (hd a) (tl a) = true from decide_eq_true ⟨rfl, rfl, rfl, rfl, rfl⟩] at heqX
  rw [show sameT (a ++ b ++ c).size (chn (bl (a ++ b ++ c))) (lin (bl (a ++ b ++ c))) (hd (a ++ b ++ c)) (tl (a ++ b ++ c)) (a ++ b ++ c).size (chn (bl (a ++ b ++ c))) (lin (bl (a ++ b ++ c))) (hd (a ++ b ++ c)) (tl (a ++ b ++ c)) = true from decide_eq_true ⟨rfl, rfl, rfl, rfl, rfl⟩] at heqL
  generalize ((chn (bl (a ++ b ++ c)) : Nat) : Int) = cXYZ at *
  generalize ((lin (bl (a ++ b ++ c)) : Nat) : Int) = lXYZ at *
  generalize hd (a ++ b ++ c) = hXYZ at *
  generalize tl (a ++ b ++ c) = tXYZ at *
  obtain ⟨cXY, hcXY⟩ : ∃ z : Int, z = ((chn (bl (a ++ b)) : Nat) : Int) := ⟨_, rfl⟩
  obtain ⟨lXY, hlXY⟩ : ∃ z : Int, z = ((lin (bl (a ++ b)) : Nat) : Int) := ⟨_, rfl⟩
  rw [← hcXY, ← hlXY] at j1
  rw [← hcXY, ← hlXY] at j3
  rw [← hcXY] at sa1
  rw [← hlXY] at sa2
  generalize hd (a ++ b) = hXY at *
  generalize tl (a ++ b) = tXY at *
  generalize ((chn (bl (b ++ c)) : Nat) : Int) = cYZ at *
  generalize ((lin (bl (b ++ c)) : Nat) : Int) = lYZ at *
  generalize hd (b ++ c) = hYZ at *
  generalize tl (b ++ c) = tYZ at *
  obtain ⟨cX, hcX⟩ : ∃ z : Int, z = ((chn (bl a) : Nat) : Int) := ⟨_, rfl⟩
  obtain ⟨lX, hlX⟩ : ∃ z : Int, z = ((lin (bl a) : Nat) : Int) := ⟨_, rfl⟩
  rw [← hcX, ← hlX] at o1
  rw [← hcX, ← hlX] at j1
  rw [← hcX, ← hlX] at j4
  rw [← hcX, ← hlX] at j5
  rw [← hcX, ← hlX] at j6
  rw [← hcX, ← hlX] at ks
  rw [← hcX, ← hlX] at heqX
  rw [← hcX] at sa1
  rw [← hlX] at sa2
  generalize hd a = hX at *
  generalize tl a = tX at *
  obtain ⟨cY, hcY⟩ : ∃ z : Int, z = ((chn (bl b) : Nat) : Int) := ⟨_, rfl⟩
  obtain ⟨lY, hlY⟩ : ∃ z : Int, z = ((lin (bl b) : Nat) : Int) := ⟨_, rfl⟩
  rw [← hcY, ← hlY] at o2
  rw [← hcY, ← hlY] at j1
  rw [← hcY, ← hlY] at j2
  rw [← hcY, ← hlY] at ks
  rw [← hcY] at sa1
  rw [← hlY] at sa2
  generalize hd b = hY at *
  generalize tl b = tY at *
  generalize ((chn (bl c) : Nat) : Int) = cZ at *
  generalize ((lin (bl c) : Nat) : Int) = lZ at *
  generalize hd c = hZ at *
  generalize tl c = tZ at *
  obtain ⟨sXYZ, hsXYZ⟩ : ∃ z : Int, z = (((a ++ b ++ c).size : Nat) : Int) := ⟨_, rfl⟩
  rw [← hsXYZ] at o4
  rw [← hsXYZ] at j3
  rw [← hsXYZ] at j4
  rw [← hsXYZ] at heqL
  obtain ⟨sXY, hsXY⟩ : ∃ z : Int, z = (((a ++ b).size : Nat) : Int) := ⟨_, rfl⟩
  rw [← hsXY] at j1
  rw [← hsXY] at j3
  obtain ⟨sYZ, hsYZ⟩ : ∃ z : Int, z = (((b ++ c).size : Nat) : Int) := ⟨_, rfl⟩
  rw [← hsYZ] at j2
  rw [← hsYZ] at j4
  obtain ⟨sX, hsX⟩ : ∃ z : Int, z = ((a.size : Nat) : Int) := ⟨_, rfl⟩
  rw [← hsX] at o1
  rw [← hsX] at j1
  rw [← hsX] at j4
  rw [← hsX] at j5
  rw [← hsX] at j6
  rw [← hsX] at ks
  rw [← hsX] at heqX
  obtain ⟨sY, hsY⟩ : ∃ z : Int, z = ((b.size : Nat) : Int) := ⟨_, rfl⟩
  rw [← hsY] at o2
  rw [← hsY] at j1
  rw [← hsY] at j2
  rw [← hsY] at ks
  obtain ⟨sZ, hsZ⟩ : ∃ z : Int, z = ((c.size : Nat) : Int) := ⟨_, rfl⟩
  rw [← hsZ] at o3
  rw [← hsZ] at j2
  rw [← hsZ] at j3
  generalize (seamT tX hY).1 = D at *
  generalize (seamT tX hY).2 = M at *
  have hw1 : IntKind.i64.wrap (cX + cY) = cX + cY := by rw [IntKind.wrap_i64]; omega
  have hw2 : IntKind.i64.wrap (lX + lY) = lX + lY := by rw [IntKind.wrap_i64]; omega
  have hw3 : IntKind.i64.wrap (cX + cY + D) = cXY := by rw [IntKind.wrap_i64]; omega
  have hw4 : IntKind.i64.wrap (lX + lY + M) = lXY := by rw [IntKind.wrap_i64]; omega
  have q1 : (cXY == cXY) = true := by simp
  have q2 : (lXY == lXY) = true := by simp
  have g1 : decide (D ≤ 0) = true := decide_eq_true sa4
  have g2 : decide (-3 ≤ D) = true := decide_eq_true sa3
  have g3 : decide (M ≤ 1) = true := decide_eq_true sa6
  have g4 : decide (-1 ≤ M) = true := decide_eq_true sa5
  have O1' := hide o1
  have O2' := hide o2
  have O3' := hide o3
  have O4' := hide o4
  have J1' := hide j1
  have J2' := hide j2
  have J3' := hide j3
  have J4' := hide j4
  have J5' := hide j5
  have J6' := hide j6
  have KS' := hide ks
  have HEQX' := hide heqX
  have HEQL' := hide heqL
  clear o1 o2 o3 o4 j1 j2 j3 j4 j5 j6 ks heqX heqL e0 e1 hc1 hc2 hc3 hl1 hl2 hl3 hcX hcXY hcY hlX hlXY hlY hsXYZ hsXY hsYZ hsX hsY hsZ sa1 sa2 hs
  have MO1 := hide trivial
  have MO2 := hide trivial
  have MO3 := hide trivial
  have MJ1 := hide trivial
  have MJ2 := hide trivial
  have MJ3 := hide trivial
  have MJ4 := hide trivial
  have MJ5 := hide trivial
  have hg := Try.noGuard29
  have heqX := HEQX'.out
  have heqL := HEQL'.out
  go_enter Try.func4, Try.ntmps4
  go_wp2_with (first | (go_at_call 8; clear MO1; refine (O1'.out _).mono ?_; rintro e w1 ⟨rfl, hB1⟩) | (go_at_call 8; clear MO2; refine (O2'.out _).mono ?_; rintro e w2 ⟨rfl, hB2⟩) | (go_at_call 8; clear MO3; refine (O3'.out _).mono ?_; rintro e w3 ⟨rfl, hB3⟩; obtain ⟨rx, ry, rz⟩ := three_rows w3 (.cells #[.int .i64 sX, .int .i64 cX, .int .i64 lX, .string hX, .string tX] 29) (.cells #[.int .i64 sY, .int .i64 cY, .int .i64 lY, .string hY, .string tY] 29) (.cells #[.int .i64 sZ, .int .i64 cZ, .int .i64 lZ, .string hZ, .string tZ] 29); replace rx := hide rx; replace ry := hide ry; replace rz := hide rz) | (go_at_call 10; clear MJ1; refine (J1'.out _).mono ?_; rintro e w4 ⟨rfl, hB4⟩; have rx4 := hide (keep2 (o' := .cells #[.int .i64 sXY, .int .i64 cXY, .int .i64 lXY, .string hXY, .string tXY] 29) rx.out hB4); have ry4 := hide (keep2 (o' := .cells #[.int .i64 sXY, .int .i64 cXY, .int .i64 lXY, .string hXY, .string tXY] 29) ry.out hB4); have rz4 := hide (keep2 (o' := .cells #[.int .i64 sXY, .int .i64 cXY, .int .i64 lXY, .string hXY, .string tXY] 29) rz.out hB4); have rp4 := hide (heap_alloc_new w4 (.cells #[.int .i64 sXY, .int .i64 cXY, .int .i64 lXY, .string hXY, .string tXY] 29)); obtain ⟨by4_0, by4_1, by4_2, by4_3, by4_4⟩ := box_at ry4.out; obtain ⟨bz4_0, bz4_1, bz4_2, bz4_3, bz4_4⟩ := box_at rz4.out) | (go_at_call 10; clear MJ2; refine (J2'.out _).mono ?_; rintro e w5 ⟨rfl, hB5⟩; have rx5 := hide (keep2 (o' := .cells #[.int .i64 sYZ, .int .i64 cYZ, .int .i64 lYZ, .string hYZ, .string tYZ] 29) rx4.out hB5); have ry5 := hide (keep2 (o' := .cells #[.int .i64 sYZ, .int .i64 cYZ, .int .i64 lYZ, .string hYZ, .string tYZ] 29) ry4.out hB5); have rz5 := hide (keep2 (o' := .cells #[.int .i64 sYZ, .int .i64 cYZ, .int .i64 lYZ, .string hYZ, .string tYZ] 29) rz4.out hB5); have rp5 := hide (keep2 (o' := .cells #[.int .i64 sYZ, .int .i64 cYZ, .int .i64 lYZ, .string hYZ, .string tYZ] 29) rp4.out hB5); have rq5 := hide (heap_alloc_new w5 (.cells #[.int .i64 sYZ, .int .i64 cYZ, .int .i64 lYZ, .string hYZ, .string tYZ] 29))) | (go_at_call 9; refine (works_any _).mono ?_; rintro e w6 ⟨rfl, hB6⟩; have rx6 := hide (row_keep rx5.out hB6); have ry6 := hide (row_keep ry5.out hB6); have rz6 := hide (row_keep rz5.out hB6); have rp6 := hide (row_keep rp5.out hB6); have rq6 := hide (row_keep rq5.out hB6); obtain ⟨bp6_0, bp6_1, bp6_2, bp6_3, bp6_4⟩ := box_at rp6.out; obtain ⟨bz6_0, bz6_1, bz6_2, bz6_3, bz6_4⟩ := box_at rz6.out) | (go_at_call 10; clear MJ3; refine (J3'.out _).mono ?_; rintro e w7 ⟨rfl, hB7⟩; have rx7 := hide (keep2 (o' := .cells #[.int .i64 sXYZ, .int .i64 cXYZ, .int .i64 lXYZ, .string hXYZ, .string tXYZ] 29) rx6.out hB7); have ry7 := hide (keep2 (o' := .cells #[.int .i64 sXYZ, .int .i64 cXYZ, .int .i64 lXYZ, .string hXYZ, .string tXYZ] 29) ry6.out hB7); have rz7 := hide (keep2 (o' := .cells #[.int .i64 sXYZ, .int .i64 cXYZ, .int .i64 lXYZ, .string hXYZ, .string tXYZ] 29) rz6.out hB7); have rp7 := hide (keep2 (o' := .cells #[.int .i64 sXYZ, .int .i64 cXYZ, .int .i64 lXYZ, .string hXYZ, .string tXYZ] 29) rp6.out hB7); have rq7 := hide (keep2 (o' := .cells #[.int .i64 sXYZ, .int .i64 cXYZ, .int .i64 lXYZ, .string hXYZ, .string tXYZ] 29) rq6.out hB7); have rl7 := hide (heap_alloc_new w7 (.cells #[.int .i64 sXYZ, .int .i64 cXYZ, .int .i64 lXYZ, .string hXYZ, .string tXYZ] 29)); obtain ⟨bx7_0, bx7_1, bx7_2, bx7_3, bx7_4⟩ := box_at rx7.out; obtain ⟨bq7_0, bq7_1, bq7_2, bq7_3, bq7_4⟩ := box_at rq7.out) | (go_at_call 10; clear MJ4; refine (J4'.out _).mono ?_; rintro e w8 ⟨rfl, hB8⟩; have rx8 := hide (keep2 (o' := .cells #[.int .i64 sXYZ, .int .i64 cXYZ, .int .i64 lXYZ, .string hXYZ, .string tXYZ] 29) rx7.out hB8); have ry8 := hide (keep2 (o' := .cells #[.int .i64 sXYZ, .int .i64 cXYZ, .int .i64 lXYZ, .string hXYZ, .string tXYZ] 29) ry7.out hB8); have rz8 := hide (keep2 (o' := .cells #[.int .i64 sXYZ, .int .i64 cXYZ, .int .i64 lXYZ, .string hXYZ, .string tXYZ] 29) rz7.out hB8); have rp8 := hide (keep2 (o' := .cells #[.int .i64 sXYZ, .int .i64 cXYZ, .int .i64 lXYZ, .string hXYZ, .string tXYZ] 29) rp7.out hB8); have rq8 := hide (keep2 (o' := .cells #[.int .i64 sXYZ, .int .i64 cXYZ, .int .i64 lXYZ, .string hXYZ, .string tXYZ] 29) rq7.out hB8); have rl8 := hide (keep2 (o' := .cells #[.int .i64 sXYZ, .int .i64 cXYZ, .int .i64 lXYZ, .string hXYZ, .string tXYZ] 29) rl7.out hB8); have rr8 := hide (heap_alloc_new w8 (.cells #[.int .i64 sXYZ, .int .i64 cXYZ, .int .i64 lXYZ, .string hXYZ, .string tXYZ] 29)); obtain ⟨bx8_0, bx8_1, bx8_2, bx8_3, bx8_4⟩ := box_at rx8.out) | (go_at_call 10; clear MJ5; refine (J5'.out _).mono ?_; rintro e w9 ⟨rfl, hB9⟩; have rx9 := hide (keep2 (o' := .cells #[.int .i64 sX, .int .i64 cX, .int .i64 lX, .string hX, .string tX] 29) rx8.out hB9); have ry9 := hide (keep2 (o' := .cells #[.int .i64 sX, .int .i64 cX, .int .i64 lX, .string hX, .string tX] 29) ry8.out hB9); have rz9 := hide (keep2 (o' := .cells #[.int .i64 sX, .int .i64 cX, .int .i64 lX, .string hX, .string tX] 29) rz8.out hB9); have rp9 := hide (keep2 (o' := .cells #[.int .i64 sX, .int .i64 cX, .int .i64 lX, .string hX, .string tX] 29) rp8.out hB9); have rq9 := hide (keep2 (o' := .cells #[.int .i64 sX, .int .i64 cX, .int .i64 lX, .string hX, .string tX] 29) rq8.out hB9); have rl9 := hide (keep2 (o' := .cells #[.int .i64 sX, .int .i64 cX, .int .i64 lX, .string hX, .string tX] 29) rl8.out hB9); have rr9 := hide (keep2 (o' := .cells #[.int .i64 sX, .int .i64 cX, .int .i64 lX, .string hX, .string tX] 29) rr8.out hB9); have rn9 := hide (heap_alloc_new w9 (.cells #[.int .i64 sX, .int .i64 cX, .int .i64 lX, .string hX, .string tX] 29)); obtain ⟨bx9_0, bx9_1, bx9_2, bx9_3, bx9_4⟩ := box_at rx9.out) | (go_at_call 10; refine (J6'.out _).mono ?_; rintro e w10 ⟨rfl, hB10⟩; have rx10 := hide (keep2 (o' := .cells #[.int .i64 sX, .int .i64 cX, .int .i64 lX, .string hX, .string tX] 29) rx9.out hB10); have ry10 := hide (keep2 (o' := .cells #[.int .i64 sX, .int .i64 cX, .int .i64 lX, .string hX, .string tX] 29) ry9.out hB10); have rz10 := hide (keep2 (o' := .cells #[.int .i64 sX, .int .i64 cX, .int .i64 lX, .string hX, .string tX] 29) rz9.out hB10); have rp10 := hide (keep2 (o' := .cells #[.int .i64 sX, .int .i64 cX, .int .i64 lX, .string hX, .string tX] 29) rp9.out hB10); have rq10 := hide (keep2 (o' := .cells #[.int .i64 sX, .int .i64 cX, .int .i64 lX, .string hX, .string tX] 29) rq9.out hB10); have rl10 := hide (keep2 (o' := .cells #[.int .i64 sX, .int .i64 cX, .int .i64 lX, .string hX, .string tX] 29) rl9.out hB10); have rr10 := hide (keep2 (o' := .cells #[.int .i64 sX, .int .i64 cX, .int .i64 lX, .string hX, .string tX] 29) rr9.out hB10); have rn10 := hide (keep2 (o' := .cells #[.int .i64 sX, .int .i64 cX, .int .i64 lX, .string hX, .string tX] 29) rn9.out hB10); have rm10 := hide (heap_alloc_new w10 (.cells #[.int .i64 sX, .int .i64 cX, .int .i64 lX, .string hX, .string tX] 29)); obtain ⟨bx10_0, bx10_1, bx10_2, bx10_3, bx10_4⟩ := box_at rx10.out; obtain ⟨by10_0, by10_1, by10_2, by10_3, by10_4⟩ := box_at ry10.out) | (go_at_call 11; refine (KS'.out _).mono ?_; rintro e w11 ⟨rfl, hB11⟩; have rx11 := hide (row_keep rx10.out hB11); have ry11 := hide (row_keep ry10.out hB11); have rz11 := hide (row_keep rz10.out hB11); have rp11 := hide (row_keep rp10.out hB11); have rq11 := hide (row_keep rq10.out hB11); have rl11 := hide (row_keep rl10.out hB11); have rr11 := hide (row_keep rr10.out hB11); have rn11 := hide (row_keep rn10.out hB11); have rm11 := hide (row_keep rm10.out hB11)))
  clear O1' O2' O3' J1' J2' J3' J4' J5' J6' KS' HEQX' HEQL' ad1
  clear rl10 rl7 rl8 rl9 rm10 rn10 rn9 rp10 rp4 rp5 rp6 rp7 rp8 rp9 rq10 rq5 rq6 rq7 rq8 rq9 rr10 rr8 rr9 rx rx10 rx4 rx5 rx6 rx7 rx8 rx9 ry ry10 ry4 ry5 ry6 ry7 ry8 ry9 rz rz10 rz4 rz5 rz6 rz7 rz8 rz9
  clear bp6_0 bp6_1 bp6_2 bp6_3 bp6_4 bq7_0 bq7_1 bq7_2 bq7_3 bq7_4 bx10_0 bx10_1 bx10_2 bx10_3 bx10_4 bx7_0 bx7_1 bx7_2 bx7_3 bx7_4 bx8_0 bx8_1 bx8_2 bx8_3 bx8_4 bx9_0 bx9_1 bx9_2 bx9_3 bx9_4 by10_0 by10_1 by10_2 by10_3 by10_4 by4_0 by4_1 by4_2 by4_3 by4_4 bz4_0 bz4_1 bz4_2 bz4_3 bz4_4 bz6_0 bz6_1 bz6_2 bz6_3 bz6_4
  have ad1 := fun w => run_string_add_sum (P := Try.prog) w a b hab
  have mk : ∀ W, Below w11.heap.size w11 W → (Below w11.heap.size w11 W ∧ W.cell? ⟨w7.heap.size, 0, none⟩ = some (.int .i64 sXYZ) ∧ W.cell? ⟨w7.heap.size, 1, none⟩ = some (.int .i64 cXYZ) ∧ W.cell? ⟨w7.heap.size, 2, none⟩ = some (.int .i64 lXYZ) ∧ W.cell? ⟨w7.heap.size, 3, none⟩ = some (.string hXYZ) ∧ W.cell? ⟨w7.heap.size, 4, none⟩ = some (.string tXYZ) ∧ W.cell? ⟨w8.heap.size, 0, none⟩ = some (.int .i64 sXYZ) ∧ W.cell? ⟨w8.heap.size, 1, none⟩ = some (.int .i64 cXYZ) ∧ W.cell? ⟨w8.heap.size, 2, none⟩ = some (.int .i64 lXYZ) ∧ W.cell? ⟨w8.heap.size, 3, none⟩ = some (.string hXYZ) ∧ W.cell? ⟨w8.heap.size, 4, none⟩ = some (.string tXYZ) ∧ W.cell? ⟨w9.heap.size, 0, none⟩ = some (.int .i64 sX) ∧ W.cell? ⟨w9.heap.size, 1, none⟩ = some (.int .i64 cX) ∧ W.cell? ⟨w9.heap.size, 2, none⟩ = some (.int .i64 lX) ∧ W.cell? ⟨w9.heap.size, 3, none⟩ = some (.string hX) ∧ W.cell? ⟨w9.heap.size, 4, none⟩ = some (.string tX) ∧ W.cell? ⟨w10.heap.size, 0, none⟩ = some (.int .i64 sX) ∧ W.cell? ⟨w10.heap.size, 1, none⟩ = some (.int .i64 cX) ∧ W.cell? ⟨w10.heap.size, 2, none⟩ = some (.int .i64 lX) ∧ W.cell? ⟨w10.heap.size, 3, none⟩ = some (.string hX) ∧ W.cell? ⟨w10.heap.size, 4, none⟩ = some (.string tX) ∧ W.cell? ⟨w3.heap.size, 0, none⟩ = some (.int .i64 sX) ∧ W.cell? ⟨w3.heap.size, 1, none⟩ = some (.int .i64 cX) ∧ W.cell? ⟨w3.heap.size, 2, none⟩ = some (.int .i64 lX) ∧ W.cell? ⟨w3.heap.size, 3, none⟩ = some (.string hX) ∧ W.cell? ⟨w3.heap.size, 4, none⟩ = some (.string tX) ∧ W.cell? ⟨w4.heap.size, 0, none⟩ = some (.int .i64 sXY) ∧ W.cell? ⟨w4.heap.size, 1, none⟩ = some (.int .i64 cXY) ∧ W.cell? ⟨w4.heap.size, 2, none⟩ = some (.int .i64 lXY) ∧ W.cell? ⟨w4.heap.size, 3, none⟩ = some (.string hXY) ∧ W.cell? ⟨w4.heap.size, 4, none⟩ = some (.string tXY) ∧ W.cell? ⟨w3.heap.size + 1, 0, none⟩ = some (.int .i64 sY) ∧ W.cell? ⟨w3.heap.size + 1, 1, none⟩ = some (.int .i64 cY) ∧ W.cell? ⟨w3.heap.size + 1, 2, none⟩ = some (.int .i64 lY) ∧ W.cell? ⟨w3.heap.size + 1, 3, none⟩ = some (.string hY) ∧ W.cell? ⟨w3.heap.size + 1, 4, none⟩ = some (.string tY)) := fun W hB => by
    obtain ⟨l0, l1, l2, l3, l4⟩ := box_at (row_keep rl11.out hB)
    obtain ⟨r0, r1, r2, r3, r4⟩ := box_at (row_keep rr11.out hB)
    obtain ⟨n0, n1, n2, n3, n4⟩ := box_at (row_keep rn11.out hB)
    obtain ⟨m0, m1, m2, m3, m4⟩ := box_at (row_keep rm11.out hB)
    obtain ⟨x0, x1, x2, x3, x4⟩ := box_at (row_keep rx11.out hB)
    obtain ⟨p0, p1, p2, p3, p4⟩ := box_at (row_keep rp11.out hB)
    obtain ⟨y0, y1, y2, y3, y4⟩ := box_at (row_keep ry11.out hB)
    exact ⟨hB, l0, l1, l2, l3, l4, r0, r1, r2, r3, r4, n0, n1, n2, n3, n4, m0, m1, m2, m3, m4, x0, x1, x2, x3, x4, p0, p1, p2, p3, p4, y0, y1, y2, y3, y4⟩
  have MK := hide mk
  clear mk rx11 ry11 rz11 rp11 rq11 rl11 rr11 rn11 rm11
  simp only [List.append_eq, List.cons_append, List.nil_append]
  go_region_held3 (fun w' => Below w11.heap.size w11 w' ∧ w'.cell? ⟨w7.heap.size, 0, none⟩ = some (.int .i64 sXYZ) ∧ w'.cell? ⟨w7.heap.size, 1, none⟩ = some (.int .i64 cXYZ) ∧ w'.cell? ⟨w7.heap.size, 2, none⟩ = some (.int .i64 lXYZ) ∧ w'.cell? ⟨w7.heap.size, 3, none⟩ = some (.string hXYZ) ∧ w'.cell? ⟨w7.heap.size, 4, none⟩ = some (.string tXYZ) ∧ w'.cell? ⟨w8.heap.size, 0, none⟩ = some (.int .i64 sXYZ) ∧ w'.cell? ⟨w8.heap.size, 1, none⟩ = some (.int .i64 cXYZ) ∧ w'.cell? ⟨w8.heap.size, 2, none⟩ = some (.int .i64 lXYZ) ∧ w'.cell? ⟨w8.heap.size, 3, none⟩ = some (.string hXYZ) ∧ w'.cell? ⟨w8.heap.size, 4, none⟩ = some (.string tXYZ) ∧ w'.cell? ⟨w9.heap.size, 0, none⟩ = some (.int .i64 sX) ∧ w'.cell? ⟨w9.heap.size, 1, none⟩ = some (.int .i64 cX) ∧ w'.cell? ⟨w9.heap.size, 2, none⟩ = some (.int .i64 lX) ∧ w'.cell? ⟨w9.heap.size, 3, none⟩ = some (.string hX) ∧ w'.cell? ⟨w9.heap.size, 4, none⟩ = some (.string tX) ∧ w'.cell? ⟨w10.heap.size, 0, none⟩ = some (.int .i64 sX) ∧ w'.cell? ⟨w10.heap.size, 1, none⟩ = some (.int .i64 cX) ∧ w'.cell? ⟨w10.heap.size, 2, none⟩ = some (.int .i64 lX) ∧ w'.cell? ⟨w10.heap.size, 3, none⟩ = some (.string hX) ∧ w'.cell? ⟨w10.heap.size, 4, none⟩ = some (.string tX) ∧ w'.cell? ⟨w3.heap.size, 0, none⟩ = some (.int .i64 sX) ∧ w'.cell? ⟨w3.heap.size, 1, none⟩ = some (.int .i64 cX) ∧ w'.cell? ⟨w3.heap.size, 2, none⟩ = some (.int .i64 lX) ∧ w'.cell? ⟨w3.heap.size, 3, none⟩ = some (.string hX) ∧ w'.cell? ⟨w3.heap.size, 4, none⟩ = some (.string tX) ∧ w'.cell? ⟨w4.heap.size, 0, none⟩ = some (.int .i64 sXY) ∧ w'.cell? ⟨w4.heap.size, 1, none⟩ = some (.int .i64 cXY) ∧ w'.cell? ⟨w4.heap.size, 2, none⟩ = some (.int .i64 lXY) ∧ w'.cell? ⟨w4.heap.size, 3, none⟩ = some (.string hXY) ∧ w'.cell? ⟨w4.heap.size, 4, none⟩ = some (.string tXY) ∧ w'.cell? ⟨w3.heap.size + 1, 0, none⟩ = some (.int .i64 sY) ∧ w'.cell? ⟨w3.heap.size + 1, 1, none⟩ = some (.int .i64 cY) ∧ w'.cell? ⟨w3.heap.size + 1, 2, none⟩ = some (.int .i64 lY) ∧ w'.cell? ⟨w3.heap.size + 1, 3, none⟩ = some (.string hY) ∧ w'.cell? ⟨w3.heap.size + 1, 4, none⟩ = some (.string tY)) (first | exact MK.out _ (Below.refl _ _).drew | exact MK.out _ hW12) (first | (go_at_call 8; refine (O4'.out _).mono ?_; rintro e w12 ⟨rfl, hB12⟩; have hW12 : Below w11.heap.size w11 w12 := bseq ((Below.refl _ w11).drew) hB12))
  go_wp2
  go_ret
  exact ⟨rfl, bseq (bseq (bseq (bseq (bseq (bseq (bseq (bseq (bseq (bseq (bseq (bseq (bseq (bseq (bseq (bseq (bseq (bseq hB1 hB2) hB3) ((((Below.refl _ w3).alloc (Nat.le_refl _) _).alloc (by simp) _).alloc (by simp; omega) _)) hB4) ((Below.refl _ w4).alloc (Nat.le_refl _) _)) hB5) ((Below.refl _ w5).alloc (Nat.le_refl _) _)) hB6) hB7) ((Below.refl _ w7).alloc (Nat.le_refl _) _)) hB8) ((Below.refl _ w8).alloc (Nat.le_refl _) _)) hB9) ((Below.refl _ w9).alloc (Nat.le_refl _) _)) hB10) ((Below.refl _ w10).alloc (Nat.le_refl _) _)) hB11) hW12⟩
end tallyThree
end Go.Proofs.Ytehekcfliloodab
