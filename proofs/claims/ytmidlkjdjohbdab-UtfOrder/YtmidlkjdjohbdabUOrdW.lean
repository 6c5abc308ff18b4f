/- The road of UtfOrder: for every text and every two numbers it returns true, and writes nothing that was there. -/
import Derived.Test.YtmidlkjdjohbdabUOrdM
import Derived.Test.YtmidlkjdjohbdabUAwake
namespace Go.Proofs.Ytmidlkjdjohbdab.utfOrder
open Go.RowKit Go.Proofs.Ytmidlkjdjohbdab
set_option linter.unusedVariables false

/-- What the walk asks of what the program answers, the text apart. -/
def Ans (s : ByteArray) (f : Nat) (n : Int) (a b : Int) : Prop := ∀ w, Calls Try.prog f #[.string s, .int .i64 n] w fun e w' => e = .returned (.tuple #[.int .i64 a, .int .i64 b]) ∧ Below w.heap.size w w'
def AnsB (s : ByteArray) (n : Int) (a : Bool) : Prop := ∀ w, Calls Try.prog 13 #[.string s, .int .i64 n] w fun e w' => e = .returned (.bool a) ∧ Below w.heap.size w w'

/-- The second half: what is asked of the character's number. -/
def Half2 (s : ByteArray) (c : Int) : Prop :=
  (c < 0 ∧ Ans s 10 c 0 6) ∨
  (∃ n : Nat, n ≤ 9223372036854775807 ∧ (∀ w, Calls Try.prog 14 #[.string s] w fun e w' => e = .returned (.int .i64 n) ∧ Below w.heap.size w w') ∧ 0 ≤ c ∧ (n : Int) < c ∧ Ans s 10 c 0 6) ∨
  (∃ n : Nat, n ≤ 9223372036854775807 ∧ (∀ w, Calls Try.prog 14 #[.string s] w fun e w' => e = .returned (.int .i64 n) ∧ Below w.heap.size w w') ∧ 0 ≤ c ∧ c ≤ (n : Int) ∧ ∃ p : Nat, Ans s 10 c p 0 ∧ Ans s 11 p c 0)

theorem half2 (s : ByteArray) (c : Int) (hs : s.size ≤ 9223372036854775807) : Half2 s c := by
  have hl := Cs_len_le (bl s)
  rw [bl_len] at hl
  by_cases h : c < 0
  · exact .inl ⟨h, fun w => by have := at_any s c w hs; rw [atV_out (.inl h)] at this; exact this⟩
  · by_cases h2 : ((Cs 0 (bl s)).length : Int) < c
    · exact .inr (.inl ⟨_, by omega, fun w => count_any s w hs, by omega, h2, fun w => by have := at_any s c w hs; rw [atV_out (.inr h2)] at this; exact this⟩)
    · obtain ⟨k, rfl⟩ : ∃ k : Nat, c = (k : Int) := ⟨c.toNat, by omega⟩
      obtain ⟨p, h3, h4, h5⟩ := order_char (bl s) k (by omega)
      exact .inr (.inr ⟨_, by omega, fun w => count_any s w hs, by omega, by omega, p, fun w => by have := at_any s k w hs; rw [h3] at this; exact this, fun w => by have := of_any s p w hs; rw [h4] at this; exact this⟩)

def Half1 (s : ByteArray) (i : Int) : Prop :=
  (i < 0 ∧ Ans s 11 i 0 6 ∧ AnsB s i false) ∨
  (0 ≤ i ∧ (s.size : Int) < i ∧ Ans s 11 i 0 6 ∧ AnsB s i false) ∨
  (∃ n : Nat, n < 9223372036854775807 ∧ ∃ nx : Nat, 0 ≤ i ∧ i < (s.size : Int) ∧ Ans s 11 i n 0 ∧ AnsB s i true ∧ Ans s 10 n i 0 ∧ Ans s 10 ((n : Int) + 1) nx 0 ∧ i < (nx : Int)) ∨
  (∃ n : Nat, n < 9223372036854775807 ∧ ∃ p nx : Nat, 0 ≤ i ∧ i < (s.size : Int) ∧ (p : Int) < i ∧ i - (p : Int) ≤ 3 ∧ Ans s 11 i n 0 ∧ AnsB s i false ∧ Ans s 10 n p 0 ∧ Ans s 10 ((n : Int) + 1) nx 0 ∧ i < (nx : Int)) ∨
  (∃ n : Nat, n ≤ s.size ∧ (i == (s.size : Int)) = true ∧ 0 ≤ i ∧ (s.size : Int) ≤ i ∧ i ≤ (s.size : Int) ∧ Ans s 11 i n 0 ∧ AnsB s i true ∧ Ans s 10 n i 0 ∧ Ans s 10 ((n : Int) + 1) 0 6)

theorem half1 (s : ByteArray) (i : Int) (hs : s.size ≤ 9223372036854775807) : Half1 s i := by
  have ko := fun w => of_any s i w hs
  have kb := fun w => begins_any s i w hs
  by_cases h : i < 0
  · obtain ⟨e1, e2⟩ := order_out (bl s) i (.inl h)
    exact .inl ⟨h, fun w => by have := ko w; rw [e1] at this; exact this, fun w => by have := kb w; rw [e2] at this; exact this⟩
  · by_cases h2 : (s.size : Int) < i
    · obtain ⟨e1, e2⟩ := order_out (bl s) i (.inr (by rw [bl_len]; exact h2))
      exact .inr (.inl ⟨by omega, h2, fun w => by have := ko w; rw [e1] at this; exact this, fun w => by have := kb w; rw [e2] at this; exact this⟩)
    · obtain ⟨k, rfl⟩ : ∃ k : Nat, i = (k : Int) := ⟨i.toNat, by omega⟩
      by_cases hk : k < s.size
      · obtain ⟨n, b, nx, g1, g2, g3, g4, g5, g6, g7, g8, g9⟩ := order_in (bl s) k (by rw [bl_len]; exact hk)
        rw [bl_len] at g8 g9
        have k1 : Ans s 11 k n 0 := fun w => by have := ko w; rw [g1] at this; exact this
        have k2 : Ans s 10 n b 0 := fun w => by have := at_any s n w hs; rw [g2] at this; exact this
        have k3 : Ans s 10 ((n : Int) + 1) nx 0 := fun w => by have := at_any s ((n : Int) + 1) w hs; rw [g6] at this; exact this
        by_cases hb : b = k
        · subst hb
          exact .inr (.inr (.inl ⟨n, by omega, nx, by omega, by omega, k1, fun w => by have := kb w; rw [g5, decide_eq_true rfl] at this; exact this, k2, k3, by omega⟩))
        · exact .inr (.inr (.inr (.inl ⟨n, by omega, b, nx, by omega, by omega, by omega, by omega, k1, fun w => by have := kb w; rw [g5, decide_eq_false hb] at this; exact this, k2, k3, by omega⟩)))
      · have hke : k = s.size := by omega
        obtain ⟨g1, g2, g3, g4⟩ := order_end (bl s)
        have hl := Cs_len_le (bl s)
        rw [bl_len] at g1 g2 g3 hl
        subst hke
        exact .inr (.inr (.inr (.inr ⟨(Cs 0 (bl s)).length, hl, by simp, by omega, by omega, by omega, fun w => by have := ko w; rw [g1] at this; exact this, fun w => by have := kb w; rw [g3] at this; exact this,
          fun w => by have := at_any s (Cs 0 (bl s)).length w hs; rw [g2] at this; exact this, fun w => by have := at_any s (((Cs 0 (bl s)).length : Int) + 1) w hs; rw [g4] at this; exact this⟩)))

set_option maxHeartbeats 2000000 in
theorem walk_neg_neg (s : ByteArray) (i c : Int) (w : World) (hs : s.size ≤ 9223372036854775807) (hi : i ≤ 9223372036854775807) (h : i < 0) (k : Ans s 11 i 0 6) (b : AnsB s i false) (g : c < 0) (m : Ans s 10 c 0 6) :
    Calls Try.prog 7 #[.string s, .int .i64 i, .int .i64 c] w fun e w' => e = .returned (.bool true) ∧ Below w.heap.size w w' := by
  have K := hide k
  have B := hide b
  have M := hide m
  clear k b m
  have M0 := hide trivial
  go_enter Try.func7, Try.ntmps7
  go_wp2_with (first | (go_at_call 9; refine (awake_any _).mono ?_; rintro e w1 ⟨rfl, hB1⟩) | (go_at_call 11; clear M0; refine (K.out _).mono ?_; rintro e w2 ⟨rfl, hB2⟩) | (go_at_call 13; refine (B.out _).mono ?_; rintro e w3 ⟨rfl, hB3⟩) | (go_at_call 10; refine (M.out _).mono ?_; rintro e w6 ⟨rfl, hB6⟩))
  go_ret
  exact ⟨rfl, bseq (bseq (bseq hB1 hB2) hB3) hB6⟩

set_option maxHeartbeats 2000000 in
theorem walk_neg_over (s : ByteArray) (i c : Int) (w : World) (hs : s.size ≤ 9223372036854775807) (hi : i ≤ 9223372036854775807) (h : i < 0) (k : Ans s 11 i 0 6) (b : AnsB s i false) (n2 : Nat) (hn2 : n2 ≤ 9223372036854775807) (hc : ∀ w, Calls Try.prog 14 #[.string s] w fun e w' => e = .returned (.int .i64 n2) ∧ Below w.heap.size w w') (g0 : 0 ≤ c) (g : (n2 : Int) < c) (m : Ans s 10 c 0 6) :
    Calls Try.prog 7 #[.string s, .int .i64 i, .int .i64 c] w fun e w' => e = .returned (.bool true) ∧ Below w.heap.size w w' := by
  have K := hide k
  have B := hide b
  have M := hide m
  have C := hide hc
  clear k b m hc
  have M0 := hide trivial
  go_enter Try.func7, Try.ntmps7
  go_wp2_with (first | (go_at_call 9; refine (awake_any _).mono ?_; rintro e w1 ⟨rfl, hB1⟩) | (go_at_call 11; clear M0; refine (K.out _).mono ?_; rintro e w2 ⟨rfl, hB2⟩) | (go_at_call 13; refine (B.out _).mono ?_; rintro e w3 ⟨rfl, hB3⟩) | (go_at_call 10; refine (M.out _).mono ?_; rintro e w6 ⟨rfl, hB6⟩) | (go_at_call 14; refine (C.out _).mono ?_; rintro e w7 ⟨rfl, hB7⟩))
  go_ret
  exact ⟨rfl, bseq (bseq (bseq (bseq hB1 hB2) hB3) hB6) hB7⟩

set_option maxHeartbeats 2000000 in
theorem walk_neg_good (s : ByteArray) (i c : Int) (w : World) (hs : s.size ≤ 9223372036854775807) (hi : i ≤ 9223372036854775807) (h : i < 0) (k : Ans s 11 i 0 6) (b : AnsB s i false) (n2 : Nat) (hn2 : n2 ≤ 9223372036854775807) (hc : ∀ w, Calls Try.prog 14 #[.string s] w fun e w' => e = .returned (.int .i64 n2) ∧ Below w.heap.size w w') (g0 : 0 ≤ c) (g : c ≤ (n2 : Int)) (p2 : Nat) (m : Ans s 10 c p2 0) (o : Ans s 11 p2 c 0) :
    Calls Try.prog 7 #[.string s, .int .i64 i, .int .i64 c] w fun e w' => e = .returned (.bool true) ∧ Below w.heap.size w w' := by
  have K := hide k
  have B := hide b
  have M := hide m
  have C := hide hc
  have O := hide o
  clear k b m hc o
  have M0 := hide trivial
  have hcc : (c == c) = true := by simp
  go_enter Try.func7, Try.ntmps7
  go_wp2_with (first | (go_at_call 9; refine (awake_any _).mono ?_; rintro e w1 ⟨rfl, hB1⟩) | (go_at_call 11; clear M0; refine (K.out _).mono ?_; rintro e w2 ⟨rfl, hB2⟩) | (go_at_call 13; refine (B.out _).mono ?_; rintro e w3 ⟨rfl, hB3⟩) | (go_at_call 10; refine (M.out _).mono ?_; rintro e w6 ⟨rfl, hB6⟩) | (go_at_call 14; refine (C.out _).mono ?_; rintro e w7 ⟨rfl, hB7⟩) | (go_at_call 11; refine (O.out _).mono ?_; rintro e w8 ⟨rfl, hB8⟩))
  go_ret
  exact ⟨rfl, bseq (bseq (bseq (bseq (bseq hB1 hB2) hB3) hB6) hB7) hB8⟩

set_option maxHeartbeats 2000000 in
theorem walk_over_neg (s : ByteArray) (i c : Int) (w : World) (hs : s.size ≤ 9223372036854775807) (hi : i ≤ 9223372036854775807) (h0 : 0 ≤ i) (h : (s.size : Int) < i) (k : Ans s 11 i 0 6) (b : AnsB s i false) (g : c < 0) (m : Ans s 10 c 0 6) :
    Calls Try.prog 7 #[.string s, .int .i64 i, .int .i64 c] w fun e w' => e = .returned (.bool true) ∧ Below w.heap.size w w' := by
  have K := hide k
  have B := hide b
  have M := hide m
  clear k b m
  have M0 := hide trivial
  go_enter Try.func7, Try.ntmps7
  go_wp2_with (first | (go_at_call 9; refine (awake_any _).mono ?_; rintro e w1 ⟨rfl, hB1⟩) | (go_at_call 11; clear M0; refine (K.out _).mono ?_; rintro e w2 ⟨rfl, hB2⟩) | (go_at_call 13; refine (B.out _).mono ?_; rintro e w3 ⟨rfl, hB3⟩) | (go_at_call 10; refine (M.out _).mono ?_; rintro e w6 ⟨rfl, hB6⟩))
  go_ret
  exact ⟨rfl, bseq (bseq (bseq hB1 hB2) hB3) hB6⟩

set_option maxHeartbeats 2000000 in
theorem walk_over_over (s : ByteArray) (i c : Int) (w : World) (hs : s.size ≤ 9223372036854775807) (hi : i ≤ 9223372036854775807) (h0 : 0 ≤ i) (h : (s.size : Int) < i) (k : Ans s 11 i 0 6) (b : AnsB s i false) (n2 : Nat) (hn2 : n2 ≤ 9223372036854775807) (hc : ∀ w, Calls Try.prog 14 #[.string s] w fun e w' => e = .returned (.int .i64 n2) ∧ Below w.heap.size w w') (g0 : 0 ≤ c) (g : (n2 : Int) < c) (m : Ans s 10 c 0 6) :
    Calls Try.prog 7 #[.string s, .int .i64 i, .int .i64 c] w fun e w' => e = .returned (.bool true) ∧ Below w.heap.size w w' := by
  have K := hide k
  have B := hide b
  have M := hide m
  have C := hide hc
  clear k b m hc
  have M0 := hide trivial
  go_enter Try.func7, Try.ntmps7
  go_wp2_with (first | (go_at_call 9; refine (awake_any _).mono ?_; rintro e w1 ⟨rfl, hB1⟩) | (go_at_call 11; clear M0; refine (K.out _).mono ?_; rintro e w2 ⟨rfl, hB2⟩) | (go_at_call 13; refine (B.out _).mono ?_; rintro e w3 ⟨rfl, hB3⟩) | (go_at_call 10; refine (M.out _).mono ?_; rintro e w6 ⟨rfl, hB6⟩) | (go_at_call 14; refine (C.out _).mono ?_; rintro e w7 ⟨rfl, hB7⟩))
  go_ret
  exact ⟨rfl, bseq (bseq (bseq (bseq hB1 hB2) hB3) hB6) hB7⟩

set_option maxHeartbeats 2000000 in
theorem walk_over_good (s : ByteArray) (i c : Int) (w : World) (hs : s.size ≤ 9223372036854775807) (hi : i ≤ 9223372036854775807) (h0 : 0 ≤ i) (h : (s.size : Int) < i) (k : Ans s 11 i 0 6) (b : AnsB s i false) (n2 : Nat) (hn2 : n2 ≤ 9223372036854775807) (hc : ∀ w, Calls Try.prog 14 #[.string s] w fun e w' => e = .returned (.int .i64 n2) ∧ Below w.heap.size w w') (g0 : 0 ≤ c) (g : c ≤ (n2 : Int)) (p2 : Nat) (m : Ans s 10 c p2 0) (o : Ans s 11 p2 c 0) :
    Calls Try.prog 7 #[.string s, .int .i64 i, .int .i64 c] w fun e w' => e = .returned (.bool true) ∧ Below w.heap.size w w' := by
  have K := hide k
  have B := hide b
  have M := hide m
  have C := hide hc
  have O := hide o
  clear k b m hc o
  have M0 := hide trivial
  have hcc : (c == c) = true := by simp
  go_enter Try.func7, Try.ntmps7
  go_wp2_with (first | (go_at_call 9; refine (awake_any _).mono ?_; rintro e w1 ⟨rfl, hB1⟩) | (go_at_call 11; clear M0; refine (K.out _).mono ?_; rintro e w2 ⟨rfl, hB2⟩) | (go_at_call 13; refine (B.out _).mono ?_; rintro e w3 ⟨rfl, hB3⟩) | (go_at_call 10; refine (M.out _).mono ?_; rintro e w6 ⟨rfl, hB6⟩) | (go_at_call 14; refine (C.out _).mono ?_; rintro e w7 ⟨rfl, hB7⟩) | (go_at_call 11; refine (O.out _).mono ?_; rintro e w8 ⟨rfl, hB8⟩))
  go_ret
  exact ⟨rfl, bseq (bseq (bseq (bseq (bseq hB1 hB2) hB3) hB6) hB7) hB8⟩

set_option maxHeartbeats 2000000 in
theorem walk_at_neg (s : ByteArray) (i c : Int) (w : World) (hs : s.size ≤ 9223372036854775807) (hi : i ≤ 9223372036854775807) (n : Nat) (hn : n < 9223372036854775807) (nx : Nat) (h0 : 0 ≤ i) (h1 : i < (s.size : Int)) (k : Ans s 11 i n 0) (b : AnsB s i true) (a1 : Ans s 10 n i 0) (a2 : Ans s 10 ((n : Int) + 1) nx 0) (hx : i < (nx : Int)) (g : c < 0) (m : Ans s 10 c 0 6) :
    Calls Try.prog 7 #[.string s, .int .i64 i, .int .i64 c] w fun e w' => e = .returned (.bool true) ∧ Below w.heap.size w w' := by
  have K := hide k
  have B := hide b
  have M := hide m
  have A1 := hide a1
  have A2 := hide a2
  clear k b m a1 a2
  have M0 := hide trivial
  have M1 := hide trivial
  have M2 := hide trivial
  have hii : (i == i) = true := by simp
  go_enter Try.func7, Try.ntmps7
  go_wp2_with (first | (go_at_call 9; refine (awake_any _).mono ?_; rintro e w1 ⟨rfl, hB1⟩) | (go_at_call 11; clear M0; refine (K.out _).mono ?_; rintro e w2 ⟨rfl, hB2⟩) | (go_at_call 13; refine (B.out _).mono ?_; rintro e w3 ⟨rfl, hB3⟩) | (go_at_call 10; clear M1; refine (A1.out _).mono ?_; rintro e w4 ⟨rfl, hB4⟩) | (go_at_call 10; clear M2; refine (A2.out _).mono ?_; rintro e w5 ⟨rfl, hB5⟩) | (go_at_call 10; refine (M.out _).mono ?_; rintro e w6 ⟨rfl, hB6⟩))
  go_ret
  exact ⟨rfl, bseq (bseq (bseq (bseq (bseq hB1 hB2) hB4) hB3) hB5) hB6⟩

set_option maxHeartbeats 2000000 in
theorem walk_at_over (s : ByteArray) (i c : Int) (w : World) (hs : s.size ≤ 9223372036854775807) (hi : i ≤ 9223372036854775807) (n : Nat) (hn : n < 9223372036854775807) (nx : Nat) (h0 : 0 ≤ i) (h1 : i < (s.size : Int)) (k : Ans s 11 i n 0) (b : AnsB s i true) (a1 : Ans s 10 n i 0) (a2 : Ans s 10 ((n : Int) + 1) nx 0) (hx : i < (nx : Int)) (n2 : Nat) (hn2 : n2 ≤ 9223372036854775807) (hc : ∀ w, Calls Try.prog 14 #[.string s] w fun e w' => e = .returned (.int .i64 n2) ∧ Below w.heap.size w w') (g0 : 0 ≤ c) (g : (n2 : Int) < c) (m : Ans s 10 c 0 6) :
    Calls Try.prog 7 #[.string s, .int .i64 i, .int .i64 c] w fun e w' => e = .returned (.bool true) ∧ Below w.heap.size w w' := by
  have K := hide k
  have B := hide b
  have M := hide m
  have A1 := hide a1
  have A2 := hide a2
  have C := hide hc
  clear k b m a1 a2 hc
  have M0 := hide trivial
  have M1 := hide trivial
  have M2 := hide trivial
  have hii : (i == i) = true := by simp
  go_enter Try.func7, Try.ntmps7
  go_wp2_with (first | (go_at_call 9; refine (awake_any _).mono ?_; rintro e w1 ⟨rfl, hB1⟩) | (go_at_call 11; clear M0; refine (K.out _).mono ?_; rintro e w2 ⟨rfl, hB2⟩) | (go_at_call 13; refine (B.out _).mono ?_; rintro e w3 ⟨rfl, hB3⟩) | (go_at_call 10; clear M1; refine (A1.out _).mono ?_; rintro e w4 ⟨rfl, hB4⟩) | (go_at_call 10; clear M2; refine (A2.out _).mono ?_; rintro e w5 ⟨rfl, hB5⟩) | (go_at_call 10; refine (M.out _).mono ?_; rintro e w6 ⟨rfl, hB6⟩) | (go_at_call 14; refine (C.out _).mono ?_; rintro e w7 ⟨rfl, hB7⟩))
  go_ret
  exact ⟨rfl, bseq (bseq (bseq (bseq (bseq (bseq hB1 hB2) hB4) hB3) hB5) hB6) hB7⟩

set_option maxHeartbeats 2000000 in
theorem walk_at_good (s : ByteArray) (i c : Int) (w : World) (hs : s.size ≤ 9223372036854775807) (hi : i ≤ 9223372036854775807) (n : Nat) (hn : n < 9223372036854775807) (nx : Nat) (h0 : 0 ≤ i) (h1 : i < (s.size : Int)) (k : Ans s 11 i n 0) (b : AnsB s i true) (a1 : Ans s 10 n i 0) (a2 : Ans s 10 ((n : Int) + 1) nx 0) (hx : i < (nx : Int)) (n2 : Nat) (hn2 : n2 ≤ 9223372036854775807) (hc : ∀ w, Calls Try.prog 14 #[.string s] w fun e w' => e = .returned (.int .i64 n2) ∧ Below w.heap.size w w') (g0 : 0 ≤ c) (g : c ≤ (n2 : Int)) (p2 : Nat) (m : Ans s 10 c p2 0) (o : Ans s 11 p2 c 0) :
    Calls Try.prog 7 #[.string s, .int .i64 i, .int .i64 c] w fun e w' => e = .returned (.bool true) ∧ Below w.heap.size w w' := by
  have K := hide k
  have B := hide b
  have M := hide m
  have A1 := hide a1
  have A2 := hide a2
  have C := hide hc
  have O := hide o
  clear k b m a1 a2 hc o
  have M0 := hide trivial
  have M1 := hide trivial
  have M2 := hide trivial
  have hii : (i == i) = true := by simp
  have hcc : (c == c) = true := by simp
  go_enter Try.func7, Try.ntmps7
  go_wp2_with (first | (go_at_call 9; refine (awake_any _).mono ?_; rintro e w1 ⟨rfl, hB1⟩) | (go_at_call 11; clear M0; refine (K.out _).mono ?_; rintro e w2 ⟨rfl, hB2⟩) | (go_at_call 13; refine (B.out _).mono ?_; rintro e w3 ⟨rfl, hB3⟩) | (go_at_call 10; clear M1; refine (A1.out _).mono ?_; rintro e w4 ⟨rfl, hB4⟩) | (go_at_call 10; clear M2; refine (A2.out _).mono ?_; rintro e w5 ⟨rfl, hB5⟩) | (go_at_call 10; refine (M.out _).mono ?_; rintro e w6 ⟨rfl, hB6⟩) | (go_at_call 14; refine (C.out _).mono ?_; rintro e w7 ⟨rfl, hB7⟩) | (go_at_call 11; refine (O.out _).mono ?_; rintro e w8 ⟨rfl, hB8⟩))
  go_ret
  exact ⟨rfl, bseq (bseq (bseq (bseq (bseq (bseq (bseq hB1 hB2) hB4) hB3) hB5) hB6) hB7) hB8⟩

set_option maxHeartbeats 2000000 in
theorem walk_in_neg (s : ByteArray) (i c : Int) (w : World) (hs : s.size ≤ 9223372036854775807) (hi : i ≤ 9223372036854775807) (n : Nat) (hn : n < 9223372036854775807) (p nx : Nat) (h0 : 0 ≤ i) (h1 : i < (s.size : Int)) (h2 : (p : Int) < i) (h3 : i - (p : Int) ≤ 3) (k : Ans s 11 i n 0) (b : AnsB s i false) (a1 : Ans s 10 n p 0) (a2 : Ans s 10 ((n : Int) + 1) nx 0) (hx : i < (nx : Int)) (g : c < 0) (m : Ans s 10 c 0 6) :
    Calls Try.prog 7 #[.string s, .int .i64 i, .int .i64 c] w fun e w' => e = .returned (.bool true) ∧ Below w.heap.size w w' := by
  have K := hide k
  have B := hide b
  have M := hide m
  have A1 := hide a1
  have A2 := hide a2
  clear k b m a1 a2
  have M0 := hide trivial
  have M1 := hide trivial
  have M2 := hide trivial
  have hpi : ((p : Int) == i) = false := by simp; omega
  go_enter Try.func7, Try.ntmps7
  go_wp2_with (first | (go_at_call 9; refine (awake_any _).mono ?_; rintro e w1 ⟨rfl, hB1⟩) | (go_at_call 11; clear M0; refine (K.out _).mono ?_; rintro e w2 ⟨rfl, hB2⟩) | (go_at_call 13; refine (B.out _).mono ?_; rintro e w3 ⟨rfl, hB3⟩) | (go_at_call 10; clear M1; refine (A1.out _).mono ?_; rintro e w4 ⟨rfl, hB4⟩) | (go_at_call 10; clear M2; refine (A2.out _).mono ?_; rintro e w5 ⟨rfl, hB5⟩) | (go_at_call 10; refine (M.out _).mono ?_; rintro e w6 ⟨rfl, hB6⟩))
  go_ret
  exact ⟨rfl, bseq (bseq (bseq (bseq (bseq hB1 hB2) hB4) hB3) hB5) hB6⟩

set_option maxHeartbeats 2000000 in
theorem walk_in_over (s : ByteArray) (i c : Int) (w : World) (hs : s.size ≤ 9223372036854775807) (hi : i ≤ 9223372036854775807) (n : Nat) (hn : n < 9223372036854775807) (p nx : Nat) (h0 : 0 ≤ i) (h1 : i < (s.size : Int)) (h2 : (p : Int) < i) (h3 : i - (p : Int) ≤ 3) (k : Ans s 11 i n 0) (b : AnsB s i false) (a1 : Ans s 10 n p 0) (a2 : Ans s 10 ((n : Int) + 1) nx 0) (hx : i < (nx : Int)) (n2 : Nat) (hn2 : n2 ≤ 9223372036854775807) (hc : ∀ w, Calls Try.prog 14 #[.string s] w fun e w' => e = .returned (.int .i64 n2) ∧ Below w.heap.size w w') (g0 : 0 ≤ c) (g : (n2 : Int) < c) (m : Ans s 10 c 0 6) :
    Calls Try.prog 7 #[.string s, .int .i64 i, .int .i64 c] w fun e w' => e = .returned (.bool true) ∧ Below w.heap.size w w' := by
  have K := hide k
  have B := hide b
  have M := hide m
  have A1 := hide a1
  have A2 := hide a2
  have C := hide hc
  clear k b m a1 a2 hc
  have M0 := hide trivial
  have M1 := hide trivial
  have M2 := hide trivial
  have hpi : ((p : Int) == i) = false := by simp; omega
  go_enter Try.func7, Try.ntmps7
  go_wp2_with (first | (go_at_call 9; refine (awake_any _).mono ?_; rintro e w1 ⟨rfl, hB1⟩) | (go_at_call 11; clear M0; refine (K.out _).mono ?_; rintro e w2 ⟨rfl, hB2⟩) | (go_at_call 13; refine (B.out _).mono ?_; rintro e w3 ⟨rfl, hB3⟩) | (go_at_call 10; clear M1; refine (A1.out _).mono ?_; rintro e w4 ⟨rfl, hB4⟩) | (go_at_call 10; clear M2; refine (A2.out _).mono ?_; rintro e w5 ⟨rfl, hB5⟩) | (go_at_call 10; refine (M.out _).mono ?_; rintro e w6 ⟨rfl, hB6⟩) | (go_at_call 14; refine (C.out _).mono ?_; rintro e w7 ⟨rfl, hB7⟩))
  go_ret
  exact ⟨rfl, bseq (bseq (bseq (bseq (bseq (bseq hB1 hB2) hB4) hB3) hB5) hB6) hB7⟩

set_option maxHeartbeats 2000000 in
theorem walk_in_good (s : ByteArray) (i c : Int) (w : World) (hs : s.size ≤ 9223372036854775807) (hi : i ≤ 9223372036854775807) (n : Nat) (hn : n < 9223372036854775807) (p nx : Nat) (h0 : 0 ≤ i) (h1 : i < (s.size : Int)) (h2 : (p : Int) < i) (h3 : i - (p : Int) ≤ 3) (k : Ans s 11 i n 0) (b : AnsB s i false) (a1 : Ans s 10 n p 0) (a2 : Ans s 10 ((n : Int) + 1) nx 0) (hx : i < (nx : Int)) (n2 : Nat) (hn2 : n2 ≤ 9223372036854775807) (hc : ∀ w, Calls Try.prog 14 #[.string s] w fun e w' => e = .returned (.int .i64 n2) ∧ Below w.heap.size w w') (g0 : 0 ≤ c) (g : c ≤ (n2 : Int)) (p2 : Nat) (m : Ans s 10 c p2 0) (o : Ans s 11 p2 c 0) :
    Calls Try.prog 7 #[.string s, .int .i64 i, .int .i64 c] w fun e w' => e = .returned (.bool true) ∧ Below w.heap.size w w' := by
  have K := hide k
  have B := hide b
  have M := hide m
  have A1 := hide a1
  have A2 := hide a2
  have C := hide hc
  have O := hide o
  clear k b m a1 a2 hc o
  have M0 := hide trivial
  have M1 := hide trivial
  have M2 := hide trivial
  have hpi : ((p : Int) == i) = false := by simp; omega
  have hcc : (c == c) = true := by simp
  go_enter Try.func7, Try.ntmps7
  go_wp2_with (first | (go_at_call 9; refine (awake_any _).mono ?_; rintro e w1 ⟨rfl, hB1⟩) | (go_at_call 11; clear M0; refine (K.out _).mono ?_; rintro e w2 ⟨rfl, hB2⟩) | (go_at_call 13; refine (B.out _).mono ?_; rintro e w3 ⟨rfl, hB3⟩) | (go_at_call 10; clear M1; refine (A1.out _).mono ?_; rintro e w4 ⟨rfl, hB4⟩) | (go_at_call 10; clear M2; refine (A2.out _).mono ?_; rintro e w5 ⟨rfl, hB5⟩) | (go_at_call 10; refine (M.out _).mono ?_; rintro e w6 ⟨rfl, hB6⟩) | (go_at_call 14; refine (C.out _).mono ?_; rintro e w7 ⟨rfl, hB7⟩) | (go_at_call 11; refine (O.out _).mono ?_; rintro e w8 ⟨rfl, hB8⟩))
  go_ret
  exact ⟨rfl, bseq (bseq (bseq (bseq (bseq (bseq (bseq hB1 hB2) hB4) hB3) hB5) hB6) hB7) hB8⟩

set_option maxHeartbeats 2000000 in
theorem walk_end_neg (s : ByteArray) (i c : Int) (w : World) (hs : s.size ≤ 9223372036854775807) (hi : i ≤ 9223372036854775807) (n : Nat) (hn : n < 9223372036854775807) (he : (i == (s.size : Int)) = true) (h0 : 0 ≤ i) (h1 : (s.size : Int) ≤ i) (h2 : i ≤ (s.size : Int)) (k : Ans s 11 i n 0) (b : AnsB s i true) (a1 : Ans s 10 n i 0) (a2 : Ans s 10 ((n : Int) + 1) 0 6) (g : c < 0) (m : Ans s 10 c 0 6) :
    Calls Try.prog 7 #[.string s, .int .i64 i, .int .i64 c] w fun e w' => e = .returned (.bool true) ∧ Below w.heap.size w w' := by
  have K := hide k
  have B := hide b
  have M := hide m
  have A1 := hide a1
  have A2 := hide a2
  clear k b m a1 a2
  have M0 := hide trivial
  have M1 := hide trivial
  have M2 := hide trivial
  go_enter Try.func7, Try.ntmps7
  go_wp2_with (first | (go_at_call 9; refine (awake_any _).mono ?_; rintro e w1 ⟨rfl, hB1⟩) | (go_at_call 11; clear M0; refine (K.out _).mono ?_; rintro e w2 ⟨rfl, hB2⟩) | (go_at_call 13; refine (B.out _).mono ?_; rintro e w3 ⟨rfl, hB3⟩) | (go_at_call 10; clear M1; refine (A1.out _).mono ?_; rintro e w4 ⟨rfl, hB4⟩) | (go_at_call 10; clear M2; refine (A2.out _).mono ?_; rintro e w5 ⟨rfl, hB5⟩) | (go_at_call 10; refine (M.out _).mono ?_; rintro e w6 ⟨rfl, hB6⟩))
  go_ret
  exact ⟨rfl, bseq (bseq (bseq (bseq (bseq hB1 hB2) hB4) hB3) hB5) hB6⟩

set_option maxHeartbeats 2000000 in
theorem walk_end_over (s : ByteArray) (i c : Int) (w : World) (hs : s.size ≤ 9223372036854775807) (hi : i ≤ 9223372036854775807) (n : Nat) (hn : n < 9223372036854775807) (he : (i == (s.size : Int)) = true) (h0 : 0 ≤ i) (h1 : (s.size : Int) ≤ i) (h2 : i ≤ (s.size : Int)) (k : Ans s 11 i n 0) (b : AnsB s i true) (a1 : Ans s 10 n i 0) (a2 : Ans s 10 ((n : Int) + 1) 0 6) (n2 : Nat) (hn2 : n2 ≤ 9223372036854775807) (hc : ∀ w, Calls Try.prog 14 #[.string s] w fun e w' => e = .returned (.int .i64 n2) ∧ Below w.heap.size w w') (g0 : 0 ≤ c) (g : (n2 : Int) < c) (m : Ans s 10 c 0 6) :
    Calls Try.prog 7 #[.string s, .int .i64 i, .int .i64 c] w fun e w' => e = .returned (.bool true) ∧ Below w.heap.size w w' := by
  have K := hide k
  have B := hide b
  have M := hide m
  have A1 := hide a1
  have A2 := hide a2
  have C := hide hc
  clear k b m a1 a2 hc
  have M0 := hide trivial
  have M1 := hide trivial
  have M2 := hide trivial
  go_enter Try.func7, Try.ntmps7
  go_wp2_with (first | (go_at_call 9; refine (awake_any _).mono ?_; rintro e w1 ⟨rfl, hB1⟩) | (go_at_call 11; clear M0; refine (K.out _).mono ?_; rintro e w2 ⟨rfl, hB2⟩) | (go_at_call 13; refine (B.out _).mono ?_; rintro e w3 ⟨rfl, hB3⟩) | (go_at_call 10; clear M1; refine (A1.out _).mono ?_; rintro e w4 ⟨rfl, hB4⟩) | (go_at_call 10; clear M2; refine (A2.out _).mono ?_; rintro e w5 ⟨rfl, hB5⟩) | (go_at_call 10; refine (M.out _).mono ?_; rintro e w6 ⟨rfl, hB6⟩) | (go_at_call 14; refine (C.out _).mono ?_; rintro e w7 ⟨rfl, hB7⟩))
  go_ret
  exact ⟨rfl, bseq (bseq (bseq (bseq (bseq (bseq hB1 hB2) hB4) hB3) hB5) hB6) hB7⟩

set_option maxHeartbeats 2000000 in
theorem walk_end_good (s : ByteArray) (i c : Int) (w : World) (hs : s.size ≤ 9223372036854775807) (hi : i ≤ 9223372036854775807) (n : Nat) (hn : n < 9223372036854775807) (he : (i == (s.size : Int)) = true) (h0 : 0 ≤ i) (h1 : (s.size : Int) ≤ i) (h2 : i ≤ (s.size : Int)) (k : Ans s 11 i n 0) (b : AnsB s i true) (a1 : Ans s 10 n i 0) (a2 : Ans s 10 ((n : Int) + 1) 0 6) (n2 : Nat) (hn2 : n2 ≤ 9223372036854775807) (hc : ∀ w, Calls Try.prog 14 #[.string s] w fun e w' => e = .returned (.int .i64 n2) ∧ Below w.heap.size w w') (g0 : 0 ≤ c) (g : c ≤ (n2 : Int)) (p2 : Nat) (m : Ans s 10 c p2 0) (o : Ans s 11 p2 c 0) :
    Calls Try.prog 7 #[.string s, .int .i64 i, .int .i64 c] w fun e w' => e = .returned (.bool true) ∧ Below w.heap.size w w' := by
  have K := hide k
  have B := hide b
  have M := hide m
  have A1 := hide a1
  have A2 := hide a2
  have C := hide hc
  have O := hide o
  clear k b m a1 a2 hc o
  have M0 := hide trivial
  have M1 := hide trivial
  have M2 := hide trivial
  have hcc : (c == c) = true := by simp
  go_enter Try.func7, Try.ntmps7
  go_wp2_with (first | (go_at_call 9; refine (awake_any _).mono ?_; rintro e w1 ⟨rfl, hB1⟩) | (go_at_call 11; clear M0; refine (K.out _).mono ?_; rintro e w2 ⟨rfl, hB2⟩) | (go_at_call 13; refine (B.out _).mono ?_; rintro e w3 ⟨rfl, hB3⟩) | (go_at_call 10; clear M1; refine (A1.out _).mono ?_; rintro e w4 ⟨rfl, hB4⟩) | (go_at_call 10; clear M2; refine (A2.out _).mono ?_; rintro e w5 ⟨rfl, hB5⟩) | (go_at_call 10; refine (M.out _).mono ?_; rintro e w6 ⟨rfl, hB6⟩) | (go_at_call 14; refine (C.out _).mono ?_; rintro e w7 ⟨rfl, hB7⟩) | (go_at_call 11; refine (O.out _).mono ?_; rintro e w8 ⟨rfl, hB8⟩))
  go_ret
  exact ⟨rfl, bseq (bseq (bseq (bseq (bseq (bseq (bseq hB1 hB2) hB4) hB3) hB5) hB6) hB7) hB8⟩

theorem walk (s : ByteArray) (i c : Int) (w : World) (hs : s.size ≤ 9223372036854775806) (hi : i ≤ 9223372036854775807) :
    Calls Try.prog 7 #[.string s, .int .i64 i, .int .i64 c] w fun e w' => e = .returned (.bool true) ∧ Below w.heap.size w w' := by
  have hs7 : s.size ≤ 9223372036854775807 := by omega
  rcases half1 s i hs7 with ⟨h, k, b⟩ | ⟨h0, h, k, b⟩ | ⟨n, hn, nx, h0, h1, k, b, a1, a2, hx⟩ | ⟨n, hn, p, nx, h0, h1, h2, h3, k, b, a1, a2, hx⟩ | ⟨n, hn, he, h0, h1, h2, k, b, a1, a2⟩
  · rcases half2 s c hs7 with ⟨g, m⟩ | ⟨n2, hn2, hc, g0, g, m⟩ | ⟨n2, hn2, hc, g0, g, p2, m, o⟩
    · exact walk_neg_neg s i c w hs7 hi h k b g m
    · exact walk_neg_over s i c w hs7 hi h k b n2 hn2 hc g0 g m
    · exact walk_neg_good s i c w hs7 hi h k b n2 hn2 hc g0 g p2 m o
  · rcases half2 s c hs7 with ⟨g, m⟩ | ⟨n2, hn2, hc, g0, g, m⟩ | ⟨n2, hn2, hc, g0, g, p2, m, o⟩
    · exact walk_over_neg s i c w hs7 hi h0 h k b g m
    · exact walk_over_over s i c w hs7 hi h0 h k b n2 hn2 hc g0 g m
    · exact walk_over_good s i c w hs7 hi h0 h k b n2 hn2 hc g0 g p2 m o
  · rcases half2 s c hs7 with ⟨g, m⟩ | ⟨n2, hn2, hc, g0, g, m⟩ | ⟨n2, hn2, hc, g0, g, p2, m, o⟩
    · exact walk_at_neg s i c w hs7 hi n hn nx h0 h1 k b a1 a2 hx g m
    · exact walk_at_over s i c w hs7 hi n hn nx h0 h1 k b a1 a2 hx n2 hn2 hc g0 g m
    · exact walk_at_good s i c w hs7 hi n hn nx h0 h1 k b a1 a2 hx n2 hn2 hc g0 g p2 m o
  · rcases half2 s c hs7 with ⟨g, m⟩ | ⟨n2, hn2, hc, g0, g, m⟩ | ⟨n2, hn2, hc, g0, g, p2, m, o⟩
    · exact walk_in_neg s i c w hs7 hi n hn p nx h0 h1 h2 h3 k b a1 a2 hx g m
    · exact walk_in_over s i c w hs7 hi n hn p nx h0 h1 h2 h3 k b a1 a2 hx n2 hn2 hc g0 g m
    · exact walk_in_good s i c w hs7 hi n hn p nx h0 h1 h2 h3 k b a1 a2 hx n2 hn2 hc g0 g p2 m o
  · rcases half2 s c hs7 with ⟨g, m⟩ | ⟨n2, hn2, hc, g0, g, m⟩ | ⟨n2, hn2, hc, g0, g, p2, m, o⟩
    · exact walk_end_neg s i c w hs7 hi n (by omega) he h0 h1 h2 k b a1 a2 g m
    · exact walk_end_over s i c w hs7 hi n (by omega) he h0 h1 h2 k b a1 a2 n2 hn2 hc g0 g m
    · exact walk_end_good s i c w hs7 hi n (by omega) he h0 h1 h2 k b a1 a2 n2 hn2 hc g0 g p2 m o
end Go.Proofs.Ytmidlkjdjohbdab.utfOrder
