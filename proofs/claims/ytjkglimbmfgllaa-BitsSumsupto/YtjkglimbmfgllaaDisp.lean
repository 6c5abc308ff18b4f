/- What the statements' own put, take and cut answer at the widths 1, 2, 4 and 8, and what the document's Take answers. -/
import Derived.Test.YtjkglimbmfgllaaHelp
namespace Go.Proofs.Ytjkglimbmfgllaa
open Go.RowKit
set_option linter.unusedVariables false

theorem ret_int' {k : IntKind} {a b : Int} (h : a = b) : Ending.returned (.int k a) = .returned (.int k b) := by rw [h]

/-- The number of so many bytes at a place, and the error's number. -/
def takeV (bs : List Nat) (p : Int) (n : Nat) : Nat × Int :=
  if p < 0 ∨ (bs.length : Int) - n < p then (0, 6) else (leV ((bs.drop p.toNat).take n), 0)
theorem takeV_lt (bs : List Nat) (p : Int) (n : Nat) (h : ∀ x ∈ bs, x < 256) : (takeV bs p n).1 < 256 ^ n := by
  unfold takeV
  split
  · exact Nat.pow_pos (by omega)
  · refine Nat.lt_of_lt_of_le (leV_lt _ fun x hx => h x (List.mem_of_mem_drop (List.mem_of_mem_take hx))) (Nat.pow_le_pow_right (by omega) (List.length_take_le _ _))
theorem leB_mod (n v : Nat) : leB n (v % 256 ^ n) = leB n v := by
  induction n generalizing v with
  | zero => rfl
  | succ n ih =>
    simp only [leB]
    have e1 : v % 256 ^ (n + 1) % 256 = v % 256 := Nat.mod_mod_of_dvd v ⟨256 ^ n, by rw [Nat.pow_succ, Nat.mul_comm]⟩
    have e2 : v % 256 ^ (n + 1) / 256 = v / 256 % 256 ^ n := by rw [Nat.pow_succ, Nat.mul_comm, Nat.mod_mul_right_div_self]
    rw [e1, e2, ih]

theorem take8_any (a : Option Addr) (cap : Nat) (bs : List Nat) (p : Int) (w : World) (hg : Sl w a bs) (hl : bs.length ≤ maxLen) :
    Calls Try.prog 44 #[.slice a bs.length cap, .int .i64 p] w fun e w' => e = .returned (.tuple #[.int .u8 (takeV bs p 1).1, .int .i64 (takeV bs p 1).2]) ∧ w' = w := by
  unfold takeV
  by_cases h1 : p < 0
  · rw [if_pos (.inl h1)]; exact take8_low a bs.length cap w p h1
  · by_cases h2 : (bs.length : Int) - 1 < p
    · rw [if_pos (.inr h2)]; exact take8_high a bs.length cap w p hl (by omega) h2
    · rw [if_neg (by intro h; rcases h with h | h; exact h1 h; exact h2 h)]
      obtain ⟨q, rfl⟩ := Int.eq_ofNat_of_zero_le (show 0 ≤ p by omega)
      exact take8_good a cap q bs w hg hl (by omega)

set_option maxHeartbeats 400000 in
theorem takeD1 (a : Option Addr) (cap : Nat) (bs : List Nat) (p : Int) (w : World) (hg : Sl w a bs) (hl : bs.length ≤ maxLen) :
    Calls Try.prog 18 #[.slice a bs.length cap, .int .i64 p, .int .i64 1] w fun e w' => e = .returned (.tuple #[.int .u64 (takeV bs p 1).1, .int .i64 (takeV bs p 1).2]) ∧ w' = w := by
  have hc := take8_any a cap bs p w hg hl
  have hlt := takeV_lt bs p 1 hg.lt
  generalize takeV bs p 1 = t at *
  obtain ⟨t1, t2⟩ := t
  have hlt' : t1 < 256 := hlt
  have C := hide hc
  clear hc hlt hg
  go_enter Try.func18, Try.ntmps18
  go_wp2_with (go_at_call 44; refine (unhide C).mono ?_; rintro e w' ⟨rfl, rfl⟩)
  go_ret2
  exact ⟨rfl, rfl⟩

set_option maxHeartbeats 400000 in
theorem putD1 (a : Option Addr) (cap v : Nat) (bs : List Nat) (w : World) (hg : Sl w a bs) (hl : bs.length ≤ 140737488355328) (hv : v < 18446744073709551616) :
    Calls Try.prog 10 #[.slice a bs.length cap, .int .u64 v, .int .i64 1] w fun e w' => e = .returned (.slice (some ⟨w.heap.size, 0, none⟩) (bs.length + 1) (bs.length + 1)) ∧
      Below w.heap.size w w' ∧ OwnB w' w.heap.size (bs ++ leB 1 v) := by
  have hc := put8 a cap (v % 256) bs w hg hl (by omega)
  rw [show leB 1 (v % 256) = leB 1 v from leB_mod 1 v] at hc
  have C := hide hc
  clear hc hg
  go_enter Try.func10, Try.ntmps10
  go_wp2_with fail
  rw [show ((v : Int) % 256) = ((v % 256 : Nat) : Int) by omega]
  refine (unhide C).mono ?_
  rintro e w' ⟨rfl, hB, hO⟩
  have HB := hide hB
  have HO := hide hO
  clear hB hO C
  go_wp2
  go_ret
  exact ⟨rfl, HB.out, HO.out⟩
theorem cutD1 (v : Nat) (w : World) (hv : v < 18446744073709551616) :
    Calls Try.prog 12 #[.int .u64 v, .int .i64 1] w fun e w' => e = .returned (.int .u64 ((v % 256 : Nat) : Int)) ∧ w' = w := by
  go_enter Try.func12, Try.ntmps12
  go_wp2
  go_ret
  exact ⟨ret_int' (by omega), rfl⟩

theorem take16_any (a : Option Addr) (cap : Nat) (bs : List Nat) (p : Int) (w : World) (hg : Sl w a bs) (hl : bs.length ≤ maxLen) :
    Calls Try.prog 43 #[.slice a bs.length cap, .int .i64 p] w fun e w' => e = .returned (.tuple #[.int .u16 (takeV bs p 2).1, .int .i64 (takeV bs p 2).2]) ∧ w' = w := by
  unfold takeV
  by_cases h1 : p < 0
  · rw [if_pos (.inl h1)]; exact take16_low a bs.length cap w p h1
  · by_cases h2 : (bs.length : Int) - 2 < p
    · rw [if_pos (.inr h2)]; exact take16_high a bs.length cap w p hl (by omega) h2
    · rw [if_neg (by intro h; rcases h with h | h; exact h1 h; exact h2 h)]
      obtain ⟨q, rfl⟩ := Int.eq_ofNat_of_zero_le (show 0 ≤ p by omega)
      exact take16_good a cap q bs w hg hl (by omega)

set_option maxHeartbeats 400000 in
theorem takeD2 (a : Option Addr) (cap : Nat) (bs : List Nat) (p : Int) (w : World) (hg : Sl w a bs) (hl : bs.length ≤ maxLen) :
    Calls Try.prog 18 #[.slice a bs.length cap, .int .i64 p, .int .i64 2] w fun e w' => e = .returned (.tuple #[.int .u64 (takeV bs p 2).1, .int .i64 (takeV bs p 2).2]) ∧ w' = w := by
  have hc := take16_any a cap bs p w hg hl
  have hlt := takeV_lt bs p 2 hg.lt
  generalize takeV bs p 2 = t at *
  obtain ⟨t1, t2⟩ := t
  have hlt' : t1 < 65536 := hlt
  have C := hide hc
  clear hc hlt hg
  go_enter Try.func18, Try.ntmps18
  go_wp2_with (go_at_call 43; refine (unhide C).mono ?_; rintro e w' ⟨rfl, rfl⟩)
  go_ret2
  exact ⟨rfl, rfl⟩

set_option maxHeartbeats 400000 in
theorem putD2 (a : Option Addr) (cap v : Nat) (bs : List Nat) (w : World) (hg : Sl w a bs) (hl : bs.length ≤ 140737488355328) (hv : v < 18446744073709551616) :
    Calls Try.prog 10 #[.slice a bs.length cap, .int .u64 v, .int .i64 2] w fun e w' => e = .returned (.slice (some ⟨w.heap.size, 0, none⟩) (bs.length + 2) (bs.length + 2)) ∧
      Below w.heap.size w w' ∧ OwnB w' w.heap.size (bs ++ leB 2 v) := by
  have hc := put16 a cap (v % 65536) bs w hg hl (by omega)
  rw [show leB 2 (v % 65536) = leB 2 v from leB_mod 2 v] at hc
  have C := hide hc
  clear hc hg
  go_enter Try.func10, Try.ntmps10
  go_wp2_with fail
  rw [show IntKind.u16.wrap (v : Int) = ((v % 65536 : Nat) : Int) by rw [IntKind.wrap_u16]; omega]
  refine (unhide C).mono ?_
  rintro e w' ⟨rfl, hB, hO⟩
  have HB := hide hB
  have HO := hide hO
  clear hB hO C
  go_wp2
  go_ret
  exact ⟨rfl, HB.out, HO.out⟩
theorem cutD2 (v : Nat) (w : World) (hv : v < 18446744073709551616) :
    Calls Try.prog 12 #[.int .u64 v, .int .i64 2] w fun e w' => e = .returned (.int .u64 ((v % 65536 : Nat) : Int)) ∧ w' = w := by
  go_enter Try.func12, Try.ntmps12
  go_wp2
  go_ret
  exact ⟨ret_int' (by omega), rfl⟩

theorem take32_any (a : Option Addr) (cap : Nat) (bs : List Nat) (p : Int) (w : World) (hg : Sl w a bs) (hl : bs.length ≤ maxLen) :
    Calls Try.prog 45 #[.slice a bs.length cap, .int .i64 p] w fun e w' => e = .returned (.tuple #[.int .u32 (takeV bs p 4).1, .int .i64 (takeV bs p 4).2]) ∧ w' = w := by
  unfold takeV
  by_cases h1 : p < 0
  · rw [if_pos (.inl h1)]; exact take32_low a bs.length cap w p h1
  · by_cases h2 : (bs.length : Int) - 4 < p
    · rw [if_pos (.inr h2)]; exact take32_high a bs.length cap w p hl (by omega) h2
    · rw [if_neg (by intro h; rcases h with h | h; exact h1 h; exact h2 h)]
      obtain ⟨q, rfl⟩ := Int.eq_ofNat_of_zero_le (show 0 ≤ p by omega)
      exact take32_good a cap q bs w hg hl (by omega)

set_option maxHeartbeats 400000 in
theorem takeD4 (a : Option Addr) (cap : Nat) (bs : List Nat) (p : Int) (w : World) (hg : Sl w a bs) (hl : bs.length ≤ maxLen) :
    Calls Try.prog 18 #[.slice a bs.length cap, .int .i64 p, .int .i64 4] w fun e w' => e = .returned (.tuple #[.int .u64 (takeV bs p 4).1, .int .i64 (takeV bs p 4).2]) ∧ w' = w := by
  have hc := take32_any a cap bs p w hg hl
  have hlt := takeV_lt bs p 4 hg.lt
  generalize takeV bs p 4 = t at *
  obtain ⟨t1, t2⟩ := t
  have hlt' : t1 < 4294967296 := hlt
  have C := hide hc
  clear hc hlt hg
  go_enter Try.func18, Try.ntmps18
  go_wp2_with (go_at_call 45; refine (unhide C).mono ?_; rintro e w' ⟨rfl, rfl⟩)
  go_ret2
  exact ⟨rfl, rfl⟩

set_option maxHeartbeats 400000 in
theorem putD4 (a : Option Addr) (cap v : Nat) (bs : List Nat) (w : World) (hg : Sl w a bs) (hl : bs.length ≤ 140737488355328) (hv : v < 18446744073709551616) :
    Calls Try.prog 10 #[.slice a bs.length cap, .int .u64 v, .int .i64 4] w fun e w' => e = .returned (.slice (some ⟨w.heap.size, 0, none⟩) (bs.length + 4) (bs.length + 4)) ∧
      Below w.heap.size w w' ∧ OwnB w' w.heap.size (bs ++ leB 4 v) := by
  have hc := put32 a cap (v % 4294967296) bs w hg hl (by omega)
  rw [show leB 4 (v % 4294967296) = leB 4 v from leB_mod 4 v] at hc
  have C := hide hc
  clear hc hg
  go_enter Try.func10, Try.ntmps10
  go_wp2_with fail
  rw [show ((v : Int) % 4294967296) = ((v % 4294967296 : Nat) : Int) by omega]
  refine (unhide C).mono ?_
  rintro e w' ⟨rfl, hB, hO⟩
  have HB := hide hB
  have HO := hide hO
  clear hB hO C
  go_wp2
  go_ret
  exact ⟨rfl, HB.out, HO.out⟩
theorem cutD4 (v : Nat) (w : World) (hv : v < 18446744073709551616) :
    Calls Try.prog 12 #[.int .u64 v, .int .i64 4] w fun e w' => e = .returned (.int .u64 ((v % 4294967296 : Nat) : Int)) ∧ w' = w := by
  go_enter Try.func12, Try.ntmps12
  go_wp2
  go_ret
  exact ⟨ret_int' (by omega), rfl⟩

theorem take64_any (a : Option Addr) (cap : Nat) (bs : List Nat) (p : Int) (w : World) (hg : Sl w a bs) (hl : bs.length ≤ maxLen) :
    Calls Try.prog 46 #[.slice a bs.length cap, .int .i64 p] w fun e w' => e = .returned (.tuple #[.int .u64 (takeV bs p 8).1, .int .i64 (takeV bs p 8).2]) ∧ w' = w := by
  unfold takeV
  by_cases h1 : p < 0
  · rw [if_pos (.inl h1)]; exact take64_low a bs.length cap w p h1
  · by_cases h2 : (bs.length : Int) - 8 < p
    · rw [if_pos (.inr h2)]; exact take64_high a bs.length cap w p hl (by omega) h2
    · rw [if_neg (by intro h; rcases h with h | h; exact h1 h; exact h2 h)]
      obtain ⟨q, rfl⟩ := Int.eq_ofNat_of_zero_le (show 0 ≤ p by omega)
      exact take64_good a cap q bs w hg hl (by omega)

set_option maxHeartbeats 400000 in
theorem takeD8 (a : Option Addr) (cap : Nat) (bs : List Nat) (p : Int) (w : World) (hg : Sl w a bs) (hl : bs.length ≤ maxLen) :
    Calls Try.prog 18 #[.slice a bs.length cap, .int .i64 p, .int .i64 8] w fun e w' => e = .returned (.tuple #[.int .u64 (takeV bs p 8).1, .int .i64 (takeV bs p 8).2]) ∧ w' = w := by
  have hc := take64_any a cap bs p w hg hl
  have hlt := takeV_lt bs p 8 hg.lt
  generalize takeV bs p 8 = t at *
  obtain ⟨t1, t2⟩ := t
  have hlt' : t1 < 18446744073709551616 := hlt
  have C := hide hc
  clear hc hlt hg
  go_enter Try.func18, Try.ntmps18
  go_wp2_with (go_at_call 46; refine (unhide C).mono ?_; rintro e w' ⟨rfl, rfl⟩)
  go_ret2
  exact ⟨rfl, rfl⟩

set_option maxHeartbeats 400000 in
theorem putD8 (a : Option Addr) (cap v : Nat) (bs : List Nat) (w : World) (hg : Sl w a bs) (hl : bs.length ≤ 140737488355328) (hv : v < 18446744073709551616) :
    Calls Try.prog 10 #[.slice a bs.length cap, .int .u64 v, .int .i64 8] w fun e w' => e = .returned (.slice (some ⟨w.heap.size, 0, none⟩) (bs.length + 8) (bs.length + 8)) ∧
      Below w.heap.size w w' ∧ OwnB w' w.heap.size (bs ++ leB 8 v) := by
  have hc := put64 a cap (v % 18446744073709551616) bs w hg hl (by omega)
  rw [show leB 8 (v % 18446744073709551616) = leB 8 v from leB_mod 8 v] at hc
  have C := hide hc
  clear hc hg
  go_enter Try.func10, Try.ntmps10
  go_wp2_with fail
  rw [show v % 18446744073709551616 = v by omega] at C
  refine (unhide C).mono ?_
  rintro e w' ⟨rfl, hB, hO⟩
  have HB := hide hB
  have HO := hide hO
  clear hB hO C
  go_wp2
  go_ret
  exact ⟨rfl, HB.out, HO.out⟩
theorem cutD8 (v : Nat) (w : World) (hv : v < 18446744073709551616) :
    Calls Try.prog 12 #[.int .u64 v, .int .i64 8] w fun e w' => e = .returned (.int .u64 ((v % 18446744073709551616 : Nat) : Int)) ∧ w' = w := by
  go_enter Try.func12, Try.ntmps12
  go_wp2
  go_ret
  exact ⟨ret_int' (by omega), rfl⟩

end Go.Proofs.Ytjkglimbmfgllaa
