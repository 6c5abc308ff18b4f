/- Plain Lean: a right sequence is one that is written for its number: the document's way to say which bytes are right, against the table. -/
import Derived.Test.YtaljllbfedfpoaaGreatDoorUChars
namespace Go.Proofs.YtaljllbfedfpoaaGreatDoor
set_option linter.unusedVariables false

/-- The bytes that are written for a number. -/
def seqV (n : Nat) : List Nat :=
  if n < 128 then [n] else if n < 2048 then [192 + n / 64, 128 + n % 64] else if n < 65536 then [224 + n / 4096, 128 + n / 64 % 64, 128 + n % 64]
  else [240 + n / 262144, 128 + n / 4096 % 64, 128 + n / 64 % 64, 128 + n % 64]
def mayB (n : Int) : Bool := decide (0 ≤ n ∧ n ≤ 1114111 ∧ (n < 55296 ∨ 57343 < n))
/-- The number that w bytes say. -/
def numV (l : List UInt8) (w : Nat) : Int :=
  if w = 1 then (by' l 0 : Int) else if w = 2 then ((by' l 0 : Int) - 192) * 64 + (by' l 1 : Int) % 64
  else if w = 3 then (((by' l 0 : Int) - 224) * 64 + (by' l 1 : Int) % 64) * 64 + (by' l 2 : Int) % 64
  else ((((by' l 0 : Int) - 240) * 64 + (by' l 1 : Int) % 64) * 64 + (by' l 2 : Int) % 64) * 64 + (by' l 3 : Int) % 64
def begB (l : List UInt8) (bs : List Nat) : Bool := decide (bs.length ≤ l.length ∧ ∀ i, i < bs.length → by' l i = bs.getD i 0)

theorem seqV_len (n : Nat) : 1 ≤ (seqV n).length ∧ (seqV n).length ≤ 4 := by
  unfold seqV
  repeat' split
  all_goals simp
theorem seqV_byte (n : Nat) (h : n ≤ 1114111) : ∀ x ∈ seqV n, x < 256 := by
  intro x hx
  unfold seqV at hx
  split at hx
  · simp at hx; omega
  · split at hx
    · simp at hx; omega
    · split at hx
      · simp at hx; omega
      · simp at hx; omega
theorem numV_bound (l : List UInt8) (w : Nat) : -100000000 ≤ numV l w ∧ numV l w ≤ 100000000 := by
  have h0 := by'_lt l 0
  have h1 := by'_lt l 1
  have h2 := by'_lt l 2
  have h3 := by'_lt l 3
  unfold numV
  repeat' split
  all_goals omega

/-- Whether w bytes are what is written for the number that they say. -/
def okB (l : List UInt8) (w : Nat) : Bool := mayB (numV l w) && begB l (seqV (numV l w).toNat) && decide ((seqV (numV l w).toNat).length = w)

theorem need3 {b0 b1 : Nat} : need b0 b1 = 3 ↔ (b0 = 224 ∧ 160 ≤ b1 ∧ b1 ≤ 191) ∨ (225 ≤ b0 ∧ b0 ≤ 236 ∧ 128 ≤ b1 ∧ b1 ≤ 191) ∨ (b0 = 237 ∧ 128 ≤ b1 ∧ b1 ≤ 159) ∨ (238 ≤ b0 ∧ b0 ≤ 239 ∧ 128 ≤ b1 ∧ b1 ≤ 191) := by
  unfold need
  split
  · omega
  · split
    · omega
    · split
      · omega
      · split <;> omega
theorem need4 {b0 b1 : Nat} : need b0 b1 = 4 ↔ (b0 = 240 ∧ 144 ≤ b1 ∧ b1 ≤ 191) ∨ (241 ≤ b0 ∧ b0 ≤ 243 ∧ 128 ≤ b1 ∧ b1 ≤ 191) ∨ (b0 = 244 ∧ 128 ≤ b1 ∧ b1 ≤ 143) := by
  unfold need
  split
  · omega
  · split
    · omega
    · split
      · omega
      · split <;> omega
theorem need2 {b0 b1 : Nat} : need b0 b1 = 2 ↔ 194 ≤ b0 ∧ b0 ≤ 223 ∧ 128 ≤ b1 ∧ b1 ≤ 191 := by
  unfold need
  split
  · omega
  · split
    · omega
    · split
      · omega
      · split <;> omega
theorem wd_1 {b0 b1 b2 b3 : Nat} : wd b0 b1 b2 b3 = 1 ↔ b0 < 128 := by
  rcases wd_cases b0 b1 b2 b3 with g | g | g | g | g <;> omega
theorem wd_2 {b0 b1 b2 b3 : Nat} : wd b0 b1 b2 b3 = 2 ↔ need b0 b1 = 2 := by
  rcases wd_cases b0 b1 b2 b3 with g | g | g | g | g <;> omega
theorem wd_3 {b0 b1 b2 b3 : Nat} : wd b0 b1 b2 b3 = 3 ↔ need b0 b1 = 3 ∧ 128 ≤ b2 ∧ b2 ≤ 191 := by
  rcases wd_cases b0 b1 b2 b3 with g | g | g | g | g
  all_goals (try unfold Co at g); omega
theorem wd_4 {b0 b1 b2 b3 : Nat} : wd b0 b1 b2 b3 = 4 ↔ need b0 b1 = 4 ∧ 128 ≤ b2 ∧ b2 ≤ 191 ∧ 128 ≤ b3 ∧ b3 ≤ 191 := by
  rcases wd_cases b0 b1 b2 b3 with g | g | g | g | g
  all_goals (try unfold Co at g); omega

theorem beg1 (l : List UInt8) (x : Nat) (h : 1 ≤ l.length) : begB l [x] = decide (by' l 0 = x) := by
  unfold begB
  rw [decide_eq_decide]
  constructor
  · intro g; exact g.2 0 (by simp)
  · intro g
    refine ⟨h, fun i hi => ?_⟩
    have : i = 0 := by simpa using hi
    subst this; exact g
theorem beg2 (l : List UInt8) (x y : Nat) (h : 2 ≤ l.length) : begB l [x, y] = decide (by' l 0 = x ∧ by' l 1 = y) := by
  unfold begB
  rw [decide_eq_decide]
  constructor
  · intro g; exact ⟨g.2 0 (by simp), g.2 1 (by simp)⟩
  · intro g
    refine ⟨h, fun i hi => ?_⟩
    have hi2 : i < 2 := hi
    have : i = 0 ∨ i = 1 := by omega
    rcases this with rfl | rfl
    · exact g.1
    · exact g.2
theorem beg3 (l : List UInt8) (x y z : Nat) (h : 3 ≤ l.length) : begB l [x, y, z] = decide (by' l 0 = x ∧ by' l 1 = y ∧ by' l 2 = z) := by
  unfold begB
  rw [decide_eq_decide]
  constructor
  · intro g; exact ⟨g.2 0 (by simp), g.2 1 (by simp), g.2 2 (by simp)⟩
  · intro g
    refine ⟨h, fun i hi => ?_⟩
    have hi2 : i < 3 := hi
    have : i = 0 ∨ i = 1 ∨ i = 2 := by omega
    rcases this with rfl | rfl | rfl
    · exact g.1
    · exact g.2.1
    · exact g.2.2
theorem beg4 (l : List UInt8) (x y z v : Nat) (h : 4 ≤ l.length) : begB l [x, y, z, v] = decide (by' l 0 = x ∧ by' l 1 = y ∧ by' l 2 = z ∧ by' l 3 = v) := by
  unfold begB
  rw [decide_eq_decide]
  constructor
  · intro g; exact ⟨g.2 0 (by simp), g.2 1 (by simp), g.2 2 (by simp), g.2 3 (by simp)⟩
  · intro g
    refine ⟨h, fun i hi => ?_⟩
    have hi2 : i < 4 := hi
    have : i = 0 ∨ i = 1 ∨ i = 2 ∨ i = 3 := by omega
    rcases this with rfl | rfl | rfl | rfl
    · exact g.1
    · exact g.2.1
    · exact g.2.2.1
    · exact g.2.2.2
theorem seq1 {n : Nat} : (seqV n).length = 1 ↔ n < 128 := by
  unfold seqV
  split
  · simp; omega
  · split
    · simp; omega
    · split <;> simp <;> omega
theorem seq2 {n : Nat} : (seqV n).length = 2 ↔ 128 ≤ n ∧ n < 2048 := by
  unfold seqV
  split
  · simp; omega
  · split
    · simp; omega
    · split <;> simp <;> omega
theorem seq3 {n : Nat} : (seqV n).length = 3 ↔ 2048 ≤ n ∧ n < 65536 := by
  unfold seqV
  split
  · simp; omega
  · split
    · simp; omega
    · split <;> simp <;> omega
theorem seq4 {n : Nat} : (seqV n).length = 4 ↔ 65536 ≤ n := by
  unfold seqV
  split
  · simp; omega
  · split
    · simp; omega
    · split <;> simp <;> omega
theorem mayB_iff {n : Int} : mayB n = true ↔ 0 ≤ n ∧ n ≤ 1114111 ∧ (n < 55296 ∨ 57343 < n) := by unfold mayB; rw [decide_eq_true_eq]

theorem okB_iff (l : List UInt8) (w : Nat) (h1 : 1 ≤ w) (h4 : w ≤ 4) (hl : w ≤ l.length) : okB l w = true ↔ W l = w := by
  have g0 := by'_lt l 0
  have g1 := by'_lt l 1
  have g2 := by'_lt l 2
  have g3 := by'_lt l 3
  have hw : w = 1 ∨ w = 2 ∨ w = 3 ∨ w = 4 := by omega
  unfold okB W
  rw [Bool.and_eq_true, Bool.and_eq_true, decide_eq_true_eq, mayB_iff]
  rcases hw with rfl | rfl | rfl | rfl
  · have hn : numV l 1 = (by' l 0 : Int) := rfl
    rw [hn, Int.toNat_natCast, wd_1, seq1]
    constructor
    · intro h; exact h.2
    · intro h
      refine ⟨⟨by omega, ?_⟩, h⟩
      have hs : seqV (by' l 0) = [by' l 0] := by unfold seqV; rw [if_pos h]
      rw [hs, beg1 l _ hl, decide_eq_true rfl]
  · have hn : numV l 2 = ((by' l 0 : Int) - 192) * 64 + (by' l 1 : Int) % 64 := rfl
    rw [hn, wd_2, need2, seq2]
    generalize hm : ((((by' l 0 : Int) - 192) * 64 + (by' l 1 : Int) % 64)).toNat = m
    have hs : 128 ≤ m ∧ m < 2048 → begB l (seqV m) = decide (by' l 0 = 192 + m / 64 ∧ by' l 1 = 128 + m % 64) := fun h => by
      have : seqV m = [192 + m / 64, 128 + m % 64] := by unfold seqV; rw [if_neg (by omega), if_pos (by omega)]
      rw [this, beg2 l _ _ hl]
    constructor
    · rintro ⟨⟨h, hb⟩, hr⟩
      rw [hs hr, decide_eq_true_eq] at hb
      omega
    · intro h
      have hr : 128 ≤ m ∧ m < 2048 := by omega
      exact ⟨⟨by omega, by rw [hs hr, decide_eq_true_eq]; omega⟩, hr⟩
  · have hn : numV l 3 = (((by' l 0 : Int) - 224) * 64 + (by' l 1 : Int) % 64) * 64 + (by' l 2 : Int) % 64 := rfl
    rw [hn, wd_3, need3, seq3]
    generalize hm : ((((by' l 0 : Int) - 224) * 64 + (by' l 1 : Int) % 64) * 64 + (by' l 2 : Int) % 64).toNat = m
    have hs : 2048 ≤ m ∧ m < 65536 → begB l (seqV m) = decide (by' l 0 = 224 + m / 4096 ∧ by' l 1 = 128 + m / 64 % 64 ∧ by' l 2 = 128 + m % 64) := fun h => by
      have : seqV m = [224 + m / 4096, 128 + m / 64 % 64, 128 + m % 64] := by unfold seqV; rw [if_neg (by omega), if_neg (by omega), if_pos (by omega)]
      rw [this, beg3 l _ _ _ hl]
    constructor
    · rintro ⟨⟨h, hb⟩, hr⟩
      rw [hs hr, decide_eq_true_eq] at hb
      omega
    · intro h
      have hr : 2048 ≤ m ∧ m < 65536 := by omega
      exact ⟨⟨by omega, by rw [hs hr, decide_eq_true_eq]; omega⟩, hr⟩
  · have hn : numV l 4 = ((((by' l 0 : Int) - 240) * 64 + (by' l 1 : Int) % 64) * 64 + (by' l 2 : Int) % 64) * 64 + (by' l 3 : Int) % 64 := rfl
    rw [hn, wd_4, need4, seq4]
    generalize hm : (((((by' l 0 : Int) - 240) * 64 + (by' l 1 : Int) % 64) * 64 + (by' l 2 : Int) % 64) * 64 + (by' l 3 : Int) % 64).toNat = m
    have hs : 65536 ≤ m → begB l (seqV m) = decide (by' l 0 = 240 + m / 262144 ∧ by' l 1 = 128 + m / 4096 % 64 ∧ by' l 2 = 128 + m / 64 % 64 ∧ by' l 3 = 128 + m % 64) := fun h => by
      have : seqV m = [240 + m / 262144, 128 + m / 4096 % 64, 128 + m / 64 % 64, 128 + m % 64] := by unfold seqV; rw [if_neg (by omega), if_neg (by omega), if_neg (by omega)]
      rw [this, beg4 l _ _ _ _ hl]
    constructor
    · rintro ⟨⟨h, hb⟩, hr⟩
      rw [hs hr, decide_eq_true_eq] at hb
      omega
    · intro h
      have hr : 65536 ≤ m := by omega
      exact ⟨⟨by omega, by rw [hs hr, decide_eq_true_eq]; omega⟩, hr⟩

theorem numV_rune (l : List UInt8) (w : Nat) (h1 : 1 ≤ w) (h : W l = w) : numV l w = (rune l : Int) := by
  have h4 := W_le4 l
  unfold rune
  rw [h]
  unfold W at h
  have hw : w = 1 ∨ w = 2 ∨ w = 3 ∨ w = 4 := by unfold W at h4; omega
  rcases hw with rfl | rfl | rfl | rfl
  · rfl
  · rw [wd_2, need2] at h
    show ((by' l 0 : Int) - 192) * 64 + (by' l 1 : Int) % 64 = ((by' l 0 % 32 * 64 + by' l 1 % 64 : Nat) : Int)
    omega
  · rw [wd_3, need3] at h
    show (((by' l 0 : Int) - 224) * 64 + (by' l 1 : Int) % 64) * 64 + (by' l 2 : Int) % 64 = ((by' l 0 % 16 * 4096 + by' l 1 % 64 * 64 + by' l 2 % 64 : Nat) : Int)
    omega
  · rw [wd_4, need4] at h
    show ((((by' l 0 : Int) - 240) * 64 + (by' l 1 : Int) % 64) * 64 + (by' l 2 : Int) % 64) * 64 + (by' l 3 : Int) % 64 = ((by' l 0 % 8 * 262144 + by' l 1 % 64 * 4096 + by' l 2 % 64 * 64 + by' l 3 % 64 : Nat) : Int)
    omega
end Go.Proofs.YtaljllbfedfpoaaGreatDoor
