/- Why a burst of up to 32 bits is told: the sum's register goes on linearly, and a step brings no number but 0 to 0. -/
import Derived.Test.YtjkglimbmfgllabCrc
import Derived.Test.YtjkglimbmfgllabPut
namespace Go.Proofs.Ytjkglimbmfgllab
set_option linter.unusedVariables false

theorem bitStep_xor (a b : Nat) : bitStep (a ^^^ b) = bitStep a ^^^ bitStep b := by
  unfold bitStep
  have h1 : (a ^^^ b) / 2 = a / 2 ^^^ b / 2 := Nat.xor_div_two
  have h2 : (a ^^^ b) % 2 = (a + b) % 2 := by
    have e : (a ^^^ b) % 2 = (a % 2) ^^^ (b % 2) := Nat.xor_mod_two_pow (n := 1)
    rcases Nat.mod_two_eq_zero_or_one a with ha | ha <;> rcases Nat.mod_two_eq_zero_or_one b with hb | hb <;> rw [e, ha, hb] <;> simp <;> omega
  rw [h1, h2]
  rcases Nat.mod_two_eq_zero_or_one a with ha | ha <;> rcases Nat.mod_two_eq_zero_or_one b with hb | hb
  · rw [if_neg (by omega), if_neg (by omega), if_neg (by omega)]
  · rw [if_pos (by omega), if_neg (by omega), if_pos (by omega), Nat.xor_assoc]
  · rw [if_pos (by omega), if_pos (by omega), if_neg (by omega), Nat.xor_assoc, Nat.xor_assoc, Nat.xor_comm (b / 2)]
  · rw [if_neg (by omega), if_pos (by omega), if_pos (by omega)]
    have e : (a / 2 ^^^ 2197175160) ^^^ (b / 2 ^^^ 2197175160) = (a / 2 ^^^ b / 2) ^^^ (2197175160 ^^^ 2197175160) := by
      rw [Nat.xor_assoc, Nat.xor_assoc, ← Nat.xor_assoc 2197175160 (b / 2), Nat.xor_comm 2197175160 (b / 2), Nat.xor_assoc (b / 2)]
    rw [e, Nat.xor_self, Nat.xor_zero]
theorem bitSteps_xor (n a b : Nat) : bitSteps n (a ^^^ b) = bitSteps n a ^^^ bitSteps n b := by
  induction n with
  | zero => rfl
  | succ n ih => simp only [bitSteps]; rw [ih, bitStep_xor]
theorem bitSteps_add (m n r : Nat) : bitSteps (m + n) r = bitSteps m (bitSteps n r) := by
  induction m with
  | zero => simp [bitSteps]
  | succ m ih => rw [Nat.succ_add]; simp only [bitSteps]; rw [ih]
theorem bitSteps_shift (n x : Nat) : bitSteps n (x * 2 ^ n) = x := by
  induction n generalizing x with
  | zero => simp [bitSteps]
  | succ n ih =>
    have e : x * 2 ^ (n + 1) = (2 * x) * 2 ^ n := by rw [Nat.pow_succ]; rw [Nat.mul_comm (2 ^ n) 2, ← Nat.mul_assoc, Nat.mul_comm x 2]
    simp only [bitSteps]
    rw [e, ih]
    unfold bitStep
    rw [if_neg (by omega)]
    omega
theorem bitStep_ne (r : Nat) (h0 : r ≠ 0) (h : r < 4294967296) : bitStep r ≠ 0 := by
  unfold bitStep
  split
  · intro h1
    have h2 : r / 2 = 2197175160 := by
      have := congrArg (fun z => z ^^^ 2197175160) h1
      simpa [Nat.xor_assoc, Nat.xor_self] using this
    omega
  · omega
theorem bitSteps_ne (n r : Nat) (h0 : r ≠ 0) (h : r < 4294967296) : bitSteps n r ≠ 0 := by
  induction n with
  | zero => exact h0
  | succ n ih => exact bitStep_ne _ ih (bitSteps_lt n r h)

theorem join_xor (a b x y : Nat) (hx : x < 256) (hy : y < 256) : (256 * a + x) ^^^ (256 * b + y) = 256 * (a ^^^ b) + (x ^^^ y) := by
  apply Nat.eq_of_testBit_eq
  intro i
  have hxy : x ^^^ y < 2 ^ 8 := Nat.xor_lt_two_pow hx hy
  rw [Nat.testBit_xor, show (256 : Nat) = 2 ^ 8 by rfl, Nat.testBit_two_pow_mul_add a hx, Nat.testBit_two_pow_mul_add b hy, Nat.testBit_two_pow_mul_add (a ^^^ b) hxy]
  split
  · rw [Nat.testBit_xor]
  · rw [Nat.testBit_xor]

theorem runs_leV (r : Nat) (bs : List Nat) (h : ∀ x ∈ bs, x < 256) : runs r bs = bitSteps (8 * bs.length) (r ^^^ leV bs) := by
  induction bs generalizing r with
  | nil => simp [runs, leV, bitSteps]
  | cons x t ih =>
    have ht := ih (byteStep r x) (fun y hy => h y (by simp [hy]))
    have hr : runs r (x :: t) = runs (byteStep r x) t := rfl
    rw [hr, ht]
    have e1 : 8 * (x :: t).length = 8 * t.length + 8 := by simp [Nat.mul_add]
    rw [e1, bitSteps_add]
    congr 1
    have e2 : leV (x :: t) = x ^^^ (leV t * 2 ^ 8) := by
      have := join_xor 0 (leV t) x 0 (h x (by simp)) (by omega)
      simp only [Nat.mul_zero, Nat.zero_add, Nat.add_zero, Nat.zero_xor, Nat.xor_zero] at this
      rw [show leV t * 2 ^ 8 = 256 * leV t by omega, this]
      simp only [leV]
      omega
    rw [e2, ← Nat.xor_assoc, bitSteps_xor, bitSteps_shift]
    rfl

/-- Unlike within 32 bits: unlike sums. -/
theorem burst_ne (b c : List Nat) (T p : Nat) (hb : ∀ x ∈ b, x < 256) (hc : ∀ x ∈ c, x < 256) (hl : c.length = b.length) (hp : p ≤ 8 * b.length) (hT : T ≠ 0) (hT2 : T < 4294967296)
    (h : leV c = leV b ^^^ T * 2 ^ p) : moreV 0 b ≠ moreV 0 c := by
  intro he
  unfold moreV at he
  have he2 : runs (4294967295 ^^^ 0) b = runs (4294967295 ^^^ 0) c := by
    have := congrArg (fun z => 4294967295 ^^^ z) he
    simpa [← Nat.xor_assoc, Nat.xor_self] using this
  rw [runs_leV _ b hb, runs_leV _ c hc, hl, h, ← Nat.xor_assoc, bitSteps_xor _ (_ ^^^ _) (T * 2 ^ p)] at he2
  have h3 : bitSteps (8 * b.length) (T * 2 ^ p) = 0 := by
    have := congrArg (fun z => bitSteps (8 * b.length) (4294967295 ^^^ 0 ^^^ leV b) ^^^ z) he2
    simpa [← Nat.xor_assoc, Nat.xor_self] using this.symm
  obtain ⟨d, hd⟩ := Nat.exists_eq_add_of_le hp
  rw [hd, Nat.add_comm, bitSteps_add, bitSteps_shift] at h3
  exact bitSteps_ne d T hT hT2 h3

theorem leV_inj (b c : List Nat) (hb : ∀ x ∈ b, x < 256) (hc : ∀ x ∈ c, x < 256) (hl : c.length = b.length) (h : leV c = leV b) : c = b := by
  induction b generalizing c with
  | nil => exact List.eq_nil_of_length_eq_zero hl
  | cons x t ih =>
    cases c with
    | nil => simp at hl
    | cons y u =>
      have h1 := hb x (by simp)
      have h2 := hc y (by simp)
      simp only [leV] at h
      have e1 : y = x := by omega
      have e2 : leV u = leV t := by omega
      rw [e1, ih u (fun z hz => hb z (by simp [hz])) (fun z hz => hc z (by simp [hz])) (by simpa using hl) e2]

theorem leV_flip (c : List Nat) (i x y : Nat) (hc : ∀ z ∈ c, z < 256) (hx : c[i]? = some x) (hy : y < 256) : leV (c.set i (x ^^^ y)) = leV c ^^^ y * 256 ^ i := by
  induction c generalizing i with
  | nil => simp at hx
  | cons z t ih =>
    have hz := hc z (by simp)
    cases i with
    | zero =>
      simp only [List.getElem?_cons_zero, Option.some.injEq] at hx
      subst hx
      have := join_xor (leV t) 0 z y hz hy
      simp only [Nat.mul_zero, Nat.zero_add, Nat.xor_zero] at this
      simp only [List.set_cons_zero, leV, Nat.pow_zero, Nat.mul_one]
      rw [Nat.add_comm z, this, Nat.add_comm]
    | succ i =>
      simp only [List.getElem?_cons_succ] at hx
      have h1 := ih i (fun w hw => hc w (by simp [hw])) hx
      have := join_xor (leV t) (y * 256 ^ i) z 0 hz (by omega)
      simp only [Nat.add_zero, Nat.xor_zero] at this
      simp only [List.set_cons_succ, leV, h1]
      rw [show y * 256 ^ (i + 1) = 256 * (y * 256 ^ i) by rw [Nat.pow_succ]; rw [← Nat.mul_assoc, Nat.mul_comm], Nat.add_comm z (256 * leV t), this, Nat.add_comm]

/-- One more bit of the burst. -/
theorem turn_step (t k : Nat) : t % 2 ^ (k + 1) = t % 2 ^ k + (t / 2 ^ k % 2) * 2 ^ k := by
  rw [Nat.pow_succ, Nat.mod_mul, Nat.mul_comm (2 ^ k)]

theorem xor_high (a k p : Nat) (h : a < 2 ^ k) : a * 2 ^ p ^^^ 2 ^ (p + k) = (a + 2 ^ k) * 2 ^ p := by
  have e1 : a ^^^ 2 ^ k = a + 2 ^ k := by
    have := Nat.two_pow_add_eq_or_of_lt (i := k) (b := a) h 1
    rw [Nat.xor_comm]
    apply Nat.eq_of_testBit_eq
    intro i
    rw [Nat.add_comm, ← Nat.mul_one (2 ^ k), this, Nat.testBit_xor, Nat.testBit_or, Nat.mul_one, Nat.testBit_two_pow]
    by_cases hi : k = i
    · subst hi
      simp [Nat.testBit_lt_two_pow h]
    · simp [hi]
  rw [← e1]
  have e2 : (a ^^^ 2 ^ k) * 2 ^ p = (a * 2 ^ p) ^^^ (2 ^ k * 2 ^ p) := by
    rw [← Nat.shiftLeft_eq, ← Nat.shiftLeft_eq, ← Nat.shiftLeft_eq, Nat.shiftLeft_xor_distrib]
  rw [e2, ← Nat.pow_add, Nat.add_comm k p]
end Go.Proofs.Ytjkglimbmfgllab
