/- Plain Lean: what the bytes of a text stand for: the right sequences by their table, and that the model's own decoding is that table. -/
import Derived.Laws.RangeAny
namespace Go.Proofs.YtodooppapciegaaGreatDoor
set_option linter.unusedVariables false

/-- The k-th byte of a text, 0 beyond its end. -/
def by' (l : List UInt8) (k : Nat) : Nat := (l[k]?.getD 0).toNat

/-- How wide a right sequence is that begins with these two bytes; 0, if none does. -/
def need (b0 b1 : Nat) : Nat :=
  if b0 < 128 then 1
  else if 194 ≤ b0 ∧ b0 ≤ 223 ∧ 128 ≤ b1 ∧ b1 ≤ 191 then 2
  else if (b0 = 224 ∧ 160 ≤ b1 ∧ b1 ≤ 191) ∨ (225 ≤ b0 ∧ b0 ≤ 236 ∧ 128 ≤ b1 ∧ b1 ≤ 191) ∨ (b0 = 237 ∧ 128 ≤ b1 ∧ b1 ≤ 159) ∨ (238 ≤ b0 ∧ b0 ≤ 239 ∧ 128 ≤ b1 ∧ b1 ≤ 191) then 3
  else if (b0 = 240 ∧ 144 ≤ b1 ∧ b1 ≤ 191) ∨ (241 ≤ b0 ∧ b0 ≤ 243 ∧ 128 ≤ b1 ∧ b1 ≤ 191) ∨ (b0 = 244 ∧ 128 ≤ b1 ∧ b1 ≤ 143) then 4
  else 0

/-- How wide the right sequence is that these bytes begin with; 0, if they begin with none. -/
def wd (b0 b1 b2 b3 : Nat) : Nat :=
  if need b0 b1 = 1 then 1 else if need b0 b1 = 2 then 2
  else if need b0 b1 = 3 ∧ 128 ≤ b2 ∧ b2 ≤ 191 then 3
  else if need b0 b1 = 4 ∧ 128 ≤ b2 ∧ b2 ≤ 191 ∧ 128 ≤ b3 ∧ b3 ≤ 191 then 4 else 0

/-- The number that a sequence of that width stands for. -/
def num (w b0 b1 b2 b3 : Nat) : Nat :=
  if w = 1 then b0 else if w = 2 then b0 % 32 * 64 + b1 % 64 else if w = 3 then b0 % 16 * 4096 + b1 % 64 * 64 + b2 % 64
  else if w = 4 then b0 % 8 * 262144 + b1 % 64 * 4096 + b2 % 64 * 64 + b3 % 64 else 65533

def W (l : List UInt8) : Nat := wd (by' l 0) (by' l 1) (by' l 2) (by' l 3)
def rune (l : List UInt8) : Nat := num (W l) (by' l 0) (by' l 1) (by' l 2) (by' l 3)
def cw (l : List UInt8) : Nat := if W l = 0 then 1 else W l

theorem by'_lt (l : List UInt8) (k : Nat) : by' l k < 256 := UInt8.toNat_lt _
theorem by'_drop (l : List UInt8) (p k : Nat) : by' (l.drop p) k = by' l (p + k) := by simp [by', List.getElem?_drop]
theorem by'_beyond (l : List UInt8) (k : Nat) (h : l.length ≤ k) : by' l k = 0 := by simp [by', List.getElem?_eq_none h]
theorem by'_get (s : ByteArray) (k : Nat) (h : k < s.size) : by' s.data.toList k = (s[k]'h).toNat := by
  have h' : k < s.data.toList.length := by simpa using h
  simp only [by', List.getElem?_eq_getElem h', Option.getD_some]
  rfl
theorem by'_get! (s : ByteArray) (k : Nat) (h : k < s.size) : by' s.data.toList k = (s.get! k).toNat := by
  rw [by'_get s k h]
  congr 1
  simp [ByteArray.get!, getElem!_pos, h]
  rfl

theorem wd_le (b0 b1 b2 b3 : Nat) : wd b0 b1 b2 b3 ≤ 4 := by
  unfold wd
  repeat' split
  all_goals omega
theorem valid_nat (n : Nat) : Utf8.valid (n : Int) = decide (n < 55296 ∨ (57344 ≤ n ∧ n ≤ 1114111)) := by
  unfold Utf8.valid
  rw [Bool.eq_iff_iff]
  simp only [Bool.or_eq_true, Bool.and_eq_true, decide_eq_true_eq]
  omega

/-- The table, against the arithmetic by which the model decodes. -/
theorem table (b0 b1 b2 b3 : Nat) (h0 : b0 < 256) (h1 : b1 < 256) (h2 : b2 < 256) (h3 : b3 < 256) (c1 c2 c3 : Bool) (e1 : c1 = (b1 / 64 == 2)) (e2 : c2 = (b2 / 64 == 2)) (e3 : c3 = (b3 / 64 == 2)) :
    (if b0 < 128 then (b0, 1)
      else if (b0 / 32 == 6 && c1) = true then
        (if b0 % 32 * 64 + b1 % 64 ≥ 128 then (b0 % 32 * 64 + b1 % 64, 2) else (65533, 1))
      else if (b0 / 16 == 14 && c1 && c2) = true then
        (if (decide (b0 % 16 * 4096 + b1 % 64 * 64 + b2 % 64 ≥ 2048) && Utf8.valid ((b0 % 16 * 4096 + b1 % 64 * 64 + b2 % 64 : Nat) : Int)) = true then (b0 % 16 * 4096 + b1 % 64 * 64 + b2 % 64, 3) else (65533, 1))
      else if (b0 / 8 == 30 && c1 && c2 && c3) = true then
        (if (decide (b0 % 8 * 262144 + b1 % 64 * 4096 + b2 % 64 * 64 + b3 % 64 ≥ 65536) && Utf8.valid ((b0 % 8 * 262144 + b1 % 64 * 4096 + b2 % 64 * 64 + b3 % 64 : Nat) : Int)) = true then (b0 % 8 * 262144 + b1 % 64 * 4096 + b2 % 64 * 64 + b3 % 64, 4) else (65533, 1))
      else (65533, 1)) = ((num (wd b0 b1 b2 b3) b0 b1 b2 b3, if wd b0 b1 b2 b3 = 0 then 1 else wd b0 b1 b2 b3) : Nat × Nat) := by
  have k1 : (c1 = true) ↔ (128 ≤ b1 ∧ b1 ≤ 191) := by rw [e1, beq_iff_eq]; omega
  have k2 : (c2 = true) ↔ (128 ≤ b2 ∧ b2 ≤ 191) := by rw [e2, beq_iff_eq]; omega
  have k3 : (c3 = true) ↔ (128 ≤ b3 ∧ b3 ≤ 191) := by rw [e3, beq_iff_eq]; omega
  clear e1 e2 e3
  by_cases a1 : b0 < 128
  · rw [if_pos a1]
    have hn : need b0 b1 = 1 := by unfold need; rw [if_pos a1]
    have hw : wd b0 b1 b2 b3 = 1 := by unfold wd; rw [if_pos hn]
    rw [hw]; rfl
  rw [if_neg a1]
  have e0 : wd b0 b1 b2 b3 = 0 → ((65533, 1) : Nat × Nat) = (num (wd b0 b1 b2 b3) b0 b1 b2 b3, if wd b0 b1 b2 b3 = 0 then 1 else wd b0 b1 b2 b3) := fun h => by rw [h]; rfl
  by_cases a2 : b0 / 32 = 6 ∧ 128 ≤ b1 ∧ b1 ≤ 191
  · rw [if_pos (by rw [Bool.and_eq_true, beq_iff_eq, k1]; exact a2)]
    by_cases a3 : b0 % 32 * 64 + b1 % 64 ≥ 128
    · have hn : need b0 b1 = 2 := by unfold need; rw [if_neg a1, if_pos (by omega)]
      have hw : wd b0 b1 b2 b3 = 2 := by unfold wd; rw [if_neg (by omega), if_pos hn]
      rw [if_pos a3, hw]; rfl
    · have hn : need b0 b1 = 0 := by unfold need; rw [if_neg a1, if_neg (by omega), if_neg (by omega), if_neg (by omega)]
      have hw : wd b0 b1 b2 b3 = 0 := by unfold wd; rw [if_neg (by omega), if_neg (by omega), if_neg (by omega), if_neg (by omega)]
      rw [if_neg a3]; exact e0 hw
  rw [if_neg (by rw [Bool.and_eq_true, beq_iff_eq, k1]; exact a2)]
  by_cases a4 : (b0 / 16 = 14 ∧ 128 ≤ b1 ∧ b1 ≤ 191) ∧ 128 ≤ b2 ∧ b2 ≤ 191
  · rw [if_pos (by rw [Bool.and_eq_true, Bool.and_eq_true, beq_iff_eq, k1, k2]; exact a4)]
    rw [valid_nat]
    by_cases a5 : b0 % 16 * 4096 + b1 % 64 * 64 + b2 % 64 ≥ 2048 ∧ (b0 % 16 * 4096 + b1 % 64 * 64 + b2 % 64 < 55296 ∨ 57344 ≤ b0 % 16 * 4096 + b1 % 64 * 64 + b2 % 64 ∧ b0 % 16 * 4096 + b1 % 64 * 64 + b2 % 64 ≤ 1114111)
    · have hn : need b0 b1 = 3 := by unfold need; rw [if_neg a1, if_neg (by omega), if_pos (by omega)]
      have hw : wd b0 b1 b2 b3 = 3 := by unfold wd; rw [if_neg (by omega), if_neg (by omega), if_pos ⟨hn, a4.2⟩]
      rw [if_pos (by rw [Bool.and_eq_true, decide_eq_true_eq, decide_eq_true_eq]; exact a5), hw]; rfl
    · have hn : need b0 b1 = 0 := by unfold need; rw [if_neg a1, if_neg (by omega), if_neg (by omega), if_neg (by omega)]
      have hw : wd b0 b1 b2 b3 = 0 := by unfold wd; rw [if_neg (by omega), if_neg (by omega), if_neg (by omega), if_neg (by omega)]
      rw [if_neg (by rw [Bool.and_eq_true, decide_eq_true_eq, decide_eq_true_eq]; exact a5)]; exact e0 hw
  rw [if_neg (by rw [Bool.and_eq_true, Bool.and_eq_true, beq_iff_eq, k1, k2]; exact a4)]
  by_cases a6 : ((b0 / 8 = 30 ∧ 128 ≤ b1 ∧ b1 ≤ 191) ∧ 128 ≤ b2 ∧ b2 ≤ 191) ∧ 128 ≤ b3 ∧ b3 ≤ 191
  · rw [if_pos (by rw [Bool.and_eq_true, Bool.and_eq_true, Bool.and_eq_true, beq_iff_eq, k1, k2, k3]; exact a6)]
    rw [valid_nat]
    by_cases a7 : b0 % 8 * 262144 + b1 % 64 * 4096 + b2 % 64 * 64 + b3 % 64 ≥ 65536 ∧ (b0 % 8 * 262144 + b1 % 64 * 4096 + b2 % 64 * 64 + b3 % 64 < 55296 ∨ 57344 ≤ b0 % 8 * 262144 + b1 % 64 * 4096 + b2 % 64 * 64 + b3 % 64 ∧ b0 % 8 * 262144 + b1 % 64 * 4096 + b2 % 64 * 64 + b3 % 64 ≤ 1114111)
    · have hn : need b0 b1 = 4 := by unfold need; rw [if_neg a1, if_neg (by omega), if_neg (by omega), if_pos (by omega)]
      have hw : wd b0 b1 b2 b3 = 4 := by unfold wd; rw [if_neg (by omega), if_neg (by omega), if_neg (by omega), if_pos ⟨hn, a6.1.2.1, a6.1.2.2, a6.2⟩]
      rw [if_pos (by rw [Bool.and_eq_true, decide_eq_true_eq, decide_eq_true_eq]; exact a7), hw]; rfl
    · have hn : need b0 b1 = 0 := by unfold need; rw [if_neg a1, if_neg (by omega), if_neg (by omega), if_neg (by omega)]
      have hw : wd b0 b1 b2 b3 = 0 := by unfold wd; rw [if_neg (by omega), if_neg (by omega), if_neg (by omega), if_neg (by omega)]
      rw [if_neg (by rw [Bool.and_eq_true, decide_eq_true_eq, decide_eq_true_eq]; exact a7)]; exact e0 hw
  rw [if_neg (by rw [Bool.and_eq_true, Bool.and_eq_true, Bool.and_eq_true, beq_iff_eq, k1, k2, k3]; exact a6)]
  refine e0 ?_
  unfold wd
  have n1 : need b0 b1 ≠ 1 := fun h => by
    unfold need at h; rw [if_neg a1] at h
    split at h
    · omega
    · split at h
      · omega
      · split at h <;> omega
  have n2 : need b0 b1 ≠ 2 := fun h => by
    unfold need at h; rw [if_neg a1] at h
    split at h
    · omega
    · split at h
      · omega
      · split at h <;> omega
  have n3 : need b0 b1 = 3 → (b0 / 16 = 14 ∧ 128 ≤ b1 ∧ b1 ≤ 191) := fun h => by
    unfold need at h; rw [if_neg a1] at h
    split at h
    · omega
    · split at h
      · omega
      · split at h <;> omega
  have n4 : need b0 b1 = 4 → (b0 / 8 = 30 ∧ 128 ≤ b1 ∧ b1 ≤ 191) := fun h => by
    unfold need at h; rw [if_neg a1] at h
    split at h
    · omega
    · split at h
      · omega
      · split at h <;> omega
  rw [if_neg n1, if_neg n2, if_neg (fun h => a4 ⟨n3 h.1, h.2⟩), if_neg (fun h => a6 ⟨⟨n4 h.1, h.2.1, h.2.2.1⟩, h.2.2.2⟩)]

theorem decode_eq (s : ByteArray) (pos : Nat) (h : pos < s.size) : Utf8.decode s pos = (rune (s.data.toList.drop pos), cw (s.data.toList.drop pos)) := by
  unfold rune cw W
  simp only [by'_drop, Nat.add_zero]
  have g0 := by'_get! s pos h
  have g : ∀ k, (decide (pos + k < s.size) && ((s.get! (pos + k)).toNat / 64 == 2)) = (by' s.data.toList (pos + k) / 64 == 2) := by
    intro k
    by_cases hk : pos + k < s.size
    · rw [by'_get! s (pos + k) hk]; simp [hk]
    · rw [by'_beyond s.data.toList (pos + k) (by simpa using hk)]; simp [hk]
  have v : ∀ k, (by' s.data.toList (pos + k) / 64 == 2) = true → (s.get! (pos + k)).toNat = by' s.data.toList (pos + k) := by
    intro k hk
    by_cases hl : pos + k < s.size
    · exact (by'_get! s _ hl).symm
    · rw [by'_beyond s.data.toList (pos + k) (by simpa using hl)] at hk; simp at hk
  rw [← table _ _ _ _ (by'_lt _ _) (by'_lt _ _) (by'_lt _ _) (by'_lt _ _) _ _ _ rfl rfl rfl]
  unfold Utf8.decode
  simp only [Nat.add_zero, ← g0, g, Utf8.runeError]
  by_cases a1 : by' s.data.toList pos < 128
  · rw [if_pos a1, if_pos a1]
  rw [if_neg a1, if_neg a1]
  by_cases c1 : (by' s.data.toList (pos + 1) / 64 == 2) = true
  · rw [v 1 c1]
    by_cases c2 : (by' s.data.toList (pos + 2) / 64 == 2) = true
    · rw [v 2 c2]
      by_cases c3 : (by' s.data.toList (pos + 3) / 64 == 2) = true
      · rw [v 3 c3]
      · simp [c3]
    · simp [c2]
  · simp [c1]
end Go.Proofs.YtodooppapciegaaGreatDoor
