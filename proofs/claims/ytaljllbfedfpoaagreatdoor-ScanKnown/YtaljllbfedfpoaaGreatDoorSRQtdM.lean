/- The document's reading of digits of sixteen against the program's (no program in it). -/
import Derived.Test.YtaljllbfedfpoaaGreatDoorSQtdM
namespace Go.Proofs.YtaljllbfedfpoaaGreatDoor
open Go.RowKit Go.Shelf
set_option linter.unusedVariables false

/-- A digit of sixteen; 16: it is none. -/
def digD (c : Nat) : Nat := if 48 ≤ c ∧ c ≤ 57 then c - 48 else if 97 ≤ c ∧ c ≤ 102 then c - 97 + 10 else 16
theorem digD_le (c : Nat) : digD c ≤ 16 := by unfold digD; split <;> (try split) <;> omega
theorem digD_hex (b : UInt8) : (0 ≤ hexV b ↔ digD b.toNat < 16) ∧ (0 ≤ hexV b → (hexV b).toNat = digD b.toNat) := by
  have h : ∀ c : Fin 256, (0 ≤ hexV (c.val.toUInt8) ↔ digD c.val < 16) ∧ (0 ≤ hexV (c.val.toUInt8) → (hexV (c.val.toUInt8)).toNat = digD c.val) := by decide +kernel
  have := h ⟨b.toNat, UInt8.toNat_lt _⟩
  have e : (b.toNat).toUInt8 = b := UInt8.ofNat_toNat
  simp only [e] at this
  exact this
theorem dg_step {l : List UInt8} {k m a : Nat} (hk : k < l.length) (h : digD (by' l k) < 16) : dgF (m + 1) a (l.drop k) = ((dgF m (16 * a + digD (by' l k)) (l.drop (k + 1))).1, (dgF m (16 * a + digD (by' l k)) (l.drop (k + 1))).2 + 1) := by
  rw [List.drop_eq_getElem_cons hk]
  have e : by' l k = (l[k]).toNat := by unfold by'; rw [List.getElem?_eq_getElem hk]; rfl
  rw [e] at h ⊢
  obtain ⟨h1, h2⟩ := digD_hex l[k]
  have h0 := h1.2 h
  simp only [dgF]
  rw [if_pos h0, h2 h0]
theorem dg_stop {l : List UInt8} {k m a : Nat} (h : ¬ (k < l.length ∧ digD (by' l k) < 16)) : dgF m a (l.drop k) = (a, 0) := by
  cases m with
  | zero => rfl
  | succ m =>
    by_cases hk : k < l.length
    · rw [List.drop_eq_getElem_cons hk]
      have e : by' l k = (l[k]).toNat := by unfold by'; rw [List.getElem?_eq_getElem hk]; rfl
      rw [e] at h
      have h0 : ¬ 0 ≤ hexV l[k] := fun h9 => h ⟨hk, (digD_hex l[k]).1.1 h9⟩
      simp only [dgF]
      rw [if_neg h0]
    · rw [List.drop_eq_nil_of_le (by omega)]
      rfl
theorem dig_not_125 : digD 125 = 16 := by decide
end Go.Proofs.YtaljllbfedfpoaaGreatDoor
