/- What kinds.into answers. -/
import Derived.Test.YtdjkbldbihpocaaKBk
namespace Go.Proofs.Ytdjkbldbihpocaa
open Go.RowKit Go.Shelf
set_option linter.unusedVariables false

theorem begins_Bd (l : List UInt8) (i : Nat) (hi : i ≤ l.length) : beginsV l (i : Int) = true ↔ Bd l i := by
  unfold beginsV Bd
  simp only [Int.toNat_natCast]
  have e1 : decide ((0 : Int) ≤ (i : Int)) = true := by simp
  have e2 : decide ((i : Int) ≤ (l.length : Int)) = true := by simp; omega
  rw [e1, e2]
  simp only [Bool.true_and, Bool.or_eq_true, decide_eq_true_eq]
  by_cases h : i = l.length
  · simp [h]
  · have hlt : i < l.length := by omega
    rw [begins_iff l i hlt]
    constructor
    · rintro (h' | h')
      · omega
      · exact .inl h'
    · rintro (h' | h')
      · exact .inr h'
      · omega
theorem Bd_zero (l : List UInt8) : Bd l 0 := by
  by_cases h : l = []
  · subst h; exact .inr rfl
  · exact .inl (St_zero h)
/-- A place brought down to where a character begins. -/
def dn (l : List UInt8) : Nat → Nat
  | 0 => 0
  | i + 1 => if beginsV l ((i + 1 : Nat) : Int) then i + 1 else dn l i
def clampV (l : List UInt8) (n : Int) : Nat := (min (max 0 n) (l.length : Int)).toNat
def intoV (l : List UInt8) (n : Int) : Nat := dn l (clampV l n)
theorem dn_le (l : List UInt8) : ∀ i, dn l i ≤ i
  | 0 => Nat.le_refl _
  | i + 1 => by unfold dn; split; exact Nat.le_refl _; have := dn_le l i; omega
theorem dn_Bd (l : List UInt8) : ∀ i, i ≤ l.length → Bd l (dn l i)
  | 0, _ => Bd_zero l
  | i + 1, h => by
    unfold dn; split
    · exact (begins_Bd l (i + 1) h).1 (by assumption)
    · exact dn_Bd l i (by omega)
theorem dn_top (l : List UInt8) : ∀ i, i ≤ l.length → ∀ j, Bd l j → j ≤ i → j ≤ dn l i
  | 0, _, j, _, h => by omega
  | i + 1, hi, j, hj, h => by
    unfold dn
    by_cases e : j = i + 1
    · subst e; rw [if_pos ((begins_Bd l (i + 1) hi).2 hj)]; exact Nat.le_refl _
    · have := dn_top l i (by omega) j hj (by omega)
      split <;> omega
theorem clamp_le (l : List UInt8) (n : Int) : clampV l n ≤ l.length := by unfold clampV; omega
theorem into_le (l : List UInt8) (n : Int) : intoV l n ≤ l.length := Nat.le_trans (dn_le l _) (clamp_le l n)
theorem into_Bd (l : List UInt8) (n : Int) : Bd l (intoV l n) := dn_Bd l _ (clamp_le l n)
theorem dn_yes {l : List UInt8} {i : Nat} (h : beginsV l (i : Int) = true) : dn l i = i := by
  cases i with
  | zero => rfl
  | succ i => unfold dn; rw [if_pos h]
theorem dn_no {l : List UInt8} {i : Nat} (h : beginsV l (i : Int) = false) : 1 ≤ i ∧ dn l i = dn l (i - 1) := by
  cases i with
  | zero =>
    have h' := (begins_Bd l 0 (by omega)).2 (Bd_zero l)
    rw [h'] at h
    cases h
  | succ i => exact ⟨by omega, by show (if _ then _ else _) = _; rw [if_neg (by rw [h]; decide)]; rfl⟩

set_option maxHeartbeats 1000000 in
theorem into_any (s : ByteArray) (n : Int) (w : World) (hs : s.size ≤ 9223372036854775807) :
    Calls Try.prog 21 #[.string s, .int .i64 n] w fun e w' => e = .returned (.int .i64 (intoV (bl s) n : Nat)) ∧ Below w.heap.size w w' := by
  have hc : (min (max 0 n) (s.size : Int)) = (clampV (bl s) n : Nat) := by unfold clampV; rw [bl_len]; omega
  have hcl := clamp_le (bl s) n
  rw [bl_len] at hcl
  have hdef : dn (bl s) (clampV (bl s) n) = intoV (bl s) n := rfl
  generalize intoV (bl s) n = R at *
  generalize clampV (bl s) n = C at *
  have HD := hide hdef
  clear hdef
  go_enter Try.func21, Try.ntmps21
  have hlI : (0 : Int) ≤ (s.size : Int) := by omega
  have kb := fun (i : Nat) w => begins_any s (i : Int) w hs
  have KB := hide kb
  clear kb
  go_wp2
  all_goals
    go_loopw [1] (fun q wr => ∃ i : Nat, q = .int .i64 (i : Int) ∧ i ≤ s.size ∧ dn (bl s) i = R ∧ Below w.heap.size w wr) (fun q _ => (intOf q).toNat)
    case atStart => exact ⟨C, by congr 1; omega, hcl, HD.out, Below.refl _ _⟩
    case round =>
      obtain ⟨i, rfl, hi, hR, hB⟩ := hrel
      clear HD hc hcl
      by_cases hb : beginsV (bl s) (i : Int) = true
      · have hR' := dn_yes hb
        have k := KB.out i
        rw [hb] at k
        have K := hide k
        have HE := hide (hR'.symm.trans hR)
        clear KB k hb hR hR'
        go_wp2_with (go_at_call 24; refine (K.out _).mono ?_; rintro e w1 ⟨rfl, hB1⟩)
        go_ret
        exact ⟨ret_int (by rw [HE.out]), bseq hB hB1⟩
      · have hb' : beginsV (bl s) (i : Int) = false := by simpa using hb
        have hR' := dn_no hb'
        have k := KB.out i
        rw [hb'] at k
        have K := hide k
        have HE := hide (hR'.2.symm.trans hR)
        have h1 := hR'.1
        clear KB k hb hR hR' hb'
        go_wp2_with (go_at_call 24; refine (K.out _).mono ?_; rintro e w1 ⟨rfl, hB1⟩)
        go_roundw
        case rel => exact ⟨i - 1, by congr 1; omega, by omega, HE.out, bseq hB hB1⟩
        case measure => simp [intOf]; omega
end Go.Proofs.Ytdjkbldbihpocaa
