/- Package scan: what an escape stands for. -/
import Derived.Test.YtaljllbfedfpoaaGreatDoorSDig
import Derived.Test.YtaljllbfedfpoaaGreatDoorSJump
import Derived.Test.YtaljllbfedfpoaaGreatDoorUAwake
import Derived.Test.YtaljllbfedfpoaaGreatDoorURefM
import Derived.Lib.RuneBytes
import Derived.Deep.RegionHeld3
import Derived.OrdersHeld
import Derived.Maps.AppendAt
import Derived.Laws.IdiomStrings
namespace Go.Proofs.YtaljllbfedfpoaaGreatDoor
open Go.RowKit Go.Shelf
set_option linter.unusedVariables false

theorem encode_eqS (z : Int) : Utf8.encode z = ⟨(Lib.encodeRune z).toArray⟩ := by
  unfold Utf8.encode Lib.encodeRune
  have hv : Utf8.valid z = mayB z := by
    unfold Utf8.valid mayB
    rw [Bool.eq_iff_iff]
    simp only [Bool.or_eq_true, Bool.and_eq_true, decide_eq_true_eq]
    omega
  rw [hv]
  cases hm : mayB z with
  | false =>
    have h : z < 0 ∨ (55296 ≤ z ∧ z ≤ 57343) ∨ 1114111 < z := by
      have := mt (mayB_iff (n := z)).2 (by rw [hm]; simp)
      omega
    rw [Lib.encodeRuneZ_bad h]
    simp only [Bool.false_eq_true, if_false, Utf8.runeError]
    rfl
  | true =>
    have h := mayB_iff.1 hm
    simp only [if_true]
    obtain ⟨n, rfl⟩ : ∃ n : Nat, z = (n : Int) := ⟨z.toNat, by omega⟩
    rw [Int.toNat_natCast]
    by_cases h1 : n < 128
    · rw [Lib.encodeRuneZ_one (by omega) (by omega), if_pos h1]; rfl
    · rw [if_neg h1]
      by_cases h2 : n < 2048
      · rw [Lib.encodeRuneZ_two (by omega) (by omega), if_pos h2]; rfl
      · rw [if_neg h2]
        by_cases h3 : n < 65536
        · rw [Lib.encodeRuneZ_three (by omega), if_pos h3]; rfl
        · rw [Lib.encodeRuneZ_four (by omega) (by omega), if_neg h3]; rfl

theorem one_sluS (w : World) (z : Int) : SlU (w.alloc (.cells #[.int .i32 z] 21)) (some ⟨w.heap.size, 0, none⟩) [z] := by
  refine .inr ⟨w.heap.size, 0, rfl, by simp, fun i x hx => ?_⟩
  cases i with
  | zero =>
    simp only [List.getElem?_cons_zero, Option.some.injEq] at hx
    subst hx
    exact cell_one_new w (.int .i32 z) 21 0 _ rfl
  | succ i => simp at hx
theorem encode1S (z : Int) (w : World) : Calls Tryz.prog 77 #[.slice (some ⟨w.heap.size, 0, none⟩) 1 1] (w.alloc (.cells #[.int .i32 z] 21)) fun e w' => e = .returned (.string ⟨(Lib.encodeRune z).toArray⟩) ∧ w' = w.alloc (.cells #[.int .i32 z] 21) := by
  have := encode_any (some ⟨w.heap.size, 0, none⟩) 1 [z] _ (one_sluS w z)
  have e : runesBytes [z] = ⟨(Lib.encodeRune z).toArray⟩ := by
    unfold runesBytes
    rw [List.foldl_cons, List.foldl_nil, encode_eqS]
    exact ByteArray.empty_append
  rw [e] at this
  exact this
theorem dgF_le (m a : Nat) (l : List UInt8) : (dgF m a l).2 ≤ l.length := by
  induction m generalizing a l with
  | zero => simp [dgF]
  | succ m ih =>
    cases l with
    | nil => simp [dgF]
    | cons b t =>
      simp only [dgF]
      split
      · have := ih (16 * a + (hexV b).toNat) t
        simp only [List.length_cons]; omega
      · simp
theorem str_one (y : World) (c : UInt8) : (convert 25 9 (.slice (some ⟨y.heap.size, 0, none⟩) 1 1)).run Tryz.prog (y.alloc (.cells #[.int .u8 (c.toNat : Int)] 5)).drew = .ok (.string ⟨#[c]⟩) (y.alloc (.cells #[.int .u8 (c.toNat : Int)] 5)).drew := by
  refine run_convert_bytes_back (P := Tryz.prog) _ 25 9 5 ⟨y.heap.size, 0, none⟩ 1 [c] Tryz.underlying25 Tryz.underlying5 Tryz.underlying9 (fun j hj => ?_)
  have h0 : j = 0 := by simp at hj; omega
  subst h0
  exact cell_one_new y (.int .u8 (c.toNat : Int)) 5 0 _ rfl
def noPanS (Q : Exit → Act → World → Prop) : Exit → Act → World → Prop
  | .panic _, _, _ => False
  | e, a, w => Q e a w
theorem noPanS_le {Q : Exit → Act → World → Prop} : ∀ e a w, noPanS Q e a w → Q e a w := fun e a w h => by cases e <;> first | exact h | exact h.elim
theorem noPanS_normal {Q : Exit → Act → World → Prop} {a : Act} {w : World} (h : Q .normal a w) : noPanS Q .normal a w := h
/-- What the escape stands for with which a text begins, and how wide it is; 0, if it is none. -/
def escL (l : List UInt8) : List UInt8 × Nat :=
  if 1 < l.length then
    if by' l 1 = 34 then ([34], 2) else if by' l 1 = 92 then ([92], 2) else if by' l 1 = 110 then ([10], 2) else if by' l 1 = 114 then ([13], 2) else if by' l 1 = 116 then ([9], 2)
    else if by' l 1 = 120 then (if 2 ≤ (dgF 2 0 (l.drop 2)).2 then ([((dgF 2 0 (l.drop 2)).1).toUInt8], 2 + (dgF 2 0 (l.drop 2)).2) else ([], 0))
    else if by' l 1 = 117 then
      if 2 < l.length ∧ by' l 2 = 123 then
        if 1 ≤ (dgF 6 0 (l.drop 3)).2 ∧ (3 + (dgF 6 0 (l.drop 3)).2 < l.length ∧ by' l (3 + (dgF 6 0 (l.drop 3)).2) = 125) ∧ Lib.validRune ((dgF 6 0 (l.drop 3)).1 : Int) = true then (Lib.encodeRune ((dgF 6 0 (l.drop 3)).1 : Int), 3 + (dgF 6 0 (l.drop 3)).2 + 1) else ([], 0)
      else ([], 0)
    else ([], 0)
  else ([], 0)
theorem escL_34 {t : ByteArray} (h : 1 < t.size ∧ by' (bl t) 1 = 34) : escL (bl t) = ([34], 2) := by unfold escL; rw [bl_len, if_pos h.1, h.2]; rfl
theorem escL_92 {t : ByteArray} (h : 1 < t.size ∧ by' (bl t) 1 = 92) : escL (bl t) = ([92], 2) := by unfold escL; rw [bl_len, if_pos h.1, h.2]; rfl
theorem escL_110 {t : ByteArray} (h : 1 < t.size ∧ by' (bl t) 1 = 110) : escL (bl t) = ([10], 2) := by unfold escL; rw [bl_len, if_pos h.1, h.2]; rfl
theorem escL_114 {t : ByteArray} (h : 1 < t.size ∧ by' (bl t) 1 = 114) : escL (bl t) = ([13], 2) := by unfold escL; rw [bl_len, if_pos h.1, h.2]; rfl
theorem escL_116 {t : ByteArray} (h : 1 < t.size ∧ by' (bl t) 1 = 116) : escL (bl t) = ([9], 2) := by unfold escL; rw [bl_len, if_pos h.1, h.2]; rfl

theorem escL_none {t : ByteArray} (h : ∀ m ∈ [34, 92, 110, 114, 116, 120, 117], ¬ (1 < t.size ∧ by' (bl t) 1 = m)) : escL (bl t) = ([], 0) := by
  unfold escL
  rw [bl_len]
  by_cases h1 : 1 < t.size
  · have g : ∀ m ∈ [34, 92, 110, 114, 116, 120, 117], by' (bl t) 1 ≠ m := fun m hm e => h m hm ⟨h1, e⟩
    rw [if_pos h1, if_neg (g 34 (by simp)), if_neg (g 92 (by simp)), if_neg (g 110 (by simp)), if_neg (g 114 (by simp)), if_neg (g 116 (by simp)), if_neg (g 120 (by simp)), if_neg (g 117 (by simp))]
  · rw [if_neg h1]
end Go.Proofs.YtaljllbfedfpoaaGreatDoor
