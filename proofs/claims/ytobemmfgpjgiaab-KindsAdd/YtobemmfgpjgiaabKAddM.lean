/- Columns of two texts together. -/
import Derived.Test.YtobemmfgpjgiaabKCol
import Derived.Test.YtobemmfgpjgiaabKInto
namespace Go.Proofs.Ytobemmfgpjgiaab
open Go.RowKit Go.Shelf
set_option linter.unusedVariables false

def colR (t p n : Int) : List Nat → Int
  | [] => n
  | r :: l => colR t p (n + colC t p n r) l
theorem colL_R (t p : Int) : ∀ (L : List (Nat × Nat × Nat)) (n : Int), colL t p n L = colR t p n (L.map (·.2.1))
  | [], n => rfl
  | e :: L, n => by simp only [colL, List.map_cons, colR]; exact colL_R t p L _
theorem colV_R (l : List UInt8) (f tab : Int) : colV l f tab = colR (tabV tab) (max 0 f % tabV tab) 0 (runesV l) := by
  unfold colV; rw [colL_R]; rfl
theorem colR_app (t p : Int) : ∀ (x y : List Nat) (n : Int), colR t p n (x ++ y) = colR t p (colR t p n x) y
  | [], y, n => rfl
  | r :: x, y, n => by simp only [List.cons_append, colR]; exact colR_app t p x y _
theorem colC_shift (t p m n : Int) (r : Nat) : colC t p (m + n) r = colC t ((p + m) % t) n r := by
  unfold colC
  split
  · rw [Int.emod_add_emod]
    have e : p + (m + n) = p + m + n := by omega
    rw [e]
  · rfl
theorem colR_shift (t p m : Int) : ∀ (y : List Nat) (n : Int), colR t p (m + n) y = m + colR t ((p + m) % t) n y
  | [], n => rfl
  | r :: y, n => by
    simp only [colR]
    rw [colC_shift, Int.add_assoc]
    exact colR_shift t p m y _
theorem colR_bd {t p : Int} (ht : 1 ≤ t ∧ t ≤ 16) (hp : 0 ≤ p) : ∀ (y : List Nat) (n : Int), 0 ≤ n → n ≤ colR t p n y ∧ colR t p n y ≤ n + 16 * y.length
  | [], n, h => by simp [colR]
  | r :: y, n, h => by
    have hc := colC_bd r ht hp h
    have := colR_bd ht hp y (n + colC t p n r) (by omega)
    simp only [colR, List.length_cons]
    omega
theorem colV_bd (l : List UInt8) (f tab : Int) : 0 ≤ colV l f tab ∧ colV l f tab ≤ 16 * l.length := by
  rw [colV_R]
  have ht := tabV_bd tab
  have h := colR_bd ht (emod_bd (max 0 f) (tabV tab) ht.1).1 (runesV l) 0 (by omega)
  have hl := Cs_len_le l
  rw [← runesV_len] at hl
  omega
/-- Columns go on over a seam. -/
theorem col_add (l m : List UInt8) (f tab : Int) (h : runesV (l ++ m) = runesV l ++ runesV m) : colV (l ++ m) f tab = colV l f tab + colV m (max 0 f + colV l f tab) tab := by
  have hb := (colV_bd l f tab).1
  rw [colV_R (l ++ m), h, colR_app, ← colV_R, colV_R m]
  have h1 := colR_shift (tabV tab) (max 0 f % tabV tab) (colV l f tab) (runesV m) 0
  rw [Int.add_zero] at h1
  rw [h1, Int.emod_add_emod]
  have e : max 0 (max 0 f + colV l f tab) = max 0 f + colV l f tab := by omega
  rw [e]
theorem runes_tab : runesV [9] = [9] := by decide +kernel
theorem col_tab (f tab : Int) (hf : 0 ≤ f) : (f + colV [9] f tab) % tabV tab = 0 := by
  rw [colV_R, runes_tab]
  simp only [colR]
  rw [colC_9, show max 0 f = f by omega]
  have ht := tabV_bd tab
  have e : f + (0 + (tabV tab - (f % tabV tab + 0) % tabV tab)) = tabV tab + (f - f % tabV tab) := by
    rw [Int.add_zero, Int.emod_emod]; omega
  rw [e]
  have h2 := Int.mul_ediv_add_emod f (tabV tab)
  have e2 : f - f % tabV tab = tabV tab * (f / tabV tab) := by omega
  rw [e2, Int.add_mul_emod_self_left, Int.emod_self]
def sumW : List Nat → Int
  | [] => 0
  | r :: l => widthK (r : Int) + sumW l
theorem sumW_app : ∀ x y : List Nat, sumW (x ++ y) = sumW x + sumW y
  | [], y => by simp [sumW]
  | r :: x, y => by simp only [List.cons_append, sumW, sumW_app x y]; omega
theorem colR_plain (t p : Int) : ∀ (y : List Nat) (n : Int), 9 ∉ y → colR t p n y = n + sumW y
  | [], n, _ => by simp [colR, sumW]
  | r :: y, n, h => by
    rw [List.mem_cons, not_or] at h
    simp only [colR, sumW]
    rw [colC_ne _ _ _ (fun e => h.1 e.symm), colR_plain t p y _ h.2]
    omega
theorem col_plain (l : List UInt8) (f tab : Int) (h : 9 ∉ runesV l) : colV l f tab = sumW (runesV l) := by
  rw [colV_R, colR_plain _ _ _ _ h]; omega
/-- What the seam says, of the program's question. -/
theorem seam_open (l m : List UInt8) (h : closesV (l.drop (l.length - pendingV l)) m = 0) : runesV (l ++ m) = runesV l ++ runesV m := by
  obtain ⟨n, k, hn, hk, -, -, -, -, -, -, hr⟩ := seam (l ++ m) l.length (by simp)
  have e1 : (l ++ m).take l.length = l := by simp
  have e2 : (l ++ m).drop l.length = m := by simp
  rw [e1] at hn hk hr
  rw [e2] at hk hr
  rw [hn] at hk
  rcases hr with ⟨_, h2⟩ | ⟨h1, -⟩
  · exact h2
  · rw [hk, h] at h1; omega
end Go.Proofs.Ytobemmfgpjgiaab
