/- What kinds.Alike answers. -/
import Derived.Test.YtdjkbldbihpocaaKRune
import Derived.Test.YtdjkbldbihpocaaUPlaces
import Derived.Test.YtdjkbldbihpocaaUSeam
import Derived.Deep.QuietTactic
import Derived.BigQuiet
import Derived.WalkSmall
namespace Go.Proofs.Ytdjkbldbihpocaa
open Go.RowKit
set_option linter.unusedVariables false

/-- What two characters are compared by: right, and folded; or wrong, and the byte. -/
def key (l : List UInt8) : Bool × Int := if W l ≠ 0 then (true, foldK (rune l : Nat)) else (false, (by' l 0 : Nat))
def ksF : Nat → List UInt8 → List (Bool × Int)
  | 0, _ => []
  | f + 1, l => if l = [] then [] else key l :: ksF f (l.drop (cw l))
def Ks (l : List UInt8) : List (Bool × Int) := ksF l.length l
theorem ksF_eq : ∀ (f g : Nat) (l : List UInt8), l.length ≤ f → l.length ≤ g → ksF f l = ksF g l := by
  intro f
  induction f with
  | zero => intro g l h _; have e : l = [] := List.length_eq_zero_iff.1 (by omega); subst e; cases g <;> simp [ksF]
  | succ f ih =>
    intro g l hf hg
    by_cases e : l = []
    · subst e; cases g <;> simp [ksF]
    · cases g with
      | zero => exact absurd (List.length_eq_zero_iff.1 (by omega)) e
      | succ g =>
        have h1 := cw_pos l
        have hp := List.length_pos_iff.2 e
        simp only [ksF, if_neg e]
        rw [ih g (l.drop (cw l)) (by rw [List.length_drop]; omega) (by rw [List.length_drop]; omega)]
theorem Ks_nil : Ks [] = [] := rfl
theorem Ks_cons {l : List UInt8} (h : l ≠ []) : Ks l = key l :: Ks (l.drop (cw l)) := by
  have hp := List.length_pos_iff.2 h
  have h1 := cw_pos l
  unfold Ks
  obtain ⟨n, hn⟩ : ∃ n, l.length = n + 1 := ⟨l.length - 1, by omega⟩
  rw [hn]
  simp only [ksF, if_neg h]
  rw [ksF_eq n _ (l.drop (cw l)) (by rw [List.length_drop]; omega) (Nat.le_refl _)]
theorem Ks_ne {l : List UInt8} (h : l ≠ []) : Ks l ≠ [] := by rw [Ks_cons h]; simp
def alikeV (l m : List UInt8) : Bool := decide (Ks l = Ks m)
def strSize : Value → Nat
  | .string s => s.size
  | _ => 0
theorem alike_end {l m : List UInt8} (h : l = [] ∨ m = []) : alikeV l m = (decide (l = []) && decide (m = [])) := by
  unfold alikeV
  by_cases hl : l = []
  · subst hl
    by_cases hm : m = []
    · subst hm; simp
    · rw [decide_eq_false hm, decide_eq_false (by rw [Ks_nil]; exact (Ks_ne hm).symm)]; simp
  · have hm : m = [] := h.resolve_left hl
    subst hm
    rw [decide_eq_false hl, decide_eq_false (by rw [Ks_nil]; exact Ks_ne hl)]; simp
theorem alike_no {l m : List UInt8} (hl : l ≠ []) (hm : m ≠ []) (h : key l ≠ key m) : alikeV l m = false := by
  unfold alikeV
  rw [Ks_cons hl, Ks_cons hm]
  simp [h]
theorem alike_on {l m : List UInt8} (hl : l ≠ []) (hm : m ≠ []) (h : key l = key m) : alikeV l m = alikeV (l.drop (cw l)) (m.drop (cw m)) := by
  unfold alikeV
  rw [Ks_cons hl, Ks_cons hm]
  simp [h]

set_option maxHeartbeats 2000000 in
theorem alike_any (a b : ByteArray) (w : World) (ha : a.size ≤ 9223372036854775807) (hb : b.size ≤ 9223372036854775807) :
    Calls Try.prog 5 #[.string a, .string b] w fun e w' => e = .returned (.bool (alikeV (bl a) (bl b))) ∧ Below w.heap.size w w' := by
  generalize hR : alikeV (bl a) (bl b) = R
  have HR := hide hR
  clear hR
  go_enter Try.func5, Try.ntmps5
  go_wp2
  go_loopw [0, 1] (fun p q wr => ∃ x y : ByteArray, p = .string x ∧ q = .string y ∧ x.size ≤ 9223372036854775807 ∧ y.size ≤ 9223372036854775807 ∧ alikeV (bl x) (bl y) = R ∧ Below w.heap.size w wr) (fun p _ _ => strSize p)
  case atStart => exact ⟨a, b, rfl, rfl, ha, hb, HR.out, Below.refl _ _⟩
  case round =>
    clear HR
    obtain ⟨x, y, rfl, rfl, hx, hy, hR, hB⟩ := hrel
    by_cases hx0 : x.size = 0
    · have e1 := isEmpty_true hx0
      have hv : alikeV (bl x) (bl y) = (decide (bl x = []) && decide (bl y = [])) := alike_end (.inl (bl_nil hx0))
      rw [hR, bl_nil hx0] at hv
      by_cases hy0 : y.size = 0
      · have e2 := isEmpty_true hy0
        rw [bl_nil hy0] at hv
        have HV := hide hv
        clear hv hR hx0 hy0
        go_wp2
        go_ret
        exact ⟨ret_b (by rw [HV.out]; rfl), hB⟩
      · have e2 := isEmpty_false (s := y) (by omega)
        rw [decide_eq_false (bl_ne (s := y) (by omega))] at hv
        have HV := hide hv
        clear hv hR hx0 hy0
        go_wp2
        go_ret
        exact ⟨ret_b (by rw [HV.out]; rfl), hB⟩
    · have e1 := isEmpty_false (s := x) (by omega)
      by_cases hy0 : y.size = 0
      · have e2 := isEmpty_true hy0
        have hv : alikeV (bl x) (bl y) = (decide (bl x = []) && decide (bl y = [])) := alike_end (.inr (bl_nil hy0))
        rw [hR, decide_eq_false (bl_ne (s := x) (by omega))] at hv
        have HV := hide hv
        clear hv hR hx0 hy0
        go_wp2
        go_ret
        exact ⟨ret_b (by rw [HV.out]; rfl), hB⟩
      · have e2 := isEmpty_false (s := y) (by omega)
        have hxn := bl_ne (s := x) (by omega)
        have hyn := bl_ne (s := y) (by omega)
        have hfx := firstV_ne hxn
        have hfy := firstV_ne hyn
        have hcx := cw_pos (bl x)
        have hcx2 := cw_len _ hxn
        have hcy := cw_pos (bl y)
        have hcy2 := cw_len _ hyn
        rw [bl_len] at hcx2 hcy2
        have hkx : key (bl x) = if W (bl x) ≠ 0 then (true, foldK (rune (bl x) : Nat)) else (false, (by' (bl x) 0 : Nat)) := rfl
        have hky : key (bl y) = if W (bl y) ≠ 0 then (true, foldK (rune (bl y) : Nat)) else (false, (by' (bl y) 0 : Nat)) := rfl
        have hno := fun h => (alike_no hxn hyn h).symm.trans hR
        have hon := fun h => (alike_on hxn hyn h).symm.trans hR
        have hx1 : 0 < x.size := by omega
        have hy1 : 0 < y.size := by omega
        rw [← bl_from x, ← bl_from y] at hon
        clear hR
        generalize cw (bl x) = cx at *
        generalize cw (bl y) = cy at *
        obtain ⟨rx, hrx⟩ : ∃ rx, rune (bl x) = rx := ⟨_, rfl⟩
        obtain ⟨ry, hry⟩ : ∃ ry, rune (bl y) = ry := ⟨_, rfl⟩
        rw [hrx] at hfx hkx
        rw [hry] at hfy hky
        clear hrx hry
        have M1 := hide trivial
        have hgx : by' (bl x) 0 = (x[0]'hx1).toNat := by'_get x 0 hx1
        have hgy : by' (bl y) 0 = (y[0]'hy1).toNat := by'_get y 0 hy1
        have hcxI : (cx : Int) ≤ (x.size : Int) := by omega
        have hcyI : (cy : Int) ≤ (y.size : Int) := by omega
        by_cases hwx : W (bl x) = 0
        · rw [if_neg (by simpa using hwx)] at hkx
          rw [decide_eq_false (by simpa using hwx)] at hfx
          by_cases hwy : W (bl y) = 0
          · rw [if_neg (by simpa using hwy)] at hky
            rw [decide_eq_false (by simpa using hwy)] at hfy
            by_cases hbb : by' (bl x) 0 = by' (bl y) 0
            · have HO := hide (hon (by rw [hkx, hky, hbb]))
              have hq : (((x[0]'hx1).toNat : Int) != ((y[0]'hy1).toNat : Int)) = false := by rw [← hgx, ← hgy, hbb]; simp
              clear hno hon hkx hky hwx hwy hxn hyn hx0 hy0 hbb hgx hgy
              go_wp2_with (first | (clear M1; go_at_call 16; refine (first_any _ _ (by assumption)).mono ?_; rintro e w1 ⟨rfl, hB1⟩) | (go_at_call 16; refine (first_any _ _ (by assumption)).mono ?_; rintro e w2 ⟨rfl, hB2⟩) | (go_at_call 8; refine (fold_any _ _).mono ?_; rintro e w3 ⟨rfl, rfl⟩))
              go_quiet (fail)
              go_wp2
              go_quiet (fail)
              go_wp2
              go_roundw
              case rel => exact ⟨_, _, rfl, rfl, by simp; omega, by simp; omega, HO.out, below_drewN (below_drewN (bseq (bseq hB hB1) hB2) _) _⟩
              case measure => simp [strSize]; omega
            · have HO := hide (hno (by rw [hkx, hky]; intro e; simp at e; exact hbb (by omega)))
              have hq : (((x[0]'hx1).toNat : Int) != ((y[0]'hy1).toNat : Int)) = true := by rw [← hgx, ← hgy]; simp; omega
              clear hno hon hkx hky hwx hwy hxn hyn hx0 hy0 hbb hgx hgy
              go_wp2_with (first | (clear M1; go_at_call 16; refine (first_any _ _ (by assumption)).mono ?_; rintro e w1 ⟨rfl, hB1⟩) | (go_at_call 16; refine (first_any _ _ (by assumption)).mono ?_; rintro e w2 ⟨rfl, hB2⟩) | (go_at_call 8; refine (fold_any _ _).mono ?_; rintro e w3 ⟨rfl, rfl⟩))
              go_quiet (fail)
              go_wp2
              go_ret
              exact ⟨ret_b (by rw [← HO.out]), below_drewN (bseq (bseq hB hB1) hB2) _⟩
          · rw [if_pos hwy] at hky
            rw [decide_eq_true hwy] at hfy
            have HO := hide (hno (by rw [hkx, hky]; intro e; simp at e))
            clear hno hon hkx hky hwx hwy hxn hyn hx0 hy0
            go_wp2_with (first | (clear M1; go_at_call 16; refine (first_any _ _ (by assumption)).mono ?_; rintro e w1 ⟨rfl, hB1⟩) | (go_at_call 16; refine (first_any _ _ (by assumption)).mono ?_; rintro e w2 ⟨rfl, hB2⟩) | (go_at_call 8; refine (fold_any _ _).mono ?_; rintro e w3 ⟨rfl, rfl⟩))
            go_ret
            exact ⟨ret_b (by rw [← HO.out]), bseq (bseq hB hB1) hB2⟩
        · rw [if_pos hwx] at hkx
          rw [decide_eq_true hwx] at hfx
          by_cases hwy : W (bl y) = 0
          · rw [if_neg (by simpa using hwy)] at hky
            rw [decide_eq_false (by simpa using hwy)] at hfy
            have HO := hide (hno (by rw [hkx, hky]; intro e; simp at e))
            clear hno hon hkx hky hwx hwy hxn hyn hx0 hy0
            go_wp2_with (first | (clear M1; go_at_call 16; refine (first_any _ _ (by assumption)).mono ?_; rintro e w1 ⟨rfl, hB1⟩) | (go_at_call 16; refine (first_any _ _ (by assumption)).mono ?_; rintro e w2 ⟨rfl, hB2⟩) | (go_at_call 8; refine (fold_any _ _).mono ?_; rintro e w3 ⟨rfl, rfl⟩))
            go_ret
            exact ⟨ret_b (by rw [← HO.out]), bseq (bseq hB hB1) hB2⟩
          · rw [if_pos hwy] at hky
            rw [decide_eq_true hwy] at hfy
            by_cases hff : foldK (rx : Int) = foldK (ry : Int)
            · have HO := hide (hon (by rw [hkx, hky, hff]))
              clear hno hon hkx hky hwx hwy hxn hyn hx0 hy0 hgx hgy
              go_wp2_with (first | (clear M1; go_at_call 16; refine (first_any _ _ (by assumption)).mono ?_; rintro e w1 ⟨rfl, hB1⟩) | (go_at_call 16; refine (first_any _ _ (by assumption)).mono ?_; rintro e w2 ⟨rfl, hB2⟩) | (go_at_call 8; refine (fold_any _ _).mono ?_; rintro e w3 ⟨rfl, rfl⟩))
              go_quiet (fail)
              go_wp2
              go_quiet (fail)
              go_wp2
              go_roundw
              case rel => exact ⟨_, _, rfl, rfl, by simp; omega, by simp; omega, HO.out, below_drewN (below_drewN (bseq (bseq hB hB1) hB2) _) _⟩
              case measure => simp [strSize]; omega
            · have HO := hide (hno (by rw [hkx, hky]; intro e; exact hff (by simpa using e)))
              have hfb : (foldK (rx : Int) != foldK (ry : Int)) = true := by simp [hff]
              clear hno hon hkx hky hwx hwy hxn hyn hx0 hy0 hff hgx hgy
              go_wp2_with (first | (clear M1; go_at_call 16; refine (first_any _ _ (by assumption)).mono ?_; rintro e w1 ⟨rfl, hB1⟩) | (go_at_call 16; refine (first_any _ _ (by assumption)).mono ?_; rintro e w2 ⟨rfl, hB2⟩) | (go_at_call 8; refine (fold_any _ _).mono ?_; rintro e w3 ⟨rfl, rfl⟩))
              go_ret
              exact ⟨ret_b (by rw [← HO.out]), bseq (bseq hB hB1) hB2⟩
end Go.Proofs.Ytdjkbldbihpocaa
