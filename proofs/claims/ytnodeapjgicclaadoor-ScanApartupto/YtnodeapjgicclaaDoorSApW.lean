/- ScanApart, walked. -/
import Derived.Test.YtnodeapjgicclaaDoorSApS
import Derived.Test.YtnodeapjgicclaaDoorSSame
import Derived.Test.YtnodeapjgicclaaDoorSFlt
namespace Go.Proofs.YtnodeapjgicclaaDoor
open Go.RowKit Go.Shelf
set_option linter.unusedVariables false

theorem ScPost.any {R : List Tk ⊕ (Int × Nat)} {w w' : World} {e : Ending} (h : ScPost R w e w') : ∃ v x, e = .returned (.tuple #[v, x]) ∧ Below w.heap.size w w' := by
  cases R with
  | inl ts => obtain ⟨v, h1, _, h3⟩ := h; exact ⟨v, _, h1, h3⟩
  | inr f => obtain ⟨k, h1, _, _, h4⟩ := h; exact ⟨_, _, h1, h4⟩
set_option maxRecDepth 100000 in
set_option maxHeartbeats 4000000 in
theorem scan_over' (s : ByteArray) (w : World) (hs : 16384 < s.size) :
    Calls Tryd.prog 5 #[.string s] w fun e w' => ScPost (.inr (4, 0)) w e w' := by
  go_enter Tryd.func5, Tryd.ntmps5
  go_wp2_with (fail)
  refine wp_scope_mixR 0 (fun _ _ => False) (fun _ _ => 0) rfl (fun _ _ h => h.elim) (fun _ => ?_)
  go_wp2_with (fail)
  rw [jumpA_ret]
  go_ret2
  exact ⟨w.heap.size, rfl, Nat.le_refl _, heap_alloc_new w _, (Below.refl _ w).alloc (Nat.le_refl _) _⟩
/-- What Scan answers, of every line. -/
def RS (s : ByteArray) : List Tk ⊕ (Int × Nat) := if 16384 < s.size then .inr (4, 0) else Sc (bl s) 0 []
theorem scan_full (s : ByteArray) (w : World) (hL : LaidW w) : Calls Tryd.prog 5 #[.string s] w fun e w' => ScPost (RS s) w e w' := by
  unfold RS
  by_cases h : 16384 < s.size
  · rw [if_pos h]; exact scan_over' s w h
  · rw [if_neg h]; exact scan_any s w (by omega) hL
theorem rs_small {s : ByteArray} (h : s.size ≤ 16384) : RS s = Sc (bl s) 0 [] := by unfold RS; rw [if_neg (by omega)]
theorem rs_long {s : ByteArray} (h : 16384 < s.size) : RS s = .inr (4, 0) := by unfold RS; rw [if_pos h]
/-- The two with a blank between. -/
def mid (a b : ByteArray) : ByteArray := a ++ ⟨#[32]⟩ ++ b
theorem mid_size (a b : ByteArray) : (mid a b).size = a.size + 1 + b.size := by
  unfold mid
  rw [ByteArray.size_append, ByteArray.size_append]
  rfl
theorem mid_bl (a b : ByteArray) : bl (mid a b) = bl a ++ 32 :: bl b := by
  unfold mid
  rw [bl_append, bl_append, List.append_assoc]
  rfl
set_option maxRecDepth 100000 in
set_option maxHeartbeats 4000000 in
theorem apart_long (a b : ByteArray) (w : World) (ha : a.size ≤ 1048576) (hb : b.size ≤ 1048576) (hl : 16384 < a.size + 1 + b.size) (hL : LaidW w) (hZ : LaidZ w) (hE : LaidE w) :
    Calls Tryd.prog 4 #[.string a, .string b] w fun e w' => e = .returned (.bool true) ∧ Below w.heap.size w w' := by
  have ka := fun W h => scan_full a W h
  have kb := fun W h => scan_full b W h
  have kc := fun W h => scan_full (mid a b) W h
  rw [rs_long (by rw [mid_size]; omega)] at kc
  have KA := hide ka
  have KB := hide kb
  have KC := hide kc
  have HL := hide hL
  have HZ := hide hZ
  have HE := hide hE
  have haI : (a.size : Int) ≤ 1048576 := by omega
  have hbI : (b.size : Int) ≤ 1048576 := by omega
  have hlI : (16384 : Int) < (a.size : Int) + 1 + (b.size : Int) := by omega
  clear ka kb kc hL hZ hE
  go_enter Tryd.func4, Tryd.ntmps4
  go_wp2_with (fail)
  refine (KA.out _ HL.out).mono ?_
  intro e x1 h1
  obtain ⟨v1, y1, rfl, hb1⟩ := ScPost.any h1
  have HB1 := hide hb1
  clear h1 hb1
  go_wp2_with (fail)
  refine (KB.out _ (HL.out.below HB1.out)).mono ?_
  intro e x2 h2
  obtain ⟨v2, y2, rfl, hb2⟩ := ScPost.any h2
  have HB2 := hide (bseq HB1.out hb2)
  clear h2 hb2
  go_wp2_with (fail)
  refine (KC.out _ (HL.out.below HB2.out)).mono ?_
  rintro e x3 ⟨k, rfl, hk1, hk2, hb3⟩
  have HB3 := hide (bseq HB2.out hb3)
  have HK := hide hk2
  clear hk1 hk2 hb3
  go_wp2_with (first | (go_at_call 8; refine (isFault_some k 4 0 4 0 _ HK.out (HE.out.below HB3.out)).mono ?_; rintro e x4 ⟨rfl, hb4⟩; have HB4 := hide (bseq HB3.out hb4); clear hb4; rw [show fltV 4 0 4 0 = true from rfl]) | (go_at_call 6; refine (works_any _ (HL.out.below HB4.out) (HZ.out.below HB4.out)).mono ?_; rintro e q ⟨rfl, hq⟩))
  go_ret
  exact ⟨rfl, bseq HB4.out hq⟩
set_option maxRecDepth 100000 in
set_option maxHeartbeats 4000000 in
/-- The first one has a fault. -/
theorem apart_first (a b : ByteArray) (c : Int) (p : Nat) (w : World) (hl : a.size + 1 + b.size ≤ 16384) (hA : RS a = .inr (c, p)) (hC : (c, p) ≠ (71, a.size) → ∃ g, RS (mid a b) = .inr g) (hL : LaidW w) (hZ : LaidZ w) (hE : LaidE w) :
    Calls Tryd.prog 4 #[.string a, .string b] w fun e w' => e = .returned (.bool true) ∧ Below w.heap.size w w' := by
  have ka := fun W h => scan_full a W h
  have kb := fun W h => scan_full b W h
  have kc := fun W h => scan_full (mid a b) W h
  rw [hA] at ka
  have KA := hide ka
  have KB := hide kb
  have HL := hide hL
  have HZ := hide hZ
  have HE := hide hE
  have hlI : (a.size : Int) + 1 + (b.size : Int) ≤ 16384 := by omega
  by_cases hf : (c, p) = (71, a.size)
  · cases hf
    have KC := hide kc
    have hv : fltV 71 (a.size : Int) 71 (a.size : Int) = true := by simp [fltV]
    clear ka kb kc hL hZ hE hA hC
    go_enter Tryd.func4, Tryd.ntmps4
    go_wp2_with (fail)
    refine (KA.out _ HL.out).mono ?_
    rintro e x1 ⟨k, rfl, hk1, hk2, hb1⟩
    have HB1 := hide hb1
    have HK1 := hide hk2
    clear hk1 hb1
    go_wp2_with (fail)
    refine (KB.out _ (HL.out.below HB1.out)).mono ?_
    intro e x2 h2
    obtain ⟨v2, y2, rfl, hb2⟩ := ScPost.any h2
    have HB2 := hide (bseq HB1.out hb2)
    have HK2 := hide ((hb2.block _ (Array.getElem?_eq_some_iff.1 HK1.out).1).trans HK1.out)
    clear h2 hb2 hk2
    go_wp2_with (fail)
    refine (KC.out _ (HL.out.below HB2.out)).mono ?_
    intro e x3 h3
    obtain ⟨v3, y3, rfl, hb3⟩ := ScPost.any h3
    have HB3 := hide (bseq HB2.out hb3)
    have HK3 := hide ((hb3.block _ (Array.getElem?_eq_some_iff.1 HK2.out).1).trans HK2.out)
    clear h3 hb3
    go_wp2_with (first | (go_at_call 8; refine (isFault_some k 71 (a.size : Int) 71 (a.size : Int) _ HK3.out (HE.out.below HB3.out)).mono ?_; rintro e x4 ⟨rfl, hb4⟩; have HB4 := hide (bseq HB3.out hb4); clear hb4; rw [hv]) | (go_at_call 6; refine (works_any _ (HL.out.below HB4.out) (HZ.out.below HB4.out)).mono ?_; rintro e q ⟨rfl, hq⟩))
    go_ret
    exact ⟨rfl, bseq HB4.out hq⟩
  · obtain ⟨⟨gc, gp⟩, hg⟩ := hC hf
    rw [hg] at kc
    have KC := hide kc
    have hv : fltV c (p : Int) 71 (a.size : Int) = false := by
      unfold fltV
      by_cases h1 : c = 71
      · have h2 : ¬ (p : Int) = (a.size : Int) := fun h => hf (by rw [h1, show p = a.size by omega])
        simp [h2]
      · simp [h1]
    clear ka kb kc hL hZ hE hA hC
    go_enter Tryd.func4, Tryd.ntmps4
    go_wp2_with (fail)
    refine (KA.out _ HL.out).mono ?_
    rintro e x1 ⟨k, rfl, hk1, hk2, hb1⟩
    have HB1 := hide hb1
    have HK1 := hide hk2
    clear hk1 hb1
    go_wp2_with (fail)
    refine (KB.out _ (HL.out.below HB1.out)).mono ?_
    intro e x2 h2
    obtain ⟨v2, y2, rfl, hb2⟩ := ScPost.any h2
    have HB2 := hide (bseq HB1.out hb2)
    have HK2 := hide ((hb2.block _ (Array.getElem?_eq_some_iff.1 HK1.out).1).trans HK1.out)
    clear h2 hb2 hk2
    go_wp2_with (fail)
    refine (KC.out _ (HL.out.below HB2.out)).mono ?_
    rintro e x3 ⟨k3, rfl, hk31, hk32, hb3⟩
    have HB3 := hide (bseq HB2.out hb3)
    have HK3 := hide ((hb3.block _ (Array.getElem?_eq_some_iff.1 HK2.out).1).trans HK2.out)
    clear hk31 hk32 hb3
    go_wp2_with (first | (go_at_call 8; refine (isFault_some k c (p : Int) 71 (a.size : Int) _ HK3.out (HE.out.below HB3.out)).mono ?_; rintro e x4 ⟨rfl, hb4⟩; have HB4 := hide (bseq HB3.out hb4); clear hb4; rw [hv]) | (go_at_call 6; refine (works_any _ (HL.out.below HB4.out) (HZ.out.below HB4.out)).mono ?_; rintro e q ⟨rfl, hq⟩))
    go_ret
    exact ⟨rfl, bseq HB4.out hq⟩
set_option maxRecDepth 100000 in
set_option maxHeartbeats 4000000 in
/-- The second one alone has a fault. -/
theorem apart_second (a b : ByteArray) (ts : List Tk) (f g : Int × Nat) (w : World) (hl : a.size + 1 + b.size ≤ 16384) (hA : RS a = .inl ts) (hB : RS b = .inr f) (hC : RS (mid a b) = .inr g) (hL : LaidW w) (hZ : LaidZ w) (hE : LaidE w) :
    Calls Tryd.prog 4 #[.string a, .string b] w fun e w' => e = .returned (.bool true) ∧ Below w.heap.size w w' := by
  obtain ⟨gc, gp⟩ := g
  obtain ⟨fc, fp⟩ := f
  have ka := fun W h => scan_full a W h
  have kb := fun W h => scan_full b W h
  have kc := fun W h => scan_full (mid a b) W h
  rw [hA] at ka
  rw [hB] at kb
  rw [hC] at kc
  have KA := hide ka
  have KB := hide kb
  have KC := hide kc
  have HL := hide hL
  have HZ := hide hZ
  have HE := hide hE
  have hlI : (a.size : Int) + 1 + (b.size : Int) ≤ 16384 := by omega
  clear ka kb kc hL hZ hE hA hB hC
  go_enter Tryd.func4, Tryd.ntmps4
  go_wp2_with (fail)
  refine (KA.out _ HL.out).mono ?_
  rintro e x1 ⟨v1, rfl, hrow1, hb1⟩
  have HB1 := hide hb1
  clear hrow1 hb1
  go_wp2_with (fail)
  refine (KB.out _ (HL.out.below HB1.out)).mono ?_
  rintro e x2 ⟨k2, rfl, hk21, hk22, hb2⟩
  have HB2 := hide (bseq HB1.out hb2)
  clear hk21 hk22 hb2
  go_wp2_with (fail)
  refine (KC.out _ (HL.out.below HB2.out)).mono ?_
  rintro e x3 ⟨k3, rfl, hk31, hk32, hb3⟩
  have HB3 := hide (bseq HB2.out hb3)
  clear hk31 hk32 hb3
  go_wp2_with (first | (go_at_call 8; refine (isFault_nil 71 (a.size : Int) _).mono ?_; rintro e x4 ⟨rfl, hx4⟩; subst hx4; rw [show ((71 : Int) == 0) = false from rfl]) | (go_at_call 6; refine (works_any _ (HL.out.below HB3.out) (HZ.out.below HB3.out)).mono ?_; rintro e q ⟨rfl, hq⟩))
  go_ret
  exact ⟨rfl, bseq HB3.out hq⟩
end Go.Proofs.YtnodeapjgicclaaDoor
