/- What lines.Place answers. -/
import Derived.Test.YtegplcomhahpfaaLUse
import Derived.Deep.RegionHeld3
namespace Go.Proofs.Ytegplcomhahpfaa
open Go.RowKit Go.Shelf
set_option linter.unusedVariables false

/-- The answer of Place. -/
def placeV (l : List UInt8) (a c : Int) : Int × Int :=
  if (lineV l a).2.2 = 0 then (if (atV ((l.drop (lineV l a).1.1.toNat).take ((lineV l a).1.2.toNat - (lineV l a).1.1.toNat)) c).2 = 0 then ((lineV l a).1.1 + (atV ((l.drop (lineV l a).1.1.toNat).take ((lineV l a).1.2.toNat - (lineV l a).1.1.toNat)) c).1, 0) else (0, 6)) else (0, 6)

theorem lineV_cases (l : List UInt8) (a : Int) : (lineV l a = ((0, 0), 0, 6)) ∨ ∃ p q e : Nat, lineV l a = (((p : Int), (q : Int)), (e : Int), 0) ∧ p ≤ q ∧ q + e ≤ l.length ∧ ∃ k : Nat, a = (k : Int) ∧ (Ls l)[k]? = some (p, q, e) := by
  unfold lineV
  by_cases h : 0 ≤ a ∧ a < ((Ls l).length : Int)
  · rw [if_pos h]
    have hlt : a.toNat < (Ls l).length := by omega
    rw [List.getElem?_eq_getElem hlt]
    right
    have hm := Ls_mem (List.getElem_mem hlt)
    exact ⟨_, _, _, rfl, hm.1, hm.2, a.toNat, by omega, List.getElem?_eq_getElem hlt⟩
  · rw [if_neg h]; exact .inl rfl

theorem atV_cases (l : List UInt8) (c : Int) : atV l c = (0, 6) ∨ ∃ k : Nat, k ≤ l.length ∧ atV l c = ((k : Int), 0) := by
  unfold atV
  split
  · refine .inr ⟨_, ?_, rfl⟩
    unfold pl
    split
    · rename_i h; have := (Cs_lt h).1; omega
    · omega
  · exact .inl rfl

set_option maxHeartbeats 2000000 in
theorem place_any (s : ByteArray) (a c : Int) (w : World) (hs : s.size ≤ 4611686018427387904) :
    Calls Try.prog 27 #[.string s, .agg #[.int .i64 a, .int .i64 c]] w fun e w' => e = .returned (.tuple #[.int .i64 (placeV (bl s) a c).1, .int .i64 (placeV (bl s) a c).2]) ∧ Below w.heap.size w w' := by
  have kl := fun w' => lline_any s a w' hs
  have hpv : ∃ pv, placeV (bl s) a c = pv := ⟨_, rfl⟩
  obtain ⟨pv, hpv⟩ := hpv
  rw [hpv]
  unfold placeV at hpv
  rcases lineV_cases (bl s) a with hl | ⟨p, q, e, hl, hpq, hqe, _⟩
  · rw [hl] at kl hpv
    simp only [encLV] at kl
    have KL := hide kl
    have HV := hide hpv
    clear kl hl hpv
    go_enter Try.func27, Try.ntmps27
    go_wp2_with (go_at_call 11; refine (KL.out _).mono ?_; rintro e w1 ⟨rfl, hB1⟩)
    go_ret2
    rw [← HV.out]
    exact ⟨rfl, (((Below.refl _ w).alloc (Nat.le_refl _) _).trans (hB1.mono (by simp))).alloc (by have := hB1.size; simp at this; omega) _⟩
  · rw [hl] at kl hpv
    simp only [encLV] at kl
    rw [bl_len] at hqe
    simp only [Int.toNat_natCast, if_true] at hpv
    have ka := fun w' => at_any (s.extract p q) c w' (by simp; omega)
    rw [bl_extract] at ka
    obtain ⟨v1, v2, hv⟩ : ∃ v1 v2 : Int, atV (((bl s).drop p).take (q - p)) c = (v1, v2) ∧ ((v1 = 0 ∧ v2 = 6) ∨ (v2 = 0 ∧ 0 ≤ v1 ∧ v1 ≤ (q : Int) - (p : Int))) := by
      rcases atV_cases (((bl s).drop p).take (q - p)) c with h | ⟨k, hk, h⟩
      · exact ⟨0, 6, h, .inl ⟨rfl, rfl⟩⟩
      · refine ⟨k, 0, h, .inr ⟨rfl, by omega, ?_⟩⟩
        simp only [List.length_take, List.length_drop, bl_len] at hk
        omega
    rw [hv.1] at ka hpv
    replace hv := hv.2
    have HVV := hide hv
    clear hv
    have KL := hide kl
    have KA := hide ka
    have HV := hide hpv
    clear kl hl ka hpv
    have t1 : (p : Int) ≤ (q : Int) := by omega
    have t2 : (q : Int) ≤ (s.size : Int) := by omega
    have t3 : q ≤ s.size := by omega
    have hqI : Hid ((q : Int) ≤ 4611686018427387904) := show _ ≤ _ by omega
    go_enter Try.func27, Try.ntmps27
    go_wp2_with (go_at_call 11; refine (KL.out _).mono ?_; rintro e w1 ⟨rfl, hB1⟩)
    have hP0 : Box2 (w.alloc (.cells #[.int .i64 a, .int .i64 c] 47)) w.heap.size 47 (.int .i64 a) (.int .i64 c) := heap_alloc_new _ _
    have hP1 := (hP0.below hB1).below (W' := w1.alloc (.cells #[.int .i64 (p : Int), .int .i64 (q : Int)] 28)) ((Below.refl _ w1).alloc (Nat.le_refl _) _)
    have hQ1 : Box2 (w1.alloc (.cells #[.int .i64 (p : Int), .int .i64 (q : Int)] 28)) w1.heap.size 28 (.int .i64 (p : Int)) (.int .i64 (q : Int)) := heap_alloc_new _ _
    have hBX : Below w.heap.size w (w1.alloc (.cells #[.int .i64 (p : Int), .int .i64 (q : Int)] 28)) := (((Below.refl _ w).alloc (Nat.le_refl _) _).trans (hB1.mono (by simp))).alloc (by have := hB1.size; simp at this; omega) _
    generalize w1.alloc (.cells #[.int .i64 (p : Int), .int .i64 (q : Int)] 28) = X at *
    generalize w1.heap.size = Q at *
    have mk : ∀ W, Below X.heap.size X W → (Below X.heap.size X W ∧ W.cell? ⟨w.heap.size, 1, none⟩ = some (.int .i64 c) ∧ W.cell? ⟨Q, 0, none⟩ = some (.int .i64 (p : Int)) ∧ W.cell? ⟨Q, 1, none⟩ = some (.int .i64 (q : Int))) := fun W hB => ⟨hB, celOf (hP1.below hB) 1 _ rfl, celOf (hQ1.below hB) 0 _ rfl, celOf (hQ1.below hB) 1 _ rfl⟩
    have MK := hide mk
    have HBX := hide hBX
    clear mk hP0 hP1 hQ1 hBX hB1 hqe hs
    go_region_held3 (fun w' => Below X.heap.size X w' ∧ w'.cell? ⟨w.heap.size, 1, none⟩ = some (.int .i64 c) ∧ w'.cell? ⟨Q, 0, none⟩ = some (.int .i64 (p : Int)) ∧ w'.cell? ⟨Q, 1, none⟩ = some (.int .i64 (q : Int))) (first | exact MK.out _ (Below.refl _ _).drew | exact MK.out _ hW2) (first | (go_at_call 37; refine (KA.out _).mono ?_; rintro e w2 ⟨rfl, hB2⟩; have hW2 : Below X.heap.size X w2 := bseq (Below.refl _ _).drew hB2))
    by_cases hv2 : v2 = 0
    · subst hv2
      have c0 := (MK.out _ hW2).2.2.1
      have hvr : (p : Int) + v1 ≤ (q : Int) ∧ 0 ≤ (p : Int) + v1 := by have := HVV.out; omega
      have hvr1 : (p : Int) + v1 ≤ 4611686018427387904 := by have := hqI.out; omega
      have hvr2 := hvr.2
      go_wp2
      go_ret2
      rw [← HV.out]
      exact ⟨rfl, HBX.out.trans (hW2.mono HBX.out.size)⟩
    · have hne : (v2 == 0) = false := by simpa using hv2
      have HNE := hide hv2
      clear hv2
      go_wp2
      go_ret2
      have h6 : v2 = 6 := by have := HVV.out; have := HNE.out; omega
      rw [← HV.out]
      rw [if_neg HNE.out, h6]
      exact ⟨rfl, HBX.out.trans (hW2.mono HBX.out.size)⟩
end Go.Proofs.Ytegplcomhahpfaa
