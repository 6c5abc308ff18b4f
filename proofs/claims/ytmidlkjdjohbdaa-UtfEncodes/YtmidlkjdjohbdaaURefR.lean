/- What the document's Runes answers, of every text of bounded size. -/
import Derived.Test.YtmidlkjdjohbdaaUChs
namespace Go.Proofs.Ytmidlkjdjohbdaa
open Go.RowKit
set_option linter.unusedVariables false

theorem ownsRow_lower' {W : World} {base b2 : Nat} {e : TypeId} {size : Nat} {v : Value} {k : Nat} {xs : List Value} (h : W.ownsRow base e size v k xs) (hb : b2 ≤ base) : W.ownsRow b2 e size v k xs := by
  refine ⟨h.1, ?_⟩
  rcases h.2 with h2 | ⟨g, cap, cur, hv, hg, r⟩
  · exact .inl h2
  · exact .inr ⟨g, cap, cur, hv, Nat.le_trans hb hg, r⟩

set_option maxHeartbeats 1000000 in
theorem refRunes_own (s : ByteArray) (w : World) (hs : s.size ≤ 1048576) :
    Calls Try.prog 17 #[.string s] w fun e w' => ∃ v, e = .returned v ∧ w'.ownsRow w.heap.size 21 1 v (Cs 0 (bl s)).length ((runesZ (bl s)).map R32) ∧ Below w.heap.size w w' := by
  obtain ⟨i0, hi, hz0, hz1, hz2⟩ := info_parts Try.info32
  have kc := fun w => chars_any s w hs
  have hcl := Cs_len_le (bl s)
  rw [bl_len] at hcl
  have hrl := runesZ_len (bl s)
  have hrz : ∀ (k : Nat) (c : Nat × Nat × Nat), (Cs 0 (bl s))[k]? = some c → (runesZ (bl s))[k]? = some (c.2.1 : Int) := fun k c hc => by unfold runesZ; rw [List.getElem?_map, hc]; rfl
  generalize runesZ (bl s) = Z at *
  generalize Cs 0 (bl s) = L at *
  generalize hm : L.length = m at *
  have KC := hide kc
  have HM := hide hm
  have HRZ := hide hrz
  have HRL := hide hrl
  clear kc hm hrz hrl
  go_enter Try.func17, Try.ntmps17
  go_wp2_with (go_at_call 26; refine (KC.out _).mono ?_; rintro e w1 ⟨a, cap, rfl, hsl, hB⟩)
  have HSL := hide hsl
  have HB1 := hide hB
  clear hsl hB
  go_loopw [3, 5] (fun v q wr => ∃ k : Nat, k ≤ m ∧ q = .int .i64 k ∧ wr.ownsRow w1.heap.size 21 1 v k ((Z.take k).map R32) ∧ Below w1.heap.size w1 wr) (fun _ q _ => m - (intOf q).toNat)
  case atStart => exact ⟨0, by omega, rfl, World.ownsRow_nil _ _ _ _, Below.refl _ _⟩
  case round =>
    obtain ⟨k, hk, rfl, hown, hB⟩ := hrel
    by_cases hlt : k < m
    · have hlt' : (k : Int) < (m : Int) := by omega
      obtain ⟨c, hc⟩ : ∃ c, L[k]? = some c := ⟨_, List.getElem?_eq_getElem (by rw [HM.out]; exact hlt)⟩
      obtain ⟨b, rfl, hcell⟩ : ∃ b, a = some ⟨b, 0, none⟩ ∧ wr.cell? ⟨b, k * 4 + 1, none⟩ = some (.int .i32 (c.2.1 : Int)) := by
        rcases HSL.out.below hB with h | ⟨b, ha, _, hh⟩
        · rw [h] at hc; simp at hc
        · exact ⟨b, ha, (hh k c hc).2.1⟩
      have hz := HRZ.out k c hc
      have HZ := hide hz
      have HB := hide hB
      have hsz := hB.size
      clear hz hB hc
      go_wp2_with (at_builtin; refine wpList_append_own _ rfl _ _ 26 rfl w1.heap.size 21 i0 (.int .i32 0) 1 4 Try.underlying26 hi hz0 hz1 hz2 rfl (by omega) _ _ _ rfl (hown.alloc _) ⟨wr.heap.size, 0, none⟩ 1 1 [.int .i32 (c.2.1 : Int)] rfl rfl (cell_one_new _ _ _) (by simp [Value.oneCell']) (by unfold maxLen; omega) (by omega) (by simp; omega) ?_; intro v' w2 hown' hgrow _)
      go_roundw
      case rel =>
        refine ⟨k + 1, by omega, by go_num, ?_, ?_⟩
        · rw [List.take_add_one, HZ.out]
          simpa [R32] using hown'
        · exact (HB.out.alloc HB.out.size _).grown hgrow (by simp; omega) (fun j e => (hown.lt j e).1)
      case measure => simp [intOf]; omega
    · have hkm : k = m := by omega
      subst hkm
      have HO := hide hown
      have HB := hide hB
      clear hown hB
      go_wp2
      go_ret
      have h1 := HO.out
      rw [List.take_of_length_le (by rw [HRL.out]; exact Nat.le_refl _)] at h1
      exact ⟨_, rfl, ownsRow_lower' h1 HB1.out.size, bseq HB1.out HB.out⟩

theorem refRunes_any (s : ByteArray) (w : World) (hs : s.size ≤ 1048576) :
    Calls Try.prog 17 #[.string s] w fun e w' => ∃ a cap, e = .returned (.slice a (Cs 0 (bl s)).length cap) ∧ SlU w' a (runesZ (bl s)) ∧ Below w.heap.size w w' := by
  refine (refRunes_own s w hs).mono ?_
  rintro e w' ⟨v, rfl, ho, hB⟩
  rw [← runesZ_len] at ho
  obtain ⟨a, cap, rfl, hsl⟩ := slu_of_owns ho
  exact ⟨a, cap, by rw [runesZ_len], hsl, hB⟩
end Go.Proofs.Ytmidlkjdjohbdaa
