/- What lines.ends and lines.End answer. -/
import Derived.Test.YtmhbhpjpnmggkaaDoorLM
import Derived.Test.YtmhbhpjpnmggkaaDoorTShelf
import Derived.Test.YtmhbhpjpnmggkaaDoorUFirst
namespace Go.Proofs.YtmhbhpjpnmggkaaDoor
open Go.RowKit Go.Shelf
set_option linter.unusedVariables false

set_option maxHeartbeats 1000000 in
theorem ends_any (r : Nat) (w : World) : Calls Tryd.prog 68 #[.int .i32 (r : Int)] w fun e w' => e = .returned (.bool (endR4 r)) ∧ w' = w := by
  by_cases h1 : r = 10
  · subst h1
    go_enter Tryd.func68, Tryd.ntmps68
    go_wp2
    go_ret
    exact ⟨rfl, rfl⟩
  · by_cases h2 : r = 13
    · subst h2
      go_enter Tryd.func68, Tryd.ntmps68
      go_wp2
      go_ret
      exact ⟨rfl, rfl⟩
    · by_cases h3 : r = 133
      · subst h3
        go_enter Tryd.func68, Tryd.ntmps68
        go_wp2
        go_ret
        exact ⟨rfl, rfl⟩
      · by_cases h4 : r = 8232
        · subst h4
          go_enter Tryd.func68, Tryd.ntmps68
          go_wp2
          go_ret
          exact ⟨rfl, rfl⟩
        · by_cases h5 : r = 8233
          · subst h5
            go_enter Tryd.func68, Tryd.ntmps68
            go_wp2
            go_ret
            exact ⟨rfl, rfl⟩
          · have b1 : ((r : Int) == 10) = false := by simp; omega
            have b2 : ((r : Int) == 13) = false := by simp; omega
            have b3 : ((r : Int) == 133) = false := by simp; omega
            have b4 : ((r : Int) == 8232) = false := by simp; omega
            have b5 : ((r : Int) == 8233) = false := by simp; omega
            have HR : Hid (endR4 r = false) := by unfold endR4; rw [Hid, decide_eq_false_iff_not]; omega
            clear h1 h2 h3 h4 h5
            go_enter Tryd.func68, Tryd.ntmps68
            go_wp2
            go_ret
            exact ⟨ret_bool HR.out.symm, rfl⟩

theorem suffix_one (l : List UInt8) (b : UInt8) : Lib.hasSuffix l [b] = decide (l.getLast? = some b) := by
  unfold Lib.hasSuffix
  rw [Bool.eq_iff_iff, List.isSuffixOf_iff_suffix, decide_eq_true_eq]
  constructor
  · rintro ⟨t, rfl⟩; simp
  · intro h
    obtain ⟨ys, rfl⟩ := List.getLast?_eq_some_iff.1 h
    exact ⟨ys, rfl⟩
theorem prefix_one (l : List UInt8) (b : UInt8) : Lib.hasPrefix l [b] = decide (l[0]? = some b) := by
  unfold Lib.hasPrefix
  cases l with
  | nil => simp
  | cons a l =>
    by_cases h : b = a
    · subst h; simp
    · have h2 : ¬ (a = b) := fun e => h e.symm
      have h3 : (b == a) = false := by simpa using h
      simp [List.isPrefixOf, h2, h3]
/-- The byte ahead of a place is 0D. -/
theorem suffix_pv (s : ByteArray) (i : Nat) (hi : i ≤ s.size) : Lib.hasSuffix (s.extract 0 i).data.toList [13] = decide (pv (bl s) i = 13) := by
  rw [suffix_one]
  have h := bl_to s i
  unfold bl at h
  rw [h, Bool.eq_iff_iff, decide_eq_true_eq, decide_eq_true_eq]
  unfold pv
  have hl := bl_len s
  unfold bl at hl
  by_cases h0 : i = 0
  · subst h0; simp
  · rw [if_neg h0, List.getLast?_take, if_neg h0]
    have hlt : i - 1 < s.data.toList.length := by rw [hl]; omega
    unfold by' bl
    rw [List.getElem?_eq_getElem hlt]
    simp only [Option.some_or, Option.getD_some, Option.some.injEq]
    constructor
    · intro h; rw [h]; rfl
    · intro h; exact UInt8.toNat_inj.1 h
theorem prefix_nx (s : ByteArray) (i : Nat) : Lib.hasPrefix (s.extract i s.size).data.toList [10] = decide (by' (bl s) i = 10) := by
  rw [prefix_one]
  have h := bl_from s i
  unfold bl at h
  rw [h, Bool.eq_iff_iff, decide_eq_true_eq, decide_eq_true_eq, List.getElem?_drop]
  unfold by' bl
  simp only [Nat.add_zero]
  cases s.data.toList[i]? with
  | none => simp
  | some x =>
    simp only [Option.getD_some, Option.some.injEq]
    constructor
    · intro h; rw [h]; rfl
    · intro h; exact UInt8.toNat_inj.1 h

/-- The answer of End as a pair. -/
def endV (l : List UInt8) (i : Int) : Int × Bool := if 0 ≤ i ∧ i < (l.length : Int) then ((endW l i.toNat : Int), decide (endW l i.toNat ≠ 0)) else (0, false)
theorem ret_ib {a b : Int} {p q : Bool} (h : a = b) (k : p = q) : Ending.returned (.tuple #[.int .i64 a, .bool p]) = .returned (.tuple #[.int .i64 b, .bool q]) := by rw [h, k]

set_option maxHeartbeats 1000000 in
theorem end_in (s : ByteArray) (i : Nat) (w : World) (hi : i < s.size) (hs : s.size ≤ 9223372036854775807) :
    Calls Tryd.prog 69 #[.string s, .int .i64 (i : Int)] w fun e w' => e = .returned (.tuple #[.int .i64 (endW (bl s) i : Int), .bool (decide (endW (bl s) i ≠ 0))]) ∧ Below w.heap.size w w' := by
  have hne := bl_drop_ne hi
  have kf := fun w => first_any (s.extract i s.size) w (by simp; omega)
  have he := endW_rune (bl s) i
  have hsu := suffix_pv s i (by omega)
  have hpx := fun c => prefix_nx s (i + c)
  have hcl := cw_len _ hne
  rw [List.length_drop, bl_len] at hcl
  have hc1 := cw_pos ((bl s).drop i)
  have hc4 := cw_le4 ((bl s).drop i)
  have hc13 : rune ((bl s).drop i) = 13 → cw ((bl s).drop i) = 1 := fun h => by
    obtain ⟨_, r2, _, _, _, c2, _⟩ := runes_end ((bl s).drop i)
    exact c2 (r2.1 h)
  rw [bl_from, firstV_ne hne] at kf
  generalize rune ((bl s).drop i) = r at *
  generalize cw ((bl s).drop i) = c at *
  generalize endW (bl s) i = en at *
  generalize pv (bl s) i = p at *
  have hpx1 := hpx c
  clear hpx
  have hp1 : r = 13 → by' (bl s) (i + 1) = by' (bl s) (i + c) := fun h => by rw [hc13 h]
  generalize hb1 : by' (bl s) (i + c) = b1 at *
  clear hb1
  have ha1 : (i : Int) < (s.size : Int) := by omega
  have KF := hide kf
  have HE := hide he
  have HSU := hide hsu
  have HPX := hide hpx1
  have HP1 := hide hp1
  have H13 := hide hc13
  clear kf he hsu hpx1 hne hp1 hc13
  go_enter Tryd.func69, Tryd.ntmps69
  by_cases g1 : endR4 r = false
  · go_wp2_with (first | (go_at_call 20; refine (KF.out _).mono ?_; rintro e w1 ⟨rfl, hB1⟩) | (go_at_call 68; refine (ends_any r _).mono ?_; rintro e w2 ⟨rfl, rfl⟩))
    go_ret2
    have h := HE.out
    rw [if_pos g1] at h
    exact ⟨ret_ib (by rw [h]; rfl) (by rw [h]; rfl), hB1⟩
  · have g2 : endR4 r = true := by simpa using g1
    clear g1
    have ge : ¬ (endR4 r = false) := by rw [g2]; decide
    have GE := hide ge
    clear ge
    by_cases r1 : r = 10
    · have b1' : ((r : Int) == 10) = true := by simp [r1]
      have b2' : ((r : Int) == 13) = false := by simp [r1]
      have R1 := hide r1
      clear r1
      by_cases g3 : p = 13
      · have hq : decide (p = 13) = true := by simp [g3]
        have G3 := hide g3
        clear g3
        go_wp2_with (first | (go_at_call 20; refine (KF.out _).mono ?_; rintro e w1 ⟨rfl, hB1⟩) | (go_at_call 68; refine (ends_any r _).mono ?_; rintro e w2 ⟨rfl, rfl⟩) | (go_at_call 82; refine (hasSuffix_any _ _ _ (by simp; omega)).mono ?_; rintro e w2 ⟨he, rfl⟩; replace he := he.trans (congrArg (fun b => Ending.returned (.bool b)) HSU.out); subst he) | (go_at_call 83; refine (hasPrefix_any _ _ _).mono ?_; rintro e w2 ⟨he, rfl⟩; replace he := he.trans (congrArg (fun b => Ending.returned (.bool b)) HPX.out); subst he))
        go_ret2
        have h := HE.out
        rw [if_neg GE.out, if_pos ⟨R1.out, G3.out⟩] at h
        exact ⟨ret_ib (by rw [h]; rfl) (by rw [h]; rfl), hB1⟩
      · have hq : decide (p = 13) = false := by simp [g3]
        have G3 := hide g3
        clear g3
        go_wp2_with (first | (go_at_call 20; refine (KF.out _).mono ?_; rintro e w1 ⟨rfl, hB1⟩) | (go_at_call 68; refine (ends_any r _).mono ?_; rintro e w2 ⟨rfl, rfl⟩) | (go_at_call 82; refine (hasSuffix_any _ _ _ (by simp; omega)).mono ?_; rintro e w2 ⟨he, rfl⟩; replace he := he.trans (congrArg (fun b => Ending.returned (.bool b)) HSU.out); subst he) | (go_at_call 83; refine (hasPrefix_any _ _ _).mono ?_; rintro e w2 ⟨he, rfl⟩; replace he := he.trans (congrArg (fun b => Ending.returned (.bool b)) HPX.out); subst he))
        go_ret2
        have h := HE.out
        rw [if_neg GE.out, if_neg (fun k => G3.out k.2), if_neg (fun k => by have := R1.out; omega)] at h
        exact ⟨ret_ib (by rw [h]) (by rw [h]; simp; omega), hB1⟩
    · have b1' : ((r : Int) == 10) = false := by simp; omega
      have R1 := hide r1
      clear r1
      by_cases r2 : r = 13
      · have b2' : ((r : Int) == 13) = true := by simp [r2]
        have hc1' : c = 1 := H13.out r2
        have hbb := HP1.out r2
        have R2 := hide r2
        clear r2
        by_cases g3 : b1 = 10
        · have hq : decide (b1 = 10) = true := by simp [g3]
          have G3 := hide (hbb.trans g3)
          have HC := hide hc1'
          clear g3 hbb hc1'
          go_wp2_with (first | (go_at_call 20; refine (KF.out _).mono ?_; rintro e w1 ⟨rfl, hB1⟩) | (go_at_call 68; refine (ends_any r _).mono ?_; rintro e w2 ⟨rfl, rfl⟩) | (go_at_call 82; refine (hasSuffix_any _ _ _ (by simp; omega)).mono ?_; rintro e w2 ⟨he, rfl⟩; replace he := he.trans (congrArg (fun b => Ending.returned (.bool b)) HSU.out); subst he) | (go_at_call 83; refine (hasPrefix_any _ _ _).mono ?_; rintro e w2 ⟨he, rfl⟩; replace he := he.trans (congrArg (fun b => Ending.returned (.bool b)) HPX.out); subst he))
          go_ret2
          have h := HE.out
          rw [if_neg GE.out, if_neg (fun k => R1.out k.1), if_pos ⟨R2.out, G3.out⟩] at h
          exact ⟨ret_ib (by rw [h, HC.out]; rfl) (by rw [h]; rfl), hB1⟩
        · have hq : decide (b1 = 10) = false := by simp [g3]
          have G3 : Hid (¬ by' (bl s) (i + 1) = 10) := fun k => g3 (hbb.symm.trans k)
          have HC := hide hc1'
          clear g3 hbb hc1'
          go_wp2_with (first | (go_at_call 20; refine (KF.out _).mono ?_; rintro e w1 ⟨rfl, hB1⟩) | (go_at_call 68; refine (ends_any r _).mono ?_; rintro e w2 ⟨rfl, rfl⟩) | (go_at_call 82; refine (hasSuffix_any _ _ _ (by simp; omega)).mono ?_; rintro e w2 ⟨he, rfl⟩; replace he := he.trans (congrArg (fun b => Ending.returned (.bool b)) HSU.out); subst he) | (go_at_call 83; refine (hasPrefix_any _ _ _).mono ?_; rintro e w2 ⟨he, rfl⟩; replace he := he.trans (congrArg (fun b => Ending.returned (.bool b)) HPX.out); subst he))
          go_ret2
          have h := HE.out
          rw [if_neg GE.out, if_neg (fun k => R1.out k.1), if_neg (fun k => G3.out k.2)] at h
          exact ⟨ret_ib (by rw [h]) (by rw [h]; simp; omega), hB1⟩
      · have b2' : ((r : Int) == 13) = false := by simp; omega
        have R2 := hide r2
        clear r2
        go_wp2_with (first | (go_at_call 20; refine (KF.out _).mono ?_; rintro e w1 ⟨rfl, hB1⟩) | (go_at_call 68; refine (ends_any r _).mono ?_; rintro e w2 ⟨rfl, rfl⟩) | (go_at_call 82; refine (hasSuffix_any _ _ _ (by simp; omega)).mono ?_; rintro e w2 ⟨he, rfl⟩; replace he := he.trans (congrArg (fun b => Ending.returned (.bool b)) HSU.out); subst he) | (go_at_call 83; refine (hasPrefix_any _ _ _).mono ?_; rintro e w2 ⟨he, rfl⟩; replace he := he.trans (congrArg (fun b => Ending.returned (.bool b)) HPX.out); subst he))
        go_ret2
        have h := HE.out
        rw [if_neg GE.out, if_neg (fun k => R1.out k.1), if_neg (fun k => R2.out k.1)] at h
        exact ⟨ret_ib (by rw [h]) (by rw [h]; simp; omega), hB1⟩

theorem end_bad (s : ByteArray) (n : Int) (w : World) (hb : n < 0 ∨ (s.size : Int) ≤ n) :
    Calls Tryd.prog 69 #[.string s, .int .i64 n] w fun e w' => e = .returned (.tuple #[.int .i64 0, .bool false]) ∧ w' = w := by
  by_cases h : n < 0
  · clear hb
    go_enter Tryd.func69, Tryd.ntmps69
    go_wp2
    go_ret2
    exact ⟨rfl, rfl⟩
  · have h2 : (s.size : Int) ≤ n := by omega
    have h3 : 0 ≤ n := by omega
    clear hb h
    go_enter Tryd.func69, Tryd.ntmps69
    go_wp2
    go_ret2
    exact ⟨rfl, rfl⟩

theorem end_any (s : ByteArray) (n : Int) (w : World) (hs : s.size ≤ 9223372036854775807) :
    Calls Tryd.prog 69 #[.string s, .int .i64 n] w fun e w' => e = .returned (.tuple #[.int .i64 (endV (bl s) n).1, .bool (endV (bl s) n).2]) ∧ Below w.heap.size w w' := by
  by_cases h : 0 ≤ n ∧ n < (s.size : Int)
  · obtain ⟨i, rfl⟩ : ∃ i : Nat, n = (i : Int) := ⟨n.toNat, by omega⟩
    have e : endV (bl s) (i : Int) = ((endW (bl s) i : Int), decide (endW (bl s) i ≠ 0)) := by unfold endV; rw [bl_len, if_pos h, Int.toNat_natCast]
    rw [e]
    exact end_in s i w (by omega) hs
  · have e : endV (bl s) n = (0, false) := by unfold endV; rw [bl_len, if_neg h]
    rw [e]
    refine (end_bad s n w (by omega)).mono ?_
    rintro e w' ⟨rfl, rfl⟩
    exact ⟨rfl, Below.refl _ _⟩
end Go.Proofs.YtmhbhpjpnmggkaaDoor
