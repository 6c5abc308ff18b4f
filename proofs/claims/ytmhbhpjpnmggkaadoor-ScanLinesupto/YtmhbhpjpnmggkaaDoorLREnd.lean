/- What the document's End answers. -/
import Derived.Test.YtmhbhpjpnmggkaaDoorLEnd
namespace Go.Proofs.YtmhbhpjpnmggkaaDoor
open Go.RowKit Go.Shelf
set_option linter.unusedVariables false

set_option maxHeartbeats 4000000 in
theorem rend_w (s : ByteArray) (i : Nat) (w : World) (hi : i < s.size) (hs : (s.size : Int) ≤ 4611686018427387904) (t : ByteArray) (ht : s.extract i s.size = t) (b0 b1 b2 p : Nat) (h0 : 0 < t.size) (h0' : (t[0]'h0).toNat = b0) (h1 : (h : 1 < t.size) → (t[1]'h).toNat = b1) (h2 : (h : 2 < t.size) → (t[2]'h).toNat = b2)
    (hp : (h : i ≠ 0) → (s[i - 1]'(by omega)).toNat = p) (k1 : ¬ 1 < t.size → b1 = 0) (k2 : ¬ 2 < t.size → b2 = 0) (kp : i = 0 → p = 0) (bb : Bool) (hbb : (bb = true ∧ endB p b0 b1 b2 ≠ 0) ∨ (bb = false ∧ endB p b0 b1 b2 = 0)) :
    Calls Tryd.prog 53 #[.string s, .int .i64 (i : Int)] w fun e w' => ∃ m : Int, e = .returned (.tuple #[.int .i64 m, .bool bb]) ∧ (endB p b0 b1 b2 ≠ 0 → m = (endB p b0 b1 b2 : Nat)) ∧ Below w.heap.size w w' := by
  have hiI : (i : Int) < (s.size : Int) := by omega
  have hc := endB_cases p b0 b1 b2
  generalize endB p b0 b1 b2 = en at *
  have HC := hide hc
  have K1 := hide k1
  have K2 := hide k2
  have KP := hide kp
  have HP := hide hp
  have H1 := hide h1
  have H2 := hide h2
  have HBB := hide hbb
  clear hc k1 k2 kp hp h1 h2 hbb
  by_cases b10 : b0 = 10
  · have e13 : ((b0 : Int) == 13) = false := by simp [b10]
    have e10 : ((b0 : Int) == 10) = true := by simp [b10]
    by_cases hz : i = 0
    · have hz0 : ((i : Int) == 0) = true := by simp [hz]
      have HZ := hide hz
      clear hz
      by_cases l1 : 1 < t.size
      · have l1I : (1 : Int) < (t.size : Int) := by omega
        go_enter Tryd.func53, Tryd.ntmps53
        go_wp2
        all_goals (try go_region)
        all_goals go_wp2
        all_goals go_ret2
        all_goals refine ⟨_, ret_ib rfl ?_, ?_, ?_⟩
        all_goals first | exact Below.refl _ _ | exact (Below.refl _ _).drew | skip
        all_goals (try simp only [beq_iff_eq, beq_eq_false_iff_ne, ne_eq] at *)
        all_goals have hc := HC.out
        all_goals have hk1 := K1.out
        all_goals have hk2 := K2.out
        all_goals have hkp := KP.out HZ.out
        all_goals first | (intro _; omega) | (rcases HBB.out with ⟨h, h'⟩ | ⟨h, h'⟩ <;> first | exact h.symm | (exfalso; omega))
      · have l1I : (t.size : Int) ≤ 1 := by omega
        go_enter Tryd.func53, Tryd.ntmps53
        go_wp2
        all_goals (try go_region)
        all_goals go_wp2
        all_goals go_ret2
        all_goals refine ⟨_, ret_ib rfl ?_, ?_, ?_⟩
        all_goals first | exact Below.refl _ _ | exact (Below.refl _ _).drew | skip
        all_goals (try simp only [beq_iff_eq, beq_eq_false_iff_ne, ne_eq] at *)
        all_goals have hc := HC.out
        all_goals have hk1 := K1.out
        all_goals have hk2 := K2.out
        all_goals have hkp := KP.out HZ.out
        all_goals first | (intro _; omega) | (rcases HBB.out with ⟨h, h'⟩ | ⟨h, h'⟩ <;> first | exact h.symm | (exfalso; omega))
    · obtain ⟨j, rfl⟩ : ∃ j, i = j + 1 := ⟨i - 1, by omega⟩
      have hpj : (s[j]'(by omega)).toNat = p := HP.out (by omega)
      have hj0 : ((j : Int) + 1 == 0) = false := by simp; omega
      have hwj : IntKind.i64.wrap (j : Int) = (j : Int) := by rw [IntKind.wrap_i64]; omega
      have hjs : j < s.size := by omega
      have hjI : (j : Int) < (s.size : Int) := by omega
      by_cases p13 : p = 13
      · have hq : ((p : Int) == 13) = true := by simp [p13]
        have hq' : ((p : Int) != 13) = false := by simp [p13]
        by_cases l1 : 1 < t.size
        · have l1I : (1 : Int) < (t.size : Int) := by omega
          go_enter Tryd.func53, Tryd.ntmps53
          go_wp2
          all_goals (try go_region)
          all_goals go_wp2
          all_goals go_ret2
          all_goals refine ⟨_, ret_ib rfl ?_, ?_, ?_⟩
          all_goals first | exact Below.refl _ _ | exact (Below.refl _ _).drew | skip
          all_goals (try simp only [beq_iff_eq, beq_eq_false_iff_ne, ne_eq] at *)
          all_goals have hc := HC.out
          all_goals have hk1 := K1.out
          all_goals have hk2 := K2.out
          all_goals have hkp := KP.out
          all_goals first | (intro _; omega) | (rcases HBB.out with ⟨h, h'⟩ | ⟨h, h'⟩ <;> first | exact h.symm | (exfalso; omega))
        · have l1I : (t.size : Int) ≤ 1 := by omega
          go_enter Tryd.func53, Tryd.ntmps53
          go_wp2
          all_goals (try go_region)
          all_goals go_wp2
          all_goals go_ret2
          all_goals refine ⟨_, ret_ib rfl ?_, ?_, ?_⟩
          all_goals first | exact Below.refl _ _ | exact (Below.refl _ _).drew | skip
          all_goals (try simp only [beq_iff_eq, beq_eq_false_iff_ne, ne_eq] at *)
          all_goals have hc := HC.out
          all_goals have hk1 := K1.out
          all_goals have hk2 := K2.out
          all_goals have hkp := KP.out
          all_goals first | (intro _; omega) | (rcases HBB.out with ⟨h, h'⟩ | ⟨h, h'⟩ <;> first | exact h.symm | (exfalso; omega))
      · have hq : ((p : Int) == 13) = false := by simp; omega
        have hq' : ((p : Int) != 13) = true := by simp; omega
        by_cases l1 : 1 < t.size
        · have l1I : (1 : Int) < (t.size : Int) := by omega
          go_enter Tryd.func53, Tryd.ntmps53
          go_wp2
          all_goals (try go_region)
          all_goals go_wp2
          all_goals go_ret2
          all_goals refine ⟨_, ret_ib rfl ?_, ?_, ?_⟩
          all_goals first | exact Below.refl _ _ | exact (Below.refl _ _).drew | skip
          all_goals (try simp only [beq_iff_eq, beq_eq_false_iff_ne, ne_eq] at *)
          all_goals have hc := HC.out
          all_goals have hk1 := K1.out
          all_goals have hk2 := K2.out
          all_goals have hkp := KP.out
          all_goals first | (intro _; omega) | (rcases HBB.out with ⟨h, h'⟩ | ⟨h, h'⟩ <;> first | exact h.symm | (exfalso; omega))
        · have l1I : (t.size : Int) ≤ 1 := by omega
          go_enter Tryd.func53, Tryd.ntmps53
          go_wp2
          all_goals (try go_region)
          all_goals go_wp2
          all_goals go_ret2
          all_goals refine ⟨_, ret_ib rfl ?_, ?_, ?_⟩
          all_goals first | exact Below.refl _ _ | exact (Below.refl _ _).drew | skip
          all_goals (try simp only [beq_iff_eq, beq_eq_false_iff_ne, ne_eq] at *)
          all_goals have hc := HC.out
          all_goals have hk1 := K1.out
          all_goals have hk2 := K2.out
          all_goals have hkp := KP.out
          all_goals first | (intro _; omega) | (rcases HBB.out with ⟨h, h'⟩ | ⟨h, h'⟩ <;> first | exact h.symm | (exfalso; omega))
  · have e10 : ((b0 : Int) == 10) = false := by simp; omega
    clear HP
    by_cases l1 : 1 < t.size
    · have l1I : (1 : Int) < (t.size : Int) := by omega
      have g1 := H1.out l1
      by_cases l2 : 2 < t.size
      · have l2I : (2 : Int) < (t.size : Int) := by omega
        have g2 := H2.out l2
        go_enter Tryd.func53, Tryd.ntmps53
        go_wp2
        all_goals go_ret2
        all_goals refine ⟨_, ret_ib rfl ?_, ?_, ?_⟩
        all_goals first | exact Below.refl _ _ | exact (Below.refl _ _).drew | skip
        all_goals (try simp only [beq_iff_eq, beq_eq_false_iff_ne, ne_eq] at *)
        all_goals have hc := HC.out
        all_goals have hk1 := K1.out
        all_goals have hk2 := K2.out
        all_goals have hkp := KP.out
        all_goals first | (intro _; omega) | (rcases HBB.out with ⟨h, h'⟩ | ⟨h, h'⟩ <;> first | exact h.symm | (exfalso; omega))
      · have l2I : (t.size : Int) ≤ 2 := by omega
        go_enter Tryd.func53, Tryd.ntmps53
        go_wp2
        all_goals go_ret2
        all_goals refine ⟨_, ret_ib rfl ?_, ?_, ?_⟩
        all_goals first | exact Below.refl _ _ | exact (Below.refl _ _).drew | skip
        all_goals (try simp only [beq_iff_eq, beq_eq_false_iff_ne, ne_eq] at *)
        all_goals have hc := HC.out
        all_goals have hk1 := K1.out
        all_goals have hk2 := K2.out
        all_goals have hkp := KP.out
        all_goals first | (intro _; omega) | (rcases HBB.out with ⟨h, h'⟩ | ⟨h, h'⟩ <;> first | exact h.symm | (exfalso; omega))
    · have l1I : (t.size : Int) ≤ 1 := by omega
      have l2I : (t.size : Int) ≤ 2 := by omega
      go_enter Tryd.func53, Tryd.ntmps53
      go_wp2
      all_goals go_ret2
      all_goals refine ⟨_, ret_ib rfl ?_, ?_, ?_⟩
      all_goals first | exact Below.refl _ _ | exact (Below.refl _ _).drew | skip
      all_goals (try simp only [beq_iff_eq, beq_eq_false_iff_ne, ne_eq] at *)
      all_goals have hc := HC.out
      all_goals have hk1 := K1.out
      all_goals have hk2 := K2.out
      all_goals have hkp := KP.out
      all_goals first | (intro _; omega) | (rcases HBB.out with ⟨h, h'⟩ | ⟨h, h'⟩ <;> first | exact h.symm | (exfalso; omega))

theorem rend_bad (s : ByteArray) (n : Int) (w : World) (hb : n < 0 ∨ (s.size : Int) ≤ n) :
    Calls Tryd.prog 53 #[.string s, .int .i64 n] w fun e w' => e = .returned (.tuple #[.int .i64 0, .bool false]) ∧ w' = w := by
  by_cases h : n < 0
  · clear hb
    go_enter Tryd.func53, Tryd.ntmps53
    go_wp2
    go_ret2
    exact ⟨rfl, rfl⟩
  · have h2 : (s.size : Int) ≤ n := by omega
    have h3 : 0 ≤ n := by omega
    clear hb h
    go_enter Tryd.func53, Tryd.ntmps53
    go_wp2
    go_ret2
    exact ⟨rfl, rfl⟩

theorem rend_any (s : ByteArray) (n : Int) (w : World) (hs : s.size ≤ 4611686018427387904) :
    Calls Tryd.prog 53 #[.string s, .int .i64 n] w fun e w' => ∃ m : Int, e = .returned (.tuple #[.int .i64 m, .bool (endV (bl s) n).2]) ∧ ((endV (bl s) n).2 = true → m = (endV (bl s) n).1) ∧ Below w.heap.size w w' := by
  by_cases h : 0 ≤ n ∧ n < (s.size : Int)
  · obtain ⟨i, rfl⟩ : ∃ i : Nat, n = (i : Int) := ⟨n.toNat, by omega⟩
    have e : endV (bl s) (i : Int) = ((endW (bl s) i : Int), decide (endW (bl s) i ≠ 0)) := by unfold endV; rw [bl_len, if_pos h, Int.toNat_natCast]
    rw [e]
    have hi : i < s.size := by omega
    have hts : (s.extract i s.size).size = s.size - i := by simp
    have gb : ∀ k (hk : k < (s.extract i s.size).size), ((s.extract i s.size)[k]'hk).toNat = by' (bl s) (i + k) := fun k hk => by
      rw [← by'_get, ← by'_drop]
      have := bl_from s i
      unfold bl at this ⊢
      rw [this]
    have gz : ∀ k, ¬ k < (s.extract i s.size).size → by' (bl s) (i + k) = 0 := fun k hk => by'_beyond _ _ (by rw [bl_len]; omega)
    refine (rend_w s i w hi (by omega) _ rfl (by' (bl s) i) (by' (bl s) (i + 1)) (by' (bl s) (i + 2)) (pv (bl s) i) (by omega) (gb 0 _) (fun h => gb 1 h) (fun h => gb 2 h) ?_ (gz 1) (gz 2) ?_ (decide (endW (bl s) i ≠ 0)) ?_).mono ?_
    · intro h0
      unfold pv
      rw [if_neg h0]
      exact (by'_get s (i - 1) (by omega)).symm
    · intro h0; unfold pv; rw [if_pos h0]
    · show _ ∧ endW (bl s) i ≠ 0 ∨ _ ∧ endW (bl s) i = 0
      by_cases h0 : endW (bl s) i = 0
      · right; simp [h0]
      · left; simp [h0]
    · rintro e w' ⟨m, rfl, hm, hB⟩
      exact ⟨m, rfl, fun h => hm (of_decide_eq_true h), hB⟩
  · have e : endV (bl s) n = (0, false) := by unfold endV; rw [bl_len, if_neg h]
    rw [e]
    refine (rend_bad s n w (by omega)).mono ?_
    rintro e w' ⟨rfl, rfl⟩
    exact ⟨0, rfl, (fun h => by cases h), Below.refl _ _⟩
end Go.Proofs.YtmhbhpjpnmggkaaDoor
