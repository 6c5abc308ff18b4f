/- The document's into; which stop is the first behind a place, and which the last ahead of it. -/
import Derived.Test.YtihfnnhfpohakaaKSt2
namespace Go.Proofs.Ytihfnnhfpohakaa
open Go.RowKit Go.Shelf
set_option linter.unusedVariables false

set_option maxHeartbeats 1000000 in
theorem rinto_any (s : ByteArray) (n : Int) (w : World) (hs : s.size ≤ 1048576) :
    Calls Try.prog 15 #[.string s, .int .i64 n] w fun e w' => e = .returned (.int .i64 (intoV (bl s) n : Nat)) ∧ Below w.heap.size w w' := by
  by_cases h0 : n < 0
  · have e : intoV (bl s) n = 0 := by unfold intoV; rw [show clampV (bl s) n = 0 by unfold clampV; omega]; rfl
    rw [e]
    have d1 : decide (n < 0) = true := decide_eq_true h0
    go_enter Try.func15, Try.ntmps15
    go_wp2
    go_ret
    exact ⟨rfl, Below.refl _ _⟩
  by_cases h1 : (s.size : Int) < n
  · have e : intoV (bl s) n = s.size := by
      unfold intoV
      rw [show clampV (bl s) n = s.size by unfold clampV; rw [bl_len]; omega]
      exact dn_yes ((begins_Bd _ _ (by rw [bl_len]; exact Nat.le_refl _)).2 (.inr (bl_len s).symm))
    rw [e]
    have d1 : decide (n < 0) = false := decide_eq_false h0
    have d2 : decide ((s.size : Int) < n) = true := decide_eq_true h1
    clear e
    go_enter Try.func15, Try.ntmps15
    go_wp2
    go_ret
    exact ⟨rfl, Below.refl _ _⟩
  obtain ⟨C, rfl⟩ : ∃ C : Nat, n = (C : Int) := ⟨n.toNat, by omega⟩
  have hcl : C ≤ s.size := by omega
  have hdef : dn (bl s) C = intoV (bl s) (C : Int) := by unfold intoV; rw [show clampV (bl s) (C : Int) = C by unfold clampV; rw [bl_len]; omega]
  generalize intoV (bl s) (C : Int) = R at *
  have HD := hide hdef
  have d1 : decide ((C : Int) < 0) = false := decide_eq_false h0
  have d2 : decide ((s.size : Int) < (C : Int)) = false := decide_eq_false h1
  have d3 : decide (s.size < C) = false := decide_eq_false (by omega)
  have hge : (0 : Int) ≤ (C : Int) := by omega
  have hle : (C : Int) ≤ (s.size : Int) := by omega
  have kb := fun (i : Nat) w => refBegins_any s (i : Int) w hs
  have KB := hide kb
  clear kb hdef h0 h1
  go_enter Try.func15, Try.ntmps15
  go_wp2
  go_loopw [1] (fun q wr => ∃ i : Nat, q = .int .i64 (i : Int) ∧ i ≤ s.size ∧ dn (bl s) i = R ∧ Below w.heap.size w wr) (fun q _ => (intOf q).toNat)
  case atStart => exact ⟨C, rfl, hcl, HD.out, Below.refl _ _⟩
  case round =>
    obtain ⟨i, rfl, hi, hR, hB⟩ := hrel
    clear HD
    by_cases hb : beginsV (bl s) (i : Int) = true
    · have hR' := dn_yes hb
      have k := KB.out i
      rw [hb] at k
      have K := hide k
      have HE := hide (hR'.symm.trans hR)
      clear KB k hb hR hR'
      go_wp2_with (go_at_call 27; refine (K.out _).mono ?_; rintro e w1 ⟨rfl, hB1⟩)
      go_ret
      exact ⟨ret_int (by rw [HE.out]), bseq hB hB1⟩
    · have hb' : beginsV (bl s) (i : Int) = false := by simpa using hb
      have hR' := dn_no hb'
      have k := KB.out i
      rw [hb'] at k
      have K := hide k
      have HE := hide (hR'.2.symm.trans hR)
      have h1 := hR'.1
      clear KB k hb hR hR' hb'
      go_wp2_with (go_at_call 27; refine (K.out _).mono ?_; rintro e w1 ⟨rfl, hB1⟩)
      go_roundw
      case rel => exact ⟨i - 1, by congr 1; omega, by omega, HE.out, bseq hB hB1⟩
      case measure => simp [intOf]; omega

theorem stp_mem : ∀ (L : List (Nat × Nat × Nat)) (a : Int) (x : Nat), x ∈ stp a L → ∃ e ∈ L, e.1 = x
  | [], a, x, h => by cases h
  | e :: t, a, x, h => by
    have h1 : stp a (e :: t) = stp a [e] ++ stp (lcl a [e]) t := stp_app [e] t a
    rw [h1] at h
    rcases List.mem_append.1 h with h | h
    · have h2 := stp_snoc a [] e
      rw [List.nil_append] at h2
      rw [h2] at h
      rcases List.mem_append.1 h with h | h
      · cases h
      · split at h
        · exact ⟨e, List.mem_cons_self, (List.mem_singleton.1 h).symm⟩
        · cases h
    · obtain ⟨f, hf, hx⟩ := stp_mem t _ x h
      exact ⟨f, List.mem_cons_of_mem _ hf, hx⟩
theorem Bd_cut {l : List UInt8} {p : Nat} (h : Bd l p) : (∃ y e z, Cs 0 l = y ++ e :: z ∧ e.1 = p) ∨ p = l.length := by
  rcases h with ⟨e, he, hp⟩ | h
  · obtain ⟨y, z, hyz⟩ := List.append_of_mem he
    exact .inl ⟨y, e, z, hyz, hp⟩
  · exact .inr h
/-- The stops up to a place, and those behind it. -/
theorem next_cut {l : List UInt8} {p : Nat} (h : Bd l p) : ∃ A B : List Nat, Sp l ++ [l.length] = A ++ B ∧ (∀ x ∈ A, x ≤ p) ∧ (∀ x, B.head? = some x → p < x) ∧ nextP l p = (B.head?).getD l.length := by
  rcases Bd_cut h with ⟨y, e, z, hc, rfl⟩ | rfl
  · obtain ⟨hb, hy, hd⟩ := Cs_split hc
    have hAf : After l e.1 (stp (clsE e) z ++ [l.length]) := .inl ⟨y, e, z, hc, rfl, rfl⟩
    obtain ⟨x, R, hx⟩ : ∃ x R, stp (clsE e) z ++ [l.length] = x :: R := by
      cases hz : stp (clsE e) z with
      | nil => exact ⟨_, _, rfl⟩
      | cons a t => exact ⟨_, _, rfl⟩
    rw [hx] at hAf
    obtain ⟨h1, h2, h3⟩ := hAf.step
    refine ⟨stp 7 (y ++ [e]), x :: R, ?_, fun q hq => ?_, fun q hq => ?_, ?_⟩
    · rw [← hx, ← List.append_assoc]
      congr 1
      unfold Sp
      rw [hc, show y ++ e :: z = (y ++ [e]) ++ z by simp, stp_app, lcl_snoc]
    · obtain ⟨f, hf, rfl⟩ := stp_mem _ _ _ hq
      rcases List.mem_append.1 hf with hf | hf
      · have hs := Cs_sorted l 0
        rw [hc] at hs
        have := (List.pairwise_append.1 hs).2.2 f hf e List.mem_cons_self
        omega
      · rw [List.mem_singleton.1 hf]
        exact Nat.le_refl _
    · cases hq; exact h3
    · exact h1
  · refine ⟨Sp l ++ [l.length], [], by simp, fun q hq => ?_, fun q hq => (by cases hq), ?_⟩
    · rcases List.mem_append.1 hq with hq | hq
      · obtain ⟨f, hf, rfl⟩ := stp_mem _ _ _ hq
        have := Cs_mem l 0 f hf
        omega
      · rw [List.mem_singleton.1 hq]
        exact Nat.le_refl _
    · unfold nextP
      rw [List.drop_of_length_le (Nat.le_refl _), Cs_nil]
      rfl
theorem back_cut {l : List UInt8} {p : Nat} (h : Bd l p) : ∃ A B : List Nat, Sp l ++ [l.length] = A ++ B ∧ (∀ x ∈ A, x < p) ∧ (∀ x ∈ B, p ≤ x) ∧ backP l p = (A.getLast?).getD 0 := by
  rcases Bd_cut h with ⟨y, e, z, hc, rfl⟩ | rfl
  · obtain ⟨hb, hy, hd⟩ := Cs_split hc
    have hs := Cs_sorted l 0
    rw [hc] at hs
    have he := Cs_mem l 0 e (by rw [hc]; simp)
    refine ⟨stp 7 y, stp (lcl 7 y) (e :: z) ++ [l.length], ?_, fun q hq => ?_, fun q hq => ?_, ?_⟩
    · rw [← List.append_assoc, ← stp_app, ← hc]
      rfl
    · obtain ⟨f, hf, rfl⟩ := stp_mem _ _ _ hq
      have h2 := (List.pairwise_append.1 hs).2.2 f hf e List.mem_cons_self
      have h3 := Cs_mem l 0 f (by rw [hc]; exact List.mem_append_left _ hf)
      omega
    · rcases List.mem_append.1 hq with hq | hq
      · obtain ⟨f, hf, rfl⟩ := stp_mem _ _ _ hq
        rcases List.mem_cons.1 hf with rfl | hf
        · exact Nat.le_refl _
        · have h2 := (List.pairwise_cons.1 (List.pairwise_append.1 hs).2.1).1 f hf
          omega
      · rw [List.mem_singleton.1 hq]
        omega
    · rw [back_last]
      unfold Sp
      rw [hy]
  · refine ⟨Sp l, [l.length], rfl, fun q hq => ?_, fun q hq => by rw [List.mem_singleton.1 hq]; exact Nat.le_refl _, ?_⟩
    · obtain ⟨f, hf, rfl⟩ := stp_mem _ _ _ hq
      have := Cs_mem l 0 f hf
      omega
    · rw [back_last, List.take_of_length_le (Nat.le_refl _)]
end Go.Proofs.Ytihfnnhfpohakaa
