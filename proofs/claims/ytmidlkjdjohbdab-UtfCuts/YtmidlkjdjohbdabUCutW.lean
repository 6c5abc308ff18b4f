/- The road of UtfCuts: for every text it returns true, and writes nothing that was there. -/
import Derived.Test.YtmidlkjdjohbdabUSeam
import Derived.Test.YtmidlkjdjohbdabUAwake
import Derived.Deep.QuietTactic
import Derived.BigQuiet
namespace Go.Proofs.Ytmidlkjdjohbdab.utfCuts
open Go.RowKit Go.Proofs.Ytmidlkjdjohbdab
set_option linter.unusedVariables false

def AnsI (f : Nat) (args : Array Value) (n : Int) : Prop := ∀ w, Calls Try.prog f args w fun e w' => e = .returned (.int .i64 n) ∧ Below w.heap.size w w'

/-- What the program answers where a text is cut, and how the answers hang together. -/
def Cut (s : ByteArray) (i : Nat) (A B : ByteArray) (n k ca cb c wl : Nat) (r : Int) (g : Bool) : Prop :=
  AnsI 20 #[.string A] n ∧ AnsI 21 #[.string (A.extract (A.size - n) A.size), .string B] k ∧ AnsI 14 #[.string A] ca ∧ AnsI 14 #[.string B] cb ∧ AnsI 14 #[.string s] c ∧
  (∀ w, Calls Try.prog 13 #[.string s, .int .i64 i] w fun e w' => e = .returned (.bool (decide (k = 0))) ∧ Below w.heap.size w w') ∧
  (∀ w, Calls Try.prog 24 #[.string A] w fun e w' => e = .returned (.tuple #[.int .i32 r, .int .i64 wl, .bool g]) ∧ Below w.heap.size w w') ∧
  A.size = i ∧ n ≤ i ∧ n ≤ 3 ∧ k ≤ 4 ∧ ca ≤ i ∧ cb ≤ s.size ∧ c ≤ s.size ∧ (wl = 0 ↔ i = 0) ∧ wl ≤ i ∧ wl ≤ 4 ∧ (g = false → wl ≤ 1) ∧ (k = 0 → ca + cb = c) ∧ (0 < k → ca + cb + 1 = c + n + k)

theorem cut (s : ByteArray) (i : Nat) (hi : i ≤ s.size) (hs : s.size ≤ 300) : ∃ (n k ca cb c wl : Nat) (r : Int) (g : Bool), Cut s i (s.extract 0 i) (s.extract i s.size) n k ca cb c wl r g := by
  obtain ⟨n, k, hn, hk, h3, hni, hkb, hnk, h0, hb, hcase⟩ := seam (bl s) i (by rw [bl_len]; exact hi)
  have hA : bl (s.extract 0 i) = (bl s).take i := bl_to s i
  have hB : bl (s.extract i s.size) = (bl s).drop i := bl_from s i
  have hAs : (s.extract 0 i).size = i := by rw [ByteArray.size_extract]; omega
  have hBs : (s.extract i s.size).size = s.size - i := by rw [ByteArray.size_extract]; omega
  have hlA := Cs_len_le (bl (s.extract 0 i))
  have hlB := Cs_len_le (bl (s.extract i s.size))
  have hlS := Cs_len_le (bl s)
  rw [bl_len] at hlA hlB hlS
  rw [hAs] at hlA
  rw [hBs] at hlB
  have hlast := last_any (s.extract 0 i)
  refine ⟨n, k, (Cs 0 (bl (s.extract 0 i))).length, (Cs 0 (bl (s.extract i s.size))).length, (Cs 0 (bl s)).length, (lastV (bl (s.extract 0 i))).2.1.toNat, (lastV (bl (s.extract 0 i))).1, (lastV (bl (s.extract 0 i))).2.2,
    fun w => ?_, fun w => ?_, fun w => count_any _ w (by omega), fun w => count_any _ w (by omega), fun w => count_any _ w (by omega), fun w => ?_, fun w => ?_, hAs, hni, h3, by omega, hlA, by omega, hlS, ?_⟩
  · have := pending_any (s.extract 0 i) w (by omega)
    rw [hA, ← hn] at this
    exact this
  · have := closes_any ((s.extract 0 i).extract ((s.extract 0 i).size - n) (s.extract 0 i).size) (s.extract i s.size) w (by omega)
    rw [bl_from, hA, hB, hAs, ← hk] at this
    rw [hAs]
    exact this
  · have := begins_any s i w (by omega)
    rw [hb] at this
    exact this
  · have := hlast w (by omega)
    have hnn : (((lastV (bl (s.extract 0 i))).2.1.toNat : Nat) : Int) = (lastV (bl (s.extract 0 i))).2.1 := by
      have : 0 ≤ (lastV (bl (s.extract 0 i))).2.1 := by unfold lastV firstV; repeat' split
                                                        all_goals simp
      omega
    rw [hnn]
    exact this
  · have hlw : ((lastV (bl (s.extract 0 i))).2.1.toNat = 0 ↔ i = 0) ∧ (lastV (bl (s.extract 0 i))).2.1.toNat ≤ i ∧ (lastV (bl (s.extract 0 i))).2.1.toNat ≤ 4 ∧ ((lastV (bl (s.extract 0 i))).2.2 = false → (lastV (bl (s.extract 0 i))).2.1.toNat ≤ 1) := by
      by_cases hz : i = 0
      · have : bl (s.extract 0 i) = [] := bl_nil (by rw [hAs]; exact hz)
        rw [this]
        unfold lastV
        rw [if_pos rfl]
        simp [hz]
      · have hne : bl (s.extract 0 i) ≠ [] := bl_ne (by rw [hAs]; omega)
        have hl := last_iff _ hne
        have hlt := St_lt hl.1
        have h1 := cw_pos ((bl (s.extract 0 i)).drop (lastAt (bl (s.extract 0 i))))
        have h4 := cw_le4 ((bl (s.extract 0 i)).drop (lastAt (bl (s.extract 0 i))))
        have h5 := hl.2.1
        rw [bl_len, hAs] at h5
        unfold lastV
        rw [if_neg hne, firstV_ne (drop_ne hlt)]
        simp only [Int.toNat_natCast, decide_eq_false_iff_not, Decidable.not_not]
        exact ⟨by omega, by omega, h4, fun h => by rw [cw_0 h]; exact Nat.le_refl _⟩
    refine ⟨hlw.1, hlw.2.1, hlw.2.2.1, hlw.2.2.2, fun hk0 => ?_, fun hk0 => ?_⟩
    · rcases hcase with ⟨_, hc⟩ | ⟨hc, _⟩
      · rw [hA, hB, ← runesV_len, ← runesV_len, ← runesV_len, hc, List.length_append]
      · omega
    · rcases hcase with ⟨hc, _⟩ | ⟨_, R, S, e1, e2, e3, _⟩
      · omega
      · rw [hA, hB, ← runesV_len, ← runesV_len, ← runesV_len, e1, e2, e3]
        simp only [List.length_append, List.length_replicate, List.length_cons]
        omega

theorem below_drewN' {W w1 : World} (n : Nat) (h : Below (W.drewN n).heap.size (W.drewN n) w1) : Below W.heap.size W w1 := by
  have := (below_drewN (Below.refl W.heap.size W) n)
  have hs : (W.drewN n).heap.size = W.heap.size := by simp
  rw [hs] at h
  exact this.trans h

set_option maxRecDepth 100000 in
set_option maxHeartbeats 4000000 in
theorem walk (s : ByteArray) (w : World) (hs : s.size ≤ 9223372036854775807) :
    Calls Try.prog 5 #[.string s] w fun e w' => e = .returned (.bool true) ∧ Below w.heap.size w w' := by
  by_cases hlen : 300 < s.size
  · have hlen' : (300 : Int) < (s.size : Int) := by omega
    have h300 : (s.extract 0 300).size ≤ 300 := by rw [ByteArray.size_extract]; omega
    go_enter Try.func5, Try.ntmps5
    go_wp2_with (go_at_call 9; refine (awake_any _).mono ?_; rintro e w0 ⟨rfl, hBw⟩)
    generalize s.extract 0 300 = t at *
    clear hlen hlen' hs
    go_loopw [3] (fun q wr => ∃ i : Nat, i ≤ t.size + 1 ∧ q = .int .i64 i ∧ Below w.heap.size w wr) (fun q _ => t.size + 1 - (intOf q).toNat)
    case atStart => exact ⟨0, by omega, rfl, hBw⟩
    case round =>
      obtain ⟨i, hi, rfl, hB0⟩ := hrel
      have HB0 := hide hB0
      clear hB0 hBw
      by_cases hlt : i ≤ t.size
      · have hlt' : (i : Int) ≤ (t.size : Int) := by omega
        obtain ⟨n, k, ca, cb, c, wl, r, g, h1, h2, h3, h4, h5, h6, h7, a1, a2, a3, a4, a5, a6, a7, a8, a9, a10, a11, a12, a13⟩ := cut t i hlt h300
        go_wp2
        go_quiet (fail)
        generalize t.extract 0 i = A at *
        generalize t.extract i t.size = B at *
        have hP := hide h1
        have hC := hide h2
        have hcA := hide h3
        have hcB := hide h4
        have hcS := hide h5
        have hL := hide h7
        have A8 := hide a8
        have A1 := hide a1
        have A11 := hide a11
        have A12 := hide a12
        have A13 := hide a13
        have hAz : (n : Int) ≤ (A.size : Int) := by omega
        have hAz2 : (A.size : Int) ≤ 300 := by omega
        have e1 : ((A.size : Int) - (n : Int)).toNat = A.size - n := by omega
        have hwA : (wl : Int) ≤ (A.size : Int) := by omega
        have hw4 : (wl : Int) ≤ 4 := by omega
        clear h1 h2 h3 h4 h5 h7 a8 a11 a12 a13 a1
        have M1 := hide trivial
        have M2 := hide trivial
        by_cases hk : k = 0
        · subst hk
          have hG := hide h6
          rw [decide_eq_true rfl] at hG
          have hsum : ((ca : Int) + (cb : Int) != (c : Int)) = false := by have := A12.out rfl; simp; omega
          clear h6 A12 A13
          by_cases hi0 : i = 0
          · have hwl : wl = 0 := A8.out.2 hi0
            subst hi0 hwl
            clear A8 A11
            cases g
            all_goals
              go_wp2_with (first | (go_at_call 20; refine (hP.out _).mono ?_; rintro e w1 ⟨rfl, hB1⟩) | (go_at_call 21; refine (hC.out _).mono ?_; rintro e w2 ⟨rfl, hB2⟩) | (go_at_call 13; refine (hG.out _).mono ?_; rintro e w3 ⟨rfl, hB3⟩) | (go_at_call 24; refine (hL.out _).mono ?_; rintro e w4 ⟨rfl, hB4⟩) | (go_at_call 14; clear M1; refine (hcA.out _).mono ?_; rintro e w5 ⟨rfl, hB5⟩) | (go_at_call 14; clear M2; refine (hcB.out _).mono ?_; rintro e w6 ⟨rfl, hB6⟩) | (go_at_call 14; refine (hcS.out _).mono ?_; rintro e w7 ⟨rfl, hB7⟩))
              go_roundw
              case rel => exact ⟨0 + 1, by omega, by go_num, bseq HB0.out (bseq (bseq (bseq (bseq (bseq (bseq (below_drewN' _ hB1) hB2) hB3) hB4) hB5) hB6) hB7)⟩
              case measure => simp [intOf]
          · have hwl : wl ≠ 0 := fun h => hi0 (A8.out.1 h)
            have q1 : ((wl : Int) == 0) = false := by simp; omega
            have q2 : ((i : Int) == 0) = false := by simp; omega
            have hwp : (0 : Int) ≤ (wl : Int) := by omega
            clear A8 hi0
            cases g
            · have hg1 := A11.out rfl
              have hg2 : (wl : Int) ≤ 1 := by omega
              clear A11
              go_wp2_with (first | (go_at_call 20; refine (hP.out _).mono ?_; rintro e w1 ⟨rfl, hB1⟩) | (go_at_call 21; refine (hC.out _).mono ?_; rintro e w2 ⟨rfl, hB2⟩) | (go_at_call 13; refine (hG.out _).mono ?_; rintro e w3 ⟨rfl, hB3⟩) | (go_at_call 24; refine (hL.out _).mono ?_; rintro e w4 ⟨rfl, hB4⟩) | (go_at_call 14; clear M1; refine (hcA.out _).mono ?_; rintro e w5 ⟨rfl, hB5⟩) | (go_at_call 14; clear M2; refine (hcB.out _).mono ?_; rintro e w6 ⟨rfl, hB6⟩) | (go_at_call 14; refine (hcS.out _).mono ?_; rintro e w7 ⟨rfl, hB7⟩))
              go_roundw
              case rel => exact ⟨i + 1, by omega, by go_num, bseq HB0.out (bseq (bseq (bseq (bseq (bseq (bseq (below_drewN' _ hB1) hB2) hB3) hB4) hB5) hB6) hB7)⟩
              case measure => simp [intOf]; omega
            · clear A11
              go_wp2_with (first | (go_at_call 20; refine (hP.out _).mono ?_; rintro e w1 ⟨rfl, hB1⟩) | (go_at_call 21; refine (hC.out _).mono ?_; rintro e w2 ⟨rfl, hB2⟩) | (go_at_call 13; refine (hG.out _).mono ?_; rintro e w3 ⟨rfl, hB3⟩) | (go_at_call 24; refine (hL.out _).mono ?_; rintro e w4 ⟨rfl, hB4⟩) | (go_at_call 14; clear M1; refine (hcA.out _).mono ?_; rintro e w5 ⟨rfl, hB5⟩) | (go_at_call 14; clear M2; refine (hcB.out _).mono ?_; rintro e w6 ⟨rfl, hB6⟩) | (go_at_call 14; refine (hcS.out _).mono ?_; rintro e w7 ⟨rfl, hB7⟩))
              go_roundw
              case rel => exact ⟨i + 1, by omega, by go_num, bseq HB0.out (bseq (bseq (bseq (bseq (bseq (bseq (below_drewN' _ hB1) hB2) hB3) hB4) hB5) hB6) hB7)⟩
              case measure => simp [intOf]; omega
        · have hG := hide h6
          rw [decide_eq_false hk] at hG
          have hsum : ((ca : Int) + (cb : Int) - (n : Int) - (k : Int) + 1 != (c : Int)) = false := by have := A13.out (by omega); simp; omega
          have hk0 : ((k : Int) == 0) = false := by simp; omega
          have hk1 : (0 : Int) < (k : Int) := by omega
          clear h6 A12 A13 hk
          by_cases hi0 : i = 0
          · have hwl : wl = 0 := A8.out.2 hi0
            subst hi0 hwl
            clear A8 A11
            cases g
            all_goals
              go_wp2_with (first | (go_at_call 20; refine (hP.out _).mono ?_; rintro e w1 ⟨rfl, hB1⟩) | (go_at_call 21; refine (hC.out _).mono ?_; rintro e w2 ⟨rfl, hB2⟩) | (go_at_call 13; refine (hG.out _).mono ?_; rintro e w3 ⟨rfl, hB3⟩) | (go_at_call 24; refine (hL.out _).mono ?_; rintro e w4 ⟨rfl, hB4⟩) | (go_at_call 14; clear M1; refine (hcA.out _).mono ?_; rintro e w5 ⟨rfl, hB5⟩) | (go_at_call 14; clear M2; refine (hcB.out _).mono ?_; rintro e w6 ⟨rfl, hB6⟩) | (go_at_call 14; refine (hcS.out _).mono ?_; rintro e w7 ⟨rfl, hB7⟩))
              go_roundw
              case rel => exact ⟨0 + 1, by omega, by go_num, bseq HB0.out (bseq (bseq (bseq (bseq (bseq (bseq (below_drewN' _ hB1) hB2) hB3) hB4) hB5) hB6) hB7)⟩
              case measure => simp [intOf]
          · have hwl : wl ≠ 0 := fun h => hi0 (A8.out.1 h)
            have q1 : ((wl : Int) == 0) = false := by simp; omega
            have q2 : ((i : Int) == 0) = false := by simp; omega
            have hwp : (0 : Int) ≤ (wl : Int) := by omega
            clear A8 hi0
            cases g
            · have hg1 := A11.out rfl
              have hg2 : (wl : Int) ≤ 1 := by omega
              clear A11
              go_wp2_with (first | (go_at_call 20; refine (hP.out _).mono ?_; rintro e w1 ⟨rfl, hB1⟩) | (go_at_call 21; refine (hC.out _).mono ?_; rintro e w2 ⟨rfl, hB2⟩) | (go_at_call 13; refine (hG.out _).mono ?_; rintro e w3 ⟨rfl, hB3⟩) | (go_at_call 24; refine (hL.out _).mono ?_; rintro e w4 ⟨rfl, hB4⟩) | (go_at_call 14; clear M1; refine (hcA.out _).mono ?_; rintro e w5 ⟨rfl, hB5⟩) | (go_at_call 14; clear M2; refine (hcB.out _).mono ?_; rintro e w6 ⟨rfl, hB6⟩) | (go_at_call 14; refine (hcS.out _).mono ?_; rintro e w7 ⟨rfl, hB7⟩))
              go_roundw
              case rel => exact ⟨i + 1, by omega, by go_num, bseq HB0.out (bseq (bseq (bseq (bseq (bseq (bseq (below_drewN' _ hB1) hB2) hB3) hB4) hB5) hB6) hB7)⟩
              case measure => simp [intOf]; omega
            · clear A11
              go_wp2_with (first | (go_at_call 20; refine (hP.out _).mono ?_; rintro e w1 ⟨rfl, hB1⟩) | (go_at_call 21; refine (hC.out _).mono ?_; rintro e w2 ⟨rfl, hB2⟩) | (go_at_call 13; refine (hG.out _).mono ?_; rintro e w3 ⟨rfl, hB3⟩) | (go_at_call 24; refine (hL.out _).mono ?_; rintro e w4 ⟨rfl, hB4⟩) | (go_at_call 14; clear M1; refine (hcA.out _).mono ?_; rintro e w5 ⟨rfl, hB5⟩) | (go_at_call 14; clear M2; refine (hcB.out _).mono ?_; rintro e w6 ⟨rfl, hB6⟩) | (go_at_call 14; refine (hcS.out _).mono ?_; rintro e w7 ⟨rfl, hB7⟩))
              go_roundw
              case rel => exact ⟨i + 1, by omega, by go_num, bseq HB0.out (bseq (bseq (bseq (bseq (bseq (bseq (below_drewN' _ hB1) hB2) hB3) hB4) hB5) hB6) hB7)⟩
              case measure => simp [intOf]; omega
      · have hii : (t.size : Int) < (i : Int) := by omega
        go_wp2
        go_ret
        exact ⟨rfl, HB0.out⟩
  · have hlen' : (s.size : Int) ≤ 300 := by omega
    have h300 : s.size ≤ 300 := by omega
    go_enter Try.func5, Try.ntmps5
    go_wp2_with (go_at_call 9; refine (awake_any _).mono ?_; rintro e w0 ⟨rfl, hBw⟩)
    clear hlen hlen' hs
    go_loopw [3] (fun q wr => ∃ i : Nat, i ≤ s.size + 1 ∧ q = .int .i64 i ∧ Below w.heap.size w wr) (fun q _ => s.size + 1 - (intOf q).toNat)
    case atStart => exact ⟨0, by omega, rfl, hBw⟩
    case round =>
      obtain ⟨i, hi, rfl, hB0⟩ := hrel
      have HB0 := hide hB0
      clear hB0 hBw
      by_cases hlt : i ≤ s.size
      · have hlt' : (i : Int) ≤ (s.size : Int) := by omega
        obtain ⟨n, k, ca, cb, c, wl, r, g, h1, h2, h3, h4, h5, h6, h7, a1, a2, a3, a4, a5, a6, a7, a8, a9, a10, a11, a12, a13⟩ := cut s i hlt h300
        go_wp2
        go_quiet (fail)
        generalize s.extract 0 i = A at *
        generalize s.extract i s.size = B at *
        have hP := hide h1
        have hC := hide h2
        have hcA := hide h3
        have hcB := hide h4
        have hcS := hide h5
        have hL := hide h7
        have A8 := hide a8
        have A1 := hide a1
        have A11 := hide a11
        have A12 := hide a12
        have A13 := hide a13
        have hAz : (n : Int) ≤ (A.size : Int) := by omega
        have hAz2 : (A.size : Int) ≤ 300 := by omega
        have e1 : ((A.size : Int) - (n : Int)).toNat = A.size - n := by omega
        have hwA : (wl : Int) ≤ (A.size : Int) := by omega
        have hw4 : (wl : Int) ≤ 4 := by omega
        clear h1 h2 h3 h4 h5 h7 a8 a11 a12 a13 a1
        have M1 := hide trivial
        have M2 := hide trivial
        by_cases hk : k = 0
        · subst hk
          have hG := hide h6
          rw [decide_eq_true rfl] at hG
          have hsum : ((ca : Int) + (cb : Int) != (c : Int)) = false := by have := A12.out rfl; simp; omega
          clear h6 A12 A13
          by_cases hi0 : i = 0
          · have hwl : wl = 0 := A8.out.2 hi0
            subst hi0 hwl
            clear A8 A11
            cases g
            all_goals
              go_wp2_with (first | (go_at_call 20; refine (hP.out _).mono ?_; rintro e w1 ⟨rfl, hB1⟩) | (go_at_call 21; refine (hC.out _).mono ?_; rintro e w2 ⟨rfl, hB2⟩) | (go_at_call 13; refine (hG.out _).mono ?_; rintro e w3 ⟨rfl, hB3⟩) | (go_at_call 24; refine (hL.out _).mono ?_; rintro e w4 ⟨rfl, hB4⟩) | (go_at_call 14; clear M1; refine (hcA.out _).mono ?_; rintro e w5 ⟨rfl, hB5⟩) | (go_at_call 14; clear M2; refine (hcB.out _).mono ?_; rintro e w6 ⟨rfl, hB6⟩) | (go_at_call 14; refine (hcS.out _).mono ?_; rintro e w7 ⟨rfl, hB7⟩))
              go_roundw
              case rel => exact ⟨0 + 1, by omega, by go_num, bseq HB0.out (bseq (bseq (bseq (bseq (bseq (bseq (below_drewN' _ hB1) hB2) hB3) hB4) hB5) hB6) hB7)⟩
              case measure => simp [intOf]
          · have hwl : wl ≠ 0 := fun h => hi0 (A8.out.1 h)
            have q1 : ((wl : Int) == 0) = false := by simp; omega
            have q2 : ((i : Int) == 0) = false := by simp; omega
            have hwp : (0 : Int) ≤ (wl : Int) := by omega
            clear A8 hi0
            cases g
            · have hg1 := A11.out rfl
              have hg2 : (wl : Int) ≤ 1 := by omega
              clear A11
              go_wp2_with (first | (go_at_call 20; refine (hP.out _).mono ?_; rintro e w1 ⟨rfl, hB1⟩) | (go_at_call 21; refine (hC.out _).mono ?_; rintro e w2 ⟨rfl, hB2⟩) | (go_at_call 13; refine (hG.out _).mono ?_; rintro e w3 ⟨rfl, hB3⟩) | (go_at_call 24; refine (hL.out _).mono ?_; rintro e w4 ⟨rfl, hB4⟩) | (go_at_call 14; clear M1; refine (hcA.out _).mono ?_; rintro e w5 ⟨rfl, hB5⟩) | (go_at_call 14; clear M2; refine (hcB.out _).mono ?_; rintro e w6 ⟨rfl, hB6⟩) | (go_at_call 14; refine (hcS.out _).mono ?_; rintro e w7 ⟨rfl, hB7⟩))
              go_roundw
              case rel => exact ⟨i + 1, by omega, by go_num, bseq HB0.out (bseq (bseq (bseq (bseq (bseq (bseq (below_drewN' _ hB1) hB2) hB3) hB4) hB5) hB6) hB7)⟩
              case measure => simp [intOf]; omega
            · clear A11
              go_wp2_with (first | (go_at_call 20; refine (hP.out _).mono ?_; rintro e w1 ⟨rfl, hB1⟩) | (go_at_call 21; refine (hC.out _).mono ?_; rintro e w2 ⟨rfl, hB2⟩) | (go_at_call 13; refine (hG.out _).mono ?_; rintro e w3 ⟨rfl, hB3⟩) | (go_at_call 24; refine (hL.out _).mono ?_; rintro e w4 ⟨rfl, hB4⟩) | (go_at_call 14; clear M1; refine (hcA.out _).mono ?_; rintro e w5 ⟨rfl, hB5⟩) | (go_at_call 14; clear M2; refine (hcB.out _).mono ?_; rintro e w6 ⟨rfl, hB6⟩) | (go_at_call 14; refine (hcS.out _).mono ?_; rintro e w7 ⟨rfl, hB7⟩))
              go_roundw
              case rel => exact ⟨i + 1, by omega, by go_num, bseq HB0.out (bseq (bseq (bseq (bseq (bseq (bseq (below_drewN' _ hB1) hB2) hB3) hB4) hB5) hB6) hB7)⟩
              case measure => simp [intOf]; omega
        · have hG := hide h6
          rw [decide_eq_false hk] at hG
          have hsum : ((ca : Int) + (cb : Int) - (n : Int) - (k : Int) + 1 != (c : Int)) = false := by have := A13.out (by omega); simp; omega
          have hk0 : ((k : Int) == 0) = false := by simp; omega
          have hk1 : (0 : Int) < (k : Int) := by omega
          clear h6 A12 A13 hk
          by_cases hi0 : i = 0
          · have hwl : wl = 0 := A8.out.2 hi0
            subst hi0 hwl
            clear A8 A11
            cases g
            all_goals
              go_wp2_with (first | (go_at_call 20; refine (hP.out _).mono ?_; rintro e w1 ⟨rfl, hB1⟩) | (go_at_call 21; refine (hC.out _).mono ?_; rintro e w2 ⟨rfl, hB2⟩) | (go_at_call 13; refine (hG.out _).mono ?_; rintro e w3 ⟨rfl, hB3⟩) | (go_at_call 24; refine (hL.out _).mono ?_; rintro e w4 ⟨rfl, hB4⟩) | (go_at_call 14; clear M1; refine (hcA.out _).mono ?_; rintro e w5 ⟨rfl, hB5⟩) | (go_at_call 14; clear M2; refine (hcB.out _).mono ?_; rintro e w6 ⟨rfl, hB6⟩) | (go_at_call 14; refine (hcS.out _).mono ?_; rintro e w7 ⟨rfl, hB7⟩))
              go_roundw
              case rel => exact ⟨0 + 1, by omega, by go_num, bseq HB0.out (bseq (bseq (bseq (bseq (bseq (bseq (below_drewN' _ hB1) hB2) hB3) hB4) hB5) hB6) hB7)⟩
              case measure => simp [intOf]
          · have hwl : wl ≠ 0 := fun h => hi0 (A8.out.1 h)
            have q1 : ((wl : Int) == 0) = false := by simp; omega
            have q2 : ((i : Int) == 0) = false := by simp; omega
            have hwp : (0 : Int) ≤ (wl : Int) := by omega
            clear A8 hi0
            cases g
            · have hg1 := A11.out rfl
              have hg2 : (wl : Int) ≤ 1 := by omega
              clear A11
              go_wp2_with (first | (go_at_call 20; refine (hP.out _).mono ?_; rintro e w1 ⟨rfl, hB1⟩) | (go_at_call 21; refine (hC.out _).mono ?_; rintro e w2 ⟨rfl, hB2⟩) | (go_at_call 13; refine (hG.out _).mono ?_; rintro e w3 ⟨rfl, hB3⟩) | (go_at_call 24; refine (hL.out _).mono ?_; rintro e w4 ⟨rfl, hB4⟩) | (go_at_call 14; clear M1; refine (hcA.out _).mono ?_; rintro e w5 ⟨rfl, hB5⟩) | (go_at_call 14; clear M2; refine (hcB.out _).mono ?_; rintro e w6 ⟨rfl, hB6⟩) | (go_at_call 14; refine (hcS.out _).mono ?_; rintro e w7 ⟨rfl, hB7⟩))
              go_roundw
              case rel => exact ⟨i + 1, by omega, by go_num, bseq HB0.out (bseq (bseq (bseq (bseq (bseq (bseq (below_drewN' _ hB1) hB2) hB3) hB4) hB5) hB6) hB7)⟩
              case measure => simp [intOf]; omega
            · clear A11
              go_wp2_with (first | (go_at_call 20; refine (hP.out _).mono ?_; rintro e w1 ⟨rfl, hB1⟩) | (go_at_call 21; refine (hC.out _).mono ?_; rintro e w2 ⟨rfl, hB2⟩) | (go_at_call 13; refine (hG.out _).mono ?_; rintro e w3 ⟨rfl, hB3⟩) | (go_at_call 24; refine (hL.out _).mono ?_; rintro e w4 ⟨rfl, hB4⟩) | (go_at_call 14; clear M1; refine (hcA.out _).mono ?_; rintro e w5 ⟨rfl, hB5⟩) | (go_at_call 14; clear M2; refine (hcB.out _).mono ?_; rintro e w6 ⟨rfl, hB6⟩) | (go_at_call 14; refine (hcS.out _).mono ?_; rintro e w7 ⟨rfl, hB7⟩))
              go_roundw
              case rel => exact ⟨i + 1, by omega, by go_num, bseq HB0.out (bseq (bseq (bseq (bseq (bseq (bseq (below_drewN' _ hB1) hB2) hB3) hB4) hB5) hB6) hB7)⟩
              case measure => simp [intOf]; omega
      · have hii : (s.size : Int) < (i : Int) := by omega
        go_wp2
        go_ret
        exact ⟨rfl, HB0.out⟩
end Go.Proofs.Ytmidlkjdjohbdab.utfCuts
