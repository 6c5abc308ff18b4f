/- The document's side of package scan: runs and numbers. -/
import Derived.Test.YtmhbhpjpnmggkaaDoorSNumM
import Derived.Test.YtmhbhpjpnmggkaaDoorSTok
namespace Go.Proofs.YtmhbhpjpnmggkaaDoor
open Go.RowKit Go.Shelf
set_option linter.unusedVariables false

set_option maxHeartbeats 1000000 in
theorem rrun_any (c : Nat) (w : World) (hc : c < 256) : Calls Tryd.prog 50 #[.int .u8 (c : Int)] w fun e w' => e = .returned (.bool (runC c)) ∧ w' = w := by
  obtain ⟨R, hR⟩ : ∃ R, runC c = R := ⟨_, rfl⟩
  rw [hR]
  have HR := hide hR
  clear hR
  go_enter Tryd.func50, Tryd.ntmps50
  go_wp2
  all_goals go_ret
  all_goals refine ⟨?_, rfl⟩
  all_goals rw [← HR.out]
  all_goals refine congrArg (fun b => Ending.returned (Value.bool b)) ?_
  all_goals (rw [Bool.eq_iff_iff]; simp only [runC, Bool.or_eq_true, Bool.and_eq_true, decide_eq_true_eq, beq_iff_eq, true_iff]; omega)
theorem rn_drop {l : List UInt8} {k acc : Nat} (hk : k < l.length) : rn acc (l.drop k) = if 48 ≤ by' l k ∧ by' l k ≤ 57 then (if acc ≤ (9223372036854775807 - (by' l k - 48)) / 10 then rn (10 * acc + (by' l k - 48)) (l.drop (k + 1)) else none) else none := by
  rw [List.drop_eq_getElem_cons hk]
  have e : by' l k = (l[k]).toNat := by unfold by'; rw [List.getElem?_eq_getElem hk]; rfl
  rw [e]
  rfl
theorem num_none {l : List UInt8} (h : rn 0 l = none) : numK l = none := by
  cases hn : numK l with
  | none => rfl
  | some v =>
    obtain ⟨n, rfl⟩ := numK_nonneg hn
    have := ((numK_iff l n).1 hn).2
    rw [h] at this
    cases this
theorem num_can {l : List UInt8} {n : Nat} (h : rn 0 l = some n) (hc : can l) : numK l = some (n : Int) := (numK_iff l n).2 ⟨hc, h⟩
theorem num_not {l : List UInt8} (hc : ¬ can l) : numK l = none := by
  cases hn : numK l with
  | none => rfl
  | some v =>
    obtain ⟨n, rfl⟩ := numK_nonneg hn
    exact absurd ((numK_iff l n).1 hn).1 hc
set_option maxRecDepth 100000 in
set_option maxHeartbeats 4000000 in
theorem rnumber_any (s : ByteArray) (w : World) (hs : s.size ≤ 140737488355328) :
    Calls Tryd.prog 51 #[.string s] w fun e w' => ∃ n', e = .returned (.tuple #[.int .i64 n', .bool (numK (bl s)).isSome]) ∧ (∀ v, numK (bl s) = some v → n' = v) ∧ Below w.heap.size w w' := by
  have hsI : (s.size : Int) ≤ 140737488355328 := by omega
  go_enter Tryd.func51, Tryd.ntmps51
  go_wp2
  go_loopw [4, 5] (fun n i wr => ∃ k acc : Nat, i = .int .i64 (k : Int) ∧ n = .int .i64 (acc : Int) ∧ k ≤ s.size ∧ acc ≤ 9223372036854775807 ∧ rn 0 (bl s) = rn acc ((bl s).drop k) ∧ wr = w) (fun _ i _ => s.size - (intOf i).toNat)
  case atStart => exact ⟨0, 0, rfl, rfl, Nat.zero_le _, Nat.zero_le _, rfl, rfl⟩
  case round =>
    obtain ⟨k, acc, rfl, rfl, hk, ha, hrn, hwr⟩ := hrel
    subst hwr
    by_cases hlt : k < s.size
    · have hltI : (k : Int) < (s.size : Int) := by omega
      rw [rn_drop (by rw [bl_len]; exact hlt)] at hrn
      have hby : by' (bl s) k = (s[k]'hlt).toNat := by'_get s k hlt
      have hb256 := by'_lt (bl s) k
      rw [hby] at hrn hb256
      have HRN := hide hrn
      clear hrn hby
      generalize hbb : (s[k]'hlt).toNat = b at *
      by_cases h48 : 48 ≤ b
      · have h48I : (48 : Int) ≤ (b : Int) := by omega
        by_cases h57 : b ≤ 57
        · have h57I : (b : Int) ≤ 57 := by omega
          have hr := HRN.out
          rw [if_pos ⟨h48, h57⟩] at hr
          obtain ⟨T, hT⟩ : ∃ T, (9223372036854775807 - (b - 48)) / 10 = T := ⟨_, rfl⟩
          rw [hT] at hr
          have hTI : ((9223372036854775807 : Int) - ((b : Int) - 48)) / 10 = (T : Int) := by omega
          by_cases hle : acc ≤ T
          · rw [if_pos hle] at hr
            have hleI : (acc : Int) ≤ (T : Int) := by omega
            have hbd : 10 * (acc : Int) + ((b : Int) - 48) ≤ 9223372036854775807 := by omega
            have haI : (acc : Int) ≤ 922337203685477580 := by omega
            have HR := hide hr
            clear hr HRN hT
            go_wp2
            go_roundw
            case rel => exact ⟨k + 1, 10 * acc + (b - 48), by go_num, int_congr (by omega), by omega, by omega, HR.out, by trivial⟩
            case measure => simp [intOf]; omega
          · rw [if_neg hle] at hr
            have hleI : (T : Int) < (acc : Int) := by omega
            have hK := num_none hr
            have HK := hide hK
            clear hr HRN hT hle hK
            go_wp2
            go_ret2
            exact ⟨0, by rw [HK.out]; rfl, fun v h => (by rw [HK.out] at h; cases h), Below.refl _ _⟩
        · have h57I : (57 : Int) < (b : Int) := by omega
          have hr := HRN.out
          rw [if_neg (fun h => h57 h.2)] at hr
          have hK := num_none hr
          have HK := hide hK
          clear hr HRN h57 hK
          go_wp2
          go_ret2
          exact ⟨0, by rw [HK.out]; rfl, fun v h => (by rw [HK.out] at h; cases h), Below.refl _ _⟩
      · have h48I : (b : Int) < 48 := by omega
        have hr := HRN.out
        rw [if_neg (fun h => h48 h.1)] at hr
        have hK := num_none hr
        have HK := hide hK
        clear hr HRN h48 hK
        go_wp2
        go_ret2
        exact ⟨0, by rw [HK.out]; rfl, fun v h => (by rw [HK.out] at h; cases h), Below.refl _ _⟩
    · have hge : (s.size : Int) ≤ (k : Int) := by omega
      rw [List.drop_eq_nil_of_le (by rw [bl_len]; omega)] at hrn
      have hr : rn 0 (bl s) = some acc := hrn
      by_cases h1 : s.size = 1
      · have h1I : ((s.size : Int) == 1) = true := by rw [h1]; rfl
        have hK := num_can hr (.inl (by rw [bl_len]; exact h1))
        have HK := hide hK
        clear hr hrn hK h1
        go_wp2_with (fail)
        go_quiet (fail)
        go_wp2_with (fail)
        go_ret2
        exact ⟨acc, by rw [HK.out]; rfl, fun v h => (by rw [HK.out] at h; exact Option.some.inj h), below_drewN (Below.refl _ _) _⟩
      · have h1I : ((s.size : Int) == 1) = false := beq_eq_false_iff_ne.2 (by omega)
        by_cases h2 : 1 < s.size
        · have h2I : (1 : Int) < (s.size : Int) := by omega
          have h0 : 0 < s.size := by omega
          have hb0 : by' (bl s) 0 = (s[0]'h0).toNat := by'_get s 0 h0
          by_cases h3 : (s[0]'h0).toNat = 48
          · have h3I : (((s[0]'h0).toNat : Int) != 48) = false := by rw [h3]; rfl
            have hK := num_not (l := bl s) (fun hc => hc.elim (fun h => h1 (by rw [← bl_len]; exact h)) (fun h => h.2 (by rw [hb0]; exact h3)))
            have HK := hide hK
            clear hr hrn hK h1 hb0 h3
            go_wp2_with (fail)
            go_quiet (fail)
            go_wp2_with (fail)
            go_ret2
            exact ⟨acc, by rw [HK.out]; rfl, fun v h => (by rw [HK.out] at h; cases h), below_drewN (Below.refl _ _) _⟩
          · have h3I : (((s[0]'h0).toNat : Int) != 48) = true := by rw [bne_iff_ne]; omega
            have hK := num_can hr (.inr ⟨by rw [bl_len]; exact h2, by rw [hb0]; exact h3⟩)
            have HK := hide hK
            clear hr hrn hK h1 hb0 h3
            go_wp2_with (fail)
            go_quiet (fail)
            go_wp2_with (fail)
            go_ret2
            exact ⟨acc, by rw [HK.out]; rfl, fun v h => (by rw [HK.out] at h; exact Option.some.inj h), below_drewN (Below.refl _ _) _⟩
        · have h2I : (s.size : Int) ≤ 1 := by omega
          have hd2 : decide ((1 : Int) < (s.size : Int)) = false := decide_eq_false (by omega)
          have hK := num_not (l := bl s) (fun hc => hc.elim (fun h => h1 (by rw [← bl_len]; exact h)) (fun h => h2 (by rw [← bl_len]; exact h.1)))
          have HK := hide hK
          clear hr hrn hK h1
          go_wp2_with (fail)
          go_quiet (fail)
          go_wp2_with (fail)
          go_ret2
          exact ⟨acc, by rw [HK.out]; rfl, fun v h => (by rw [HK.out] at h; cases h), below_drewN (Below.refl _ _) _⟩
end Go.Proofs.YtmhbhpjpnmggkaaDoor
