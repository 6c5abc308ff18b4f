/- Package pmem: Store8, Store. -/
import Derived.Test.YtgfgihpkbbjkfaaPLd
import Derived.Test.YtgfgihpkbbjkfaaPWr
import Derived.Test.YtgfgihpkbbjkfaaPut
namespace Go.Proofs.Ytgfgihpkbbjkfaa
open Go.RowKit Go.Shelf
set_option linter.unusedVariables false

section
variable {w : World} {b at_ : Nat} {L : Lay} {σ : St}
theorem pst8_any (v : Nat) (h : DevL w b L σ) (hok : σ.Ok) (ho : σ.off = false) (hN : L.N ≤ σ.ops) (harm : σ.arms = []) (hops : σ.ops + 600000 ≤ 1400000000000) (hat : at_ % 8 = 0) (hlen : at_ + 8 ≤ 64 * σ.n) (hv : v < 18446744073709551616) :
    Calls Try.prog 88 #[.pointer (some ⟨b, 0, none⟩), .int .i64 (at_ : Int), .int .u64 (v : Int)] w fun e w' => e = .returned (.int .i64 0) ∧ ∃ L', DevL w' b L' (writeDo (leB 8 v) at_ σ (wordsOf at_ 8)) ∧ (∀ k, Foot b L' (writeDo (leB 8 v) at_ σ (wordsOf at_ 8)) k → Foot b L σ k ∨ w.heap.size ≤ k) ∧ Gr (Foot b L σ) w w' ∧ L'.N ≤ L.N + (wordsOf at_ 8).length ∧ SameL L L' := by
  have hmx := hok.max
  have ks := pstate_any h
  rw [ho] at ks
  simp only [Bool.false_eq_true, if_false] at ks
  have kh := pholds_any h hok.max (at_ : Int) 8 (by omega) (by omega)
  have hb : hasB σ (at_ : Int) 8 = true := by unfold hasB; simp; omega
  rw [hb] at kh
  have kp : Calls Try.prog 86 #[.slice none 0 0, .int .u64 (v : Int)] w fun e w' => e = .returned (.slice (some ⟨w.heap.size, 0, none⟩) 8 8) ∧ Below w.heap.size w w' ∧ OwnB w' w.heap.size (leB 8 v) := by
    have h5 := put64 none 0 v [] w (.inl rfl) (by simp) hv
    simpa using h5
  have hll : (leB 8 v).length = 8 := by simp [leB]
  have hlt : ∀ x ∈ leB 8 v, x < 256 := fun x hx => by
    simp [leB] at hx
    omega
  have kw : ∀ W1, Below w.heap.size w W1 → OwnB W1 w.heap.size (leB 8 v) → Calls Try.prog 46 #[.pointer (some ⟨b, 0, none⟩), .int .i64 (at_ : Int), .slice (some ⟨w.heap.size, 0, none⟩) 8 8] W1 fun e w' => e = .returned (.int .i64 0) ∧ ∃ L', DevL w' b L' (writeDo (leB 8 v) at_ σ (wordsOf at_ 8)) ∧ (∀ k, Foot b L' (writeDo (leB 8 v) at_ σ (wordsOf at_ 8)) k → Foot b L σ k ∨ w.heap.size ≤ k) ∧ Gr (Foot b L σ) w w' ∧ L'.N ≤ L.N + (wordsOf at_ 8).length ∧ SameL L L' := fun W1 hB hown => by
    have h6 := callsIn_wide.1 (pwrite_in (cap := 8) (h.below hB) hok hN harm (hown.sl hlt) (by rw [hll]; exact Nat.le_refl _) (by rw [hll]; exact hlen) hops (fun ad he => by
      cases he
      exact ⟨hown.lt, fun hf => by have := h.foot_is hf; simp at this⟩))
    rw [hll] at h6
    refine h6.mono ?_
    rintro e w' ⟨rfl, L', h1, h2, h3, h4, h5⟩
    refine ⟨rfl, L', h1, fun k hk => ?_, (Gr.of_below hB).trans h3 (fun i h => .inl h), h4, h5⟩
    rcases h2 k hk with h7 | h7
    · exact .inl h7
    · exact .inr (Nat.le_trans hB.size h7)
  have KS := hide ks
  have KH := hide kh
  have KP := hide kp
  have KW := hide kw
  have htm : (at_ : Int).tmod 8 = 0 := by rw [Int.tmod_eq_emod_of_nonneg (by omega)]; omega
  clear h hok ks kh kp kw hlt hll hb hat harm hN ho hv
  go_enter Try.func88, Try.ntmps88
  go_wp2_with (first | (go_at_call 37; refine (KS.out).mono ?_; rintro e w' ⟨rfl, hw⟩; obtain rfl := hw.symm) | (go_at_call 45; refine (KH.out).mono ?_; rintro e w' ⟨rfl, hw⟩; obtain rfl := hw.symm) | (go_at_call 86; refine (KP.out).mono ?_; rintro e W1 ⟨rfl, hB, hown⟩; have K2 := hide (KW.out W1 hB hown); clear hB hown) | (go_at_call 46; refine (K2.out).mono ?_; rintro e w' ⟨rfl, hw⟩; have HW := hide hw; clear hw))
  go_ret
  exact ⟨rfl, HW.out⟩
theorem pst8_off (v : Int) (a : Int) (h : DevL w b L σ) (ho : σ.off = true) : Calls Try.prog 88 #[.pointer (some ⟨b, 0, none⟩), .int .i64 a, .int .u64 v] w fun e w' => e = .returned (.int .i64 5) ∧ w' = w := by
  have ks := pstate_any h
  rw [ho] at ks
  simp only [if_true] at ks
  have KS := hide ks
  clear h ks
  go_enter Try.func88, Try.ntmps88
  go_wp2_with (go_at_call 37; refine (KS.out).mono ?_; rintro e w' ⟨rfl, rfl⟩)
  go_ret
  exact ⟨rfl, rfl⟩
end
end Go.Proofs.Ytgfgihpkbbjkfaa
