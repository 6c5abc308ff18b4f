/- Package persist: steps that are taken in turn. -/
import Derived.Test.YtgfgihpkbbjkfaaQFl
import Derived.Test.YtgfgihpkbbjkfaaPSto
import Derived.Test.YtgfgihpkbbjkfaaPFnW
import Derived.Test.YtgfgihpkbbjkfaaPLd
namespace Go.Proofs.Ytgfgihpkbbjkfaa
open Go.RowKit Go.Shelf
set_option linter.unusedVariables false

section
variable {w : World} {b : Nat} {L : Lay} {σ : St}
theorem st3 {W : World} {g : Nat} {p : Value} {x y : Int} (h : W.heap[g]? = some (.cells #[p, .int .i64 x, .int .i64 y] 112 (0, 0))) :
    W.cell? ⟨g, 0, none⟩ = some p ∧ W.cell? ⟨g, 1, none⟩ = some (.int .i64 x) ∧ W.cell? ⟨g, 2, none⟩ = some (.int .i64 y) := ⟨cell8 h 0, cell8 h 1, cell8 h 2⟩
set_option maxHeartbeats 400000 in
theorem qlies_any (h : DevL w b L σ) (hn : σ.n ≤ 65536) (x y : Int) (hx : -9223372036854775808 ≤ x) (hx' : x ≤ 9223372036854775807) (hy : 0 ≤ y) : Calls Try.prog 75 #[.agg #[.pointer (some ⟨b, 0, none⟩), .int .i64 x, .int .i64 y]] w fun e w' => e = .returned (.bool (hasB σ x y)) ∧ Below w.heap.size w w' := by
  have hA : Below w.heap.size w (w.alloc (.cells #[.pointer (some ⟨b, 0, none⟩), .int .i64 x, .int .i64 y] 112)) := (Below.refl _ w).alloc (Nat.le_refl _) _
  have ks := psize_any (h.below hA.drew) hn
  obtain ⟨N, hN⟩ : ∃ N : Nat, N = 64 * σ.n := ⟨_, rfl⟩
  rw [← hN] at ks
  have NI : (N : Int) ≤ 4194304 := by omega
  have s0 : (w.alloc (.cells #[.pointer (some ⟨b, 0, none⟩), .int .i64 x, .int .i64 y] 112)).drew.cell? ⟨w.heap.size, 0, none⟩ = some (.pointer (some ⟨b, 0, none⟩)) ∧ (w.alloc (.cells #[.pointer (some ⟨b, 0, none⟩), .int .i64 x, .int .i64 y] 112)).drew.cell? ⟨w.heap.size, 1, none⟩ = some (.int .i64 x) ∧ (w.alloc (.cells #[.pointer (some ⟨b, 0, none⟩), .int .i64 x, .int .i64 y] 112)).drew.cell? ⟨w.heap.size, 2, none⟩ = some (.int .i64 y) := st3 (W := (w.alloc (.cells #[.pointer (some ⟨b, 0, none⟩), .int .i64 x, .int .i64 y] 112)).drew) (heap_alloc_new w _)
  have KS := hide ks
  have HA := hide hA
  have S0 := hide s0
  by_cases h0 : x < 0
  · have e : hasB σ x y = false := by unfold hasB; simp; omega
    rw [e]
    have h0' : ¬ 0 ≤ x := by omega
    clear h ks hA e hN s0
    go_enter Try.func75, Try.ntmps75
    go_wp2_with (fail)
    refine wp_region_held_drew (S := fun X => X.cell? ⟨w.heap.size, 0, none⟩ = some (.pointer (some ⟨b, 0, none⟩)) ∧ X.cell? ⟨w.heap.size, 1, none⟩ = some (.int .i64 x) ∧ X.cell? ⟨w.heap.size, 2, none⟩ = some (.int .i64 y)) (by kernel_rfl) S0.out (fun hS => ?_)
    refine wpAnyH_take (i := 0) (v := (.pointer (some ⟨w.heap.size, 1, none⟩))) rfl (by kernel_rfl) (by kernel_rfl) (by kernel_rfl) (fun _ _ _ h => h) (Or.inl ⟨by kernel_rfl, fun w' hw => by (go_simp)⟩) hS ?_
    refine wpAnyH_take (i := 1) (v := (.int .i64 x)) rfl (by kernel_rfl) (by kernel_rfl) (by kernel_rfl) (fun _ _ _ h => h) (Or.inl ⟨by kernel_rfl, fun w' hw => by (obtain ⟨z0, z1, z2⟩ := hw; go_simp)⟩) hS ?_
    refine wpAnyH_take (i := 2) (v := (.bool false)) rfl (by kernel_rfl) (by kernel_rfl) (by kernel_rfl) (fun _ _ _ h => h) (Or.inl ⟨by kernel_rfl, fun w' hw => by (go_simp)⟩) hS ?_
    refine wpAnyH_take (i := 3) (v := (.bool false)) rfl (by kernel_rfl) (by kernel_rfl) (by kernel_rfl) (fun _ _ _ h => h) (Or.inl ⟨by kernel_rfl, fun w' hw => by (go_simp)⟩) hS ?_
    refine wpAnyH_take (i := 4) (v := undef) rfl (by kernel_rfl) (by kernel_rfl) (by kernel_rfl) (fun _ _ _ h => h) (Or.inr ⟨by kernel_rfl, rfl⟩) hS ?_
    refine wpAnyH_take (i := 5) (v := undef) rfl (by kernel_rfl) (by kernel_rfl) (by kernel_rfl) (fun _ _ _ h => h) (Or.inr ⟨by kernel_rfl, rfl⟩) hS ?_
    refine wpAnyH_take (i := 6) (v := undef) rfl (by kernel_rfl) (by kernel_rfl) (by kernel_rfl) (fun _ _ _ h => h) (Or.inr ⟨by kernel_rfl, rfl⟩) hS ?_
    refine wpAnyH_take (i := 7) (v := undef) rfl (by kernel_rfl) (by kernel_rfl) (by kernel_rfl) (fun _ _ _ h => h) (Or.inr ⟨by kernel_rfl, rfl⟩) hS ?_
    refine wpAnyH_take (i := 8) (v := undef) rfl (by kernel_rfl) (by kernel_rfl) (by kernel_rfl) (fun _ _ _ h => h) (Or.inr ⟨by kernel_rfl, rfl⟩) hS ?_
    refine wpAnyH_take (i := 9) (v := undef) rfl (by kernel_rfl) (by kernel_rfl) (by kernel_rfl) (fun _ _ _ h => h) (Or.inr ⟨by kernel_rfl, rfl⟩) hS ?_
    refine wpAnyH_take (i := 10) (v := undef) rfl (by kernel_rfl) (by kernel_rfl) (by kernel_rfl) (fun _ _ _ h => h) (Or.inr ⟨by kernel_rfl, rfl⟩) hS ?_
    refine wpAnyH_take (i := 11) (v := undef) rfl (by kernel_rfl) (by kernel_rfl) (by kernel_rfl) (fun _ _ _ h => h) (Or.inr ⟨by kernel_rfl, rfl⟩) hS ?_
    refine wpAnyH_take (i := 12) (v := undef) rfl (by kernel_rfl) (by kernel_rfl) (by kernel_rfl) (fun _ _ _ h => h) (Or.inr ⟨by kernel_rfl, rfl⟩) hS ?_
    refine wpAnyH_take (i := 13) (v := (.bool false)) rfl (by kernel_rfl) (by kernel_rfl) (by kernel_rfl) (fun _ _ _ h => h) (Or.inl ⟨by kernel_rfl, fun w' hw => by (go_simp)⟩) hS ?_
    refine wpAnyH_take (i := 14) (v := (.bool false)) rfl (by kernel_rfl) (by kernel_rfl) (by kernel_rfl) (fun _ _ _ h => h) (Or.inl ⟨by kernel_rfl, fun w' hw => by (go_simp)⟩) hS ?_
    refine wpAnyH_done (by kernel_rfl) ?_ _
    simp only [Act.put, List.getElem_toArray, List.getElem_cons_zero, List.getElem_cons_succ, List.setIfInBounds_toArray, List.set_cons_zero, List.set_cons_succ]
    go_wp2_with (fail)
    go_ret
    exact ⟨rfl, HA.out.drew⟩
  · have h0' : 0 ≤ x := by omega
    have e : hasB σ x y = decide (y ≤ (N : Int) - x) := by
      unfold hasB
      rw [Bool.eq_iff_iff]
      simp
      omega
    rw [e]
    clear h ks hA e hN h0 s0
    have wr : IntKind.i64.wrap ((N : Int) - x) = (N : Int) - x := by rw [IntKind.wrap_i64]; omega
    go_enter Try.func75, Try.ntmps75
    go_wp2_with (fail)
    refine wp_region_held_drew (S := fun X => X.cell? ⟨w.heap.size, 0, none⟩ = some (.pointer (some ⟨b, 0, none⟩)) ∧ X.cell? ⟨w.heap.size, 1, none⟩ = some (.int .i64 x) ∧ X.cell? ⟨w.heap.size, 2, none⟩ = some (.int .i64 y)) (by kernel_rfl) S0.out (fun hS => ?_)
    refine wpAnyH_take (i := 0) (v := (.pointer (some ⟨w.heap.size, 1, none⟩))) rfl (by kernel_rfl) (by kernel_rfl) (by kernel_rfl) (fun _ _ _ h => h) (Or.inl ⟨by kernel_rfl, fun w' hw => by (go_simp)⟩) hS ?_
    refine wpAnyH_take (i := 1) (v := (.int .i64 x)) rfl (by kernel_rfl) (by kernel_rfl) (by kernel_rfl) (fun _ _ _ h => h) (Or.inl ⟨by kernel_rfl, fun w' hw => by (obtain ⟨z0, z1, z2⟩ := hw; go_simp)⟩) hS ?_
    refine wpAnyH_take (i := 2) (v := (.bool true)) rfl (by kernel_rfl) (by kernel_rfl) (by kernel_rfl) (fun _ _ _ h => h) (Or.inl ⟨by kernel_rfl, fun w' hw => by (go_simp)⟩) hS ?_
    refine wpAnyH_take (i := 3) (v := (.bool true)) rfl (by kernel_rfl) (by kernel_rfl) (by kernel_rfl) (fun _ _ _ h => h) (Or.inl ⟨by kernel_rfl, fun w' hw => by (go_simp)⟩) hS ?_
    refine wpAnyH_take (i := 4) (v := (.pointer (some ⟨w.heap.size, 2, none⟩))) rfl (by kernel_rfl) (by kernel_rfl) (by kernel_rfl) (fun _ _ _ h => h) (Or.inl ⟨by kernel_rfl, fun w' hw => by (go_simp)⟩) hS ?_
    refine wpAnyH_take (i := 5) (v := (.int .i64 y)) rfl (by kernel_rfl) (by kernel_rfl) (by kernel_rfl) (fun _ _ _ h => h) (Or.inl ⟨by kernel_rfl, fun w' hw => by (obtain ⟨z0, z1, z2⟩ := hw; go_simp)⟩) hS ?_
    refine wpAnyH_take (i := 6) (v := (.pointer (some ⟨w.heap.size, 0, none⟩))) rfl (by kernel_rfl) (by kernel_rfl) (by kernel_rfl) (fun _ _ _ h => h) (Or.inl ⟨by kernel_rfl, fun w' hw => by (go_simp)⟩) hS ?_
    refine wpAnyH_take (i := 7) (v := (.pointer (some ⟨b, 0, none⟩))) rfl (by kernel_rfl) (by kernel_rfl) (by kernel_rfl) (fun _ _ _ h => h) (Or.inl ⟨by kernel_rfl, fun w' hw => by (obtain ⟨z0, z1, z2⟩ := hw; go_simp)⟩) hS ?_
    refine wpAnyH_take (i := 9) (v := (.pointer (some ⟨w.heap.size, 1, none⟩))) rfl (by kernel_rfl) (by kernel_rfl) (by kernel_rfl) (fun _ _ _ h => h) (Or.inl ⟨by kernel_rfl, fun w' hw => by (go_simp)⟩) hS ?_
    refine wpAnyH_take (i := 10) (v := (.int .i64 x)) rfl (by kernel_rfl) (by kernel_rfl) (by kernel_rfl) (fun _ _ _ h => h) (Or.inl ⟨by kernel_rfl, fun w' hw => by (obtain ⟨z0, z1, z2⟩ := hw; go_simp)⟩) hS ?_
    refine wpAnyH_ready (rs := [8]) (by kernel_rfl) (by simp) ?_
    refine AllReadyH.cons rfl (fun K hK => ?_) AllReadyH.nil
    rw [if_pos (by kernel_rfl)]
    go_simp
    go_wp2_with (go_at_call 27; refine (KS.out).mono ?_; rintro e W3 ⟨rfl, hw3⟩; obtain rfl := hw3)
    refine hK.out _ _ hS (fun hS2 => ?_)
    refine wpAnyH_take (i := 11) (v := (.int .i64 ((N : Int) - x))) rfl (by kernel_rfl) (by kernel_rfl) (by kernel_rfl) (fun _ _ _ h => h) (Or.inl ⟨by kernel_rfl, fun w' hw => by (go_simp)⟩) hS2 ?_
    refine wpAnyH_take (i := 12) (v := (.bool (decide (y ≤ (N : Int) - x)))) rfl (by kernel_rfl) (by kernel_rfl) (by kernel_rfl) (fun _ _ _ h => h) (Or.inl ⟨by kernel_rfl, fun w' hw => by (go_simp)⟩) hS2 ?_
    refine wpAnyH_take (i := 13) (v := (.bool (decide (y ≤ (N : Int) - x)))) rfl (by kernel_rfl) (by kernel_rfl) (by kernel_rfl) (fun _ _ _ h => h) (Or.inl ⟨by kernel_rfl, fun w' hw => by (go_simp)⟩) hS2 ?_
    refine wpAnyH_take (i := 14) (v := (.bool (decide (y ≤ (N : Int) - x)))) rfl (by kernel_rfl) (by kernel_rfl) (by kernel_rfl) (fun _ _ _ h => h) (Or.inl ⟨by kernel_rfl, fun w' hw => by (go_simp)⟩) hS2 ?_
    refine wpAnyH_done (by kernel_rfl) ?_ _
    simp only [Act.put, List.getElem_toArray, List.getElem_cons_zero, List.getElem_cons_succ, List.setIfInBounds_toArray, List.set_cons_zero, List.set_cons_succ]
    go_wp2_with (fail)
    go_ret
    exact ⟨rfl, HA.out.drew⟩
set_option maxRecDepth 100000 in
set_option maxHeartbeats 400000 in
/-- Steps in turn, each with its own contract. -/
theorem qturn_gen (h : DevL w b L σ) (hok : σ.Ok) (ho : σ.off = false) (at_ n : Nat) (hn : 1 ≤ n) (hlen : at_ + n ≤ 64 * σ.n) (rb k : Nat) (f : Nat → Nat) (a : Nat → Array Value) (P : Nat → World → Prop) (Q : Int → World → Prop)
    (hent : ∀ j, j < k → ∀ args W, (callFunc (f j) args).run Try.prog W = .ok (.enter (f j) args) W) (hk : k ≤ 1000)
    (hrow : ∀ j W, P j W → ∀ i, i < k → W.cell? ⟨rb, i, none⟩ = some (.func (.func (f i)) (a i) #[]))
    (hstep : ∀ j, j < k → ∀ W, P j W → Calls Try.prog (f j) (a j) W fun e W' => ∃ c : Int, e = .returned (.int .i64 c) ∧ (c = 0 → P (j + 1) W') ∧ (c ≠ 0 → Q c W'))
    (h0 : ∀ W, Below w.heap.size w W → P 0 W) (hend : ∀ W, P k W → Q 0 W) :
    Calls Try.prog 57 #[.agg #[.pointer (some ⟨b, 0, none⟩), .int .i64 (at_ : Int), .int .i64 (n : Int)], .slice (some ⟨rb, 0, none⟩) k k] w fun e w' => ∃ c : Int, e = .returned (.int .i64 c) ∧ Q c w' := by
  have hp := hok.pos
  have hm := hok.max
  have hA : Below w.heap.size w (w.alloc (.cells #[.pointer (some ⟨b, 0, none⟩), .int .i64 (at_ : Int), .int .i64 (n : Int)] 112)) := (Below.refl _ w).alloc (Nat.le_refl _) _
  have kl : Calls Try.prog 21 #[.pointer (some ⟨b, 0, none⟩), .int .i64 0, .int .i64 0] (w.alloc (.cells #[.pointer (some ⟨b, 0, none⟩), .int .i64 (at_ : Int), .int .i64 (n : Int)] 112)) fun e w' => ∃ R, e = .returned (.tuple #[.slice (some ⟨R, 0, none⟩) 0 0, .int .i64 0]) ∧ Below (w.alloc (.cells #[.pointer (some ⟨b, 0, none⟩), .int .i64 (at_ : Int), .int .i64 (n : Int)] 112)).heap.size (w.alloc (.cells #[.pointer (some ⟨b, 0, none⟩), .int .i64 (at_ : Int), .int .i64 (n : Int)] 112)) w' := by
    refine (callsIn_wide.1 (pload_in (at_ := 0) (n := 0) (h.below hA) hok ho (by omega))).mono ?_
    rintro e w' ⟨R, rfl, _, _, hb⟩
    exact ⟨R, rfl, hb⟩
  have ki : ∀ W, Below w.heap.size w W → Calls Try.prog 75 #[.agg #[.pointer (some ⟨b, 0, none⟩), .int .i64 (at_ : Int), .int .i64 (n : Int)]] W fun e w' => e = .returned (.bool true) ∧ Below W.heap.size W w' := fun W hB => by
    have k := qlies_any (h.below hB) hm (at_ : Int) (n : Int) (by omega) (by omega) (by omega)
    rw [show hasB σ (at_ : Int) (n : Int) = true by unfold hasB; simp; omega] at k
    exact k
  have nI : ¬ (n : Int) < 1 := by omega
  have KL := hide kl
  have KI := hide ki
  have HA := hide hA
  have HENT := hide hent
  have HROW := hide hrow
  have HSTEP := hide hstep
  have H0 := hide h0
  have HEND := hide hend
  have HKK := hide hk
  clear h hok ho hlen hn kl ki hA hent hrow hstep h0 hend hp hm hk
  go_enter Try.func57, Try.ntmps57
  go_wp2_with (first
    | (go_at_call 21; refine (KL.out).mono ?_; rintro e W1 ⟨R, rfl, hb1⟩; obtain ⟨s0, s1, s2⟩ := st3 ((hb1.block _ (by simp)).trans (heap_alloc_new w _)); have h1 := HA.out.trans (hb1.mono HA.out.size); have KI1 := hide (KI.out W1 h1); have HB1 := hide h1; clear hb1 h1)
    | (go_at_call 75; refine (KI1.out).mono ?_; rintro e W2 ⟨rfl, hb2⟩; have HB2 := hide (HB1.out.trans (hb2.mono HB1.out.size)); clear hb2))
  go_loopw [29] (fun iv wr => ∃ j : Nat, iv = .int .i64 (j : Int) ∧ j ≤ k ∧ P j wr) (fun iv _ => (k - (intOf iv).toNat))
  case atStart => exact ⟨0, rfl, Nat.zero_le _, H0.out _ HB2.out⟩
  case round =>
    obtain ⟨j, rfl, hj, hP⟩ := hrel
    have hk1 := HKK.out
    by_cases hlt : j < k
    · have jI : (j : Int) < (k : Int) := by omega
      have cj := HROW.out j wr hP j hlt
      have en := HENT.out j hlt
      have ks := HSTEP.out j hlt wr hP
      have KS := hide ks
      clear ks hP
      go_wp2_with (refine (KS.out).mono ?_; rintro e W3 ⟨c, rfl, hc0, hc1⟩; have HC0 := hide hc0; have HC1 := hide hc1; clear hc0 hc1)
      · rename_i hc
        go_ret
        exact ⟨c, rfl, HC1.out (by simpa using hc)⟩
      · rename_i hc
        exact ⟨⟨j + 1, int_congrP (by omega), by omega, HC0.out (by simpa using hc)⟩, by simp [intOf]; omega⟩
    · obtain rfl : j = k := by omega
      have HP := hide hP
      clear hP
      go_wp2
      go_ret
      exact ⟨0, rfl, HEND.out _ HP.out⟩
end
end Go.Proofs.Ytgfgihpkbbjkfaa
