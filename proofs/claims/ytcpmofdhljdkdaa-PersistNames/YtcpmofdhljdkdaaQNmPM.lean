/- PersistNames answers true: the numbers of the errors; what package persist answers of devices that are none, of one that is off, and of ranges without bytes; and that it works. -/
import Derived.Test.YtcpmofdhljdkdaaQFl
import Derived.Test.YtcpmofdhljdkdaaPSto
import Derived.Test.YtcpmofdhljdkdaaPFnW
import Derived.Test.YtcpmofdhljdkdaaPLd
import Derived.Test.YtcpmofdhljdkdaaPSt
import Derived.Test.YtcpmofdhljdkdaaPNew
import Derived.Test.YtcpmofdhljdkdaaPut
import Derived.Deep.Cut
import Derived.Test.YtcpmofdhljdkdaaBase
import Derived.ProofKit
import Derived.ChangeOld
import Derived.ChangeMaps5
import Derived.SizedLaws
import Derived.JoinedCond
namespace Go.Proofs.Ytcpmofdhljdkdaa
open Go.RowKit Go.Shelf
set_option linter.unusedVariables false

section
variable {w : World} {b : Nat} {L : Lay} {σ : St}
theorem st3 {W : World} {g : Nat} {p : Value} {x y : Int} (h : W.heap[g]? = some (.cells #[p, .int .i64 x, .int .i64 y] 81 (0, 0))) :
    W.cell? ⟨g, 0, none⟩ = some p ∧ W.cell? ⟨g, 1, none⟩ = some (.int .i64 x) ∧ W.cell? ⟨g, 2, none⟩ = some (.int .i64 y) := ⟨cell8 h 0, cell8 h 1, cell8 h 2⟩
set_option maxHeartbeats 400000 in
theorem qlies_any (h : DevL w b L σ) (hn : σ.n ≤ 65536) (x y : Int) (hx : -9223372036854775808 ≤ x) (hx' : x ≤ 9223372036854775807) (hy : 0 ≤ y) : Calls Try.prog 59 #[.agg #[.pointer (some ⟨b, 0, none⟩), .int .i64 x, .int .i64 y]] w fun e w' => e = .returned (.bool (hasB σ x y)) ∧ Below w.heap.size w w' := by
  have hA : Below w.heap.size w (w.alloc (.cells #[.pointer (some ⟨b, 0, none⟩), .int .i64 x, .int .i64 y] 81)) := (Below.refl _ w).alloc (Nat.le_refl _) _
  have ks := psize_any (h.below hA.drew) hn
  obtain ⟨N, hN⟩ : ∃ N : Nat, N = 64 * σ.n := ⟨_, rfl⟩
  rw [← hN] at ks
  have NI : (N : Int) ≤ 4194304 := by omega
  have s0 : (w.alloc (.cells #[.pointer (some ⟨b, 0, none⟩), .int .i64 x, .int .i64 y] 81)).drew.cell? ⟨w.heap.size, 0, none⟩ = some (.pointer (some ⟨b, 0, none⟩)) ∧ (w.alloc (.cells #[.pointer (some ⟨b, 0, none⟩), .int .i64 x, .int .i64 y] 81)).drew.cell? ⟨w.heap.size, 1, none⟩ = some (.int .i64 x) ∧ (w.alloc (.cells #[.pointer (some ⟨b, 0, none⟩), .int .i64 x, .int .i64 y] 81)).drew.cell? ⟨w.heap.size, 2, none⟩ = some (.int .i64 y) := st3 (W := (w.alloc (.cells #[.pointer (some ⟨b, 0, none⟩), .int .i64 x, .int .i64 y] 81)).drew) (heap_alloc_new w _)
  have KS := hide ks
  have HA := hide hA
  have S0 := hide s0
  by_cases h0 : x < 0
  · have e : hasB σ x y = false := by unfold hasB; simp; omega
    rw [e]
    have h0' : ¬ 0 ≤ x := by omega
    clear h ks hA e hN s0
    go_enter Try.func59, Try.ntmps59
    go_wp2_with (fail)
    refine wp_region_held_drew (S := fun X => X.cell? ⟨w.heap.size, 0, none⟩ = some (.pointer (some ⟨b, 0, none⟩)) ∧ X.cell? ⟨w.heap.size, 1, none⟩ = some (.int .i64 x) ∧ X.cell? ⟨w.heap.size, 2, none⟩ = some (.int .i64 y)) (by kernel_rfl) S0.out (fun hS => ?_)
    refine wpAnyH_take (i := 0) (v := (.pointer (some ⟨w.heap.size, 1, none⟩))) rfl (by kernel_rfl) (by kernel_rfl) (by kernel_rfl) (fun _ _ _ h => h) (Or.inl ⟨by kernel_rfl, fun w' hw => by (go_simp)⟩) hS ?_
    refine wpAnyH_take (i := 1) (v := (.int .i64 x)) rfl (by kernel_rfl) (by kernel_rfl) (by kernel_rfl) (fun _ _ _ h => h) (Or.inl ⟨by kernel_rfl, fun w' hw => by (obtain ⟨z0, z1, z2⟩ := hw; go_simp)⟩) hS ?_
    refine wpAnyH_take (i := 2) (v := (.bool false)) rfl (by kernel_rfl) (by kernel_rfl) (by kernel_rfl) (fun _ _ _ h => h) (Or.inl ⟨by kernel_rfl, fun w' hw => by (go_simp)⟩) hS ?_
    refine wpAnyH_take (i := 3) (v := (.bool false)) rfl (by kernel_rfl) (by kernel_rfl) (by kernel_rfl) (fun _ _ _ h => h) (Or.inl ⟨by kernel_rfl, fun w' hw => by (go_simp)⟩) hS ?_
    refine wpAnyH_take (i := 4) (v := undef) rfl (by kernel_rfl) (by kernel_rfl) (by kernel_rfl) (fun _ _ _ h => h) (Or.inr ⟨by kernel_rfl, rfl⟩) hS ?_
    refine wpAnyH_take (i := 5) (v := undef) rfl (by kernel_rfl) (by kernel_rfl) (by kernel_rfl) (fun _ _ _ h => h) (Or.inr ⟨by kernel_rfl, rfl⟩) hS ?_
    refine wpAnyH_take (i := 6) (v := undef) rfl (by kernel_rfl) (by kernel_rfl) (by kernel_rfl) (fun _ _ _ h => h) (Or.inr ⟨by kernel_rfl, rfl⟩) hS ?_
    refine wpAnyH_take (i := 7) (v := undef) rfl (by kernel_rfl) (by kernel_rfl) (by kernel_rfl) (fun _ _ _ h => h) (Or.inr ⟨by kernel_rfl, rfl⟩) hS ?_
    refine wpAnyH_take (i := 8) (v := undef) rfl (by kernel_rfl) (by kernel_rfl) (by kernel_rfl) (fun _ _ _ h => h) (Or.inr ⟨by kernel_rfl, rfl⟩) hS ?_
    refine wpAnyH_take (i := 9) (v := undef) rfl (by kernel_rfl) (by kernel_rfl) (by kernel_rfl) (fun _ _ _ h => h) (Or.inr ⟨by kernel_rfl, rfl⟩) hS ?_
    refine wpAnyH_take (i := 10) (v := undef) rfl (by kernel_rfl) (by kernel_rfl) (by kernel_rfl) (fun _ _ _ h => h) (Or.inr ⟨by kernel_rfl, rfl⟩) hS ?_
    refine wpAnyH_take (i := 11) (v := undef) rfl (by kernel_rfl) (by kernel_rfl) (by kernel_rfl) (fun _ _ _ h => h) (Or.inr ⟨by kernel_rfl, rfl⟩) hS ?_
    refine wpAnyH_take (i := 12) (v := undef) rfl (by kernel_rfl) (by kernel_rfl) (by kernel_rfl) (fun _ _ _ h => h) (Or.inr ⟨by kernel_rfl, rfl⟩) hS ?_
    refine wpAnyH_take (i := 13) (v := (.bool false)) rfl (by kernel_rfl) (by kernel_rfl) (by kernel_rfl) (fun _ _ _ h => h) (Or.inl ⟨by kernel_rfl, fun w' hw => by (go_simp)⟩) hS ?_
    refine wpAnyH_take (i := 14) (v := (.bool false)) rfl (by kernel_rfl) (by kernel_rfl) (by kernel_rfl) (fun _ _ _ h => h) (Or.inl ⟨by kernel_rfl, fun w' hw => by (go_simp)⟩) hS ?_
    refine wpAnyH_done (by kernel_rfl) ?_ _
    simp only [Act.put, List.getElem_toArray, List.getElem_cons_zero, List.getElem_cons_succ, List.setIfInBounds_toArray, List.set_cons_zero, List.set_cons_succ]
    go_wp2_with (fail)
    go_ret
    exact ⟨rfl, HA.out.drew⟩
  · have h0' : 0 ≤ x := by omega
    have e : hasB σ x y = decide (y ≤ (N : Int) - x) := by
      unfold hasB
      rw [Bool.eq_iff_iff]
      simp
      omega
    rw [e]
    clear h ks hA e hN h0 s0
    have wr : IntKind.i64.wrap ((N : Int) - x) = (N : Int) - x := by rw [IntKind.wrap_i64]; omega
    go_enter Try.func59, Try.ntmps59
    go_wp2_with (fail)
    refine wp_region_held_drew (S := fun X => X.cell? ⟨w.heap.size, 0, none⟩ = some (.pointer (some ⟨b, 0, none⟩)) ∧ X.cell? ⟨w.heap.size, 1, none⟩ = some (.int .i64 x) ∧ X.cell? ⟨w.heap.size, 2, none⟩ = some (.int .i64 y)) (by kernel_rfl) S0.out (fun hS => ?_)
    refine wpAnyH_take (i := 0) (v := (.pointer (some ⟨w.heap.size, 1, none⟩))) rfl (by kernel_rfl) (by kernel_rfl) (by kernel_rfl) (fun _ _ _ h => h) (Or.inl ⟨by kernel_rfl, fun w' hw => by (go_simp)⟩) hS ?_
    refine wpAnyH_take (i := 1) (v := (.int .i64 x)) rfl (by kernel_rfl) (by kernel_rfl) (by kernel_rfl) (fun _ _ _ h => h) (Or.inl ⟨by kernel_rfl, fun w' hw => by (obtain ⟨z0, z1, z2⟩ := hw; go_simp)⟩) hS ?_
    refine wpAnyH_take (i := 2) (v := (.bool true)) rfl (by kernel_rfl) (by kernel_rfl) (by kernel_rfl) (fun _ _ _ h => h) (Or.inl ⟨by kernel_rfl, fun w' hw => by (go_simp)⟩) hS ?_
    refine wpAnyH_take (i := 3) (v := (.bool true)) rfl (by kernel_rfl) (by kernel_rfl) (by kernel_rfl) (fun _ _ _ h => h) (Or.inl ⟨by kernel_rfl, fun w' hw => by (go_simp)⟩) hS ?_
    refine wpAnyH_take (i := 4) (v := (.pointer (some ⟨w.heap.size, 2, none⟩))) rfl (by kernel_rfl) (by kernel_rfl) (by kernel_rfl) (fun _ _ _ h => h) (Or.inl ⟨by kernel_rfl, fun w' hw => by (go_simp)⟩) hS ?_
    refine wpAnyH_take (i := 5) (v := (.int .i64 y)) rfl (by kernel_rfl) (by kernel_rfl) (by kernel_rfl) (fun _ _ _ h => h) (Or.inl ⟨by kernel_rfl, fun w' hw => by (obtain ⟨z0, z1, z2⟩ := hw; go_simp)⟩) hS ?_
    refine wpAnyH_take (i := 6) (v := (.pointer (some ⟨w.heap.size, 0, none⟩))) rfl (by kernel_rfl) (by kernel_rfl) (by kernel_rfl) (fun _ _ _ h => h) (Or.inl ⟨by kernel_rfl, fun w' hw => by (go_simp)⟩) hS ?_
    refine wpAnyH_take (i := 7) (v := (.pointer (some ⟨b, 0, none⟩))) rfl (by kernel_rfl) (by kernel_rfl) (by kernel_rfl) (fun _ _ _ h => h) (Or.inl ⟨by kernel_rfl, fun w' hw => by (obtain ⟨z0, z1, z2⟩ := hw; go_simp)⟩) hS ?_
    refine wpAnyH_take (i := 9) (v := (.pointer (some ⟨w.heap.size, 1, none⟩))) rfl (by kernel_rfl) (by kernel_rfl) (by kernel_rfl) (fun _ _ _ h => h) (Or.inl ⟨by kernel_rfl, fun w' hw => by (go_simp)⟩) hS ?_
    refine wpAnyH_take (i := 10) (v := (.int .i64 x)) rfl (by kernel_rfl) (by kernel_rfl) (by kernel_rfl) (fun _ _ _ h => h) (Or.inl ⟨by kernel_rfl, fun w' hw => by (obtain ⟨z0, z1, z2⟩ := hw; go_simp)⟩) hS ?_
    refine wpAnyH_ready (rs := [8]) (by kernel_rfl) (by simp) ?_
    refine AllReadyH.cons rfl (fun K hK => ?_) AllReadyH.nil
    rw [if_pos (by kernel_rfl)]
    go_simp
    go_wp2_with (go_at_call 53; refine (KS.out).mono ?_; rintro e W3 ⟨rfl, hw3⟩; obtain rfl := hw3)
    refine hK.out _ _ hS (fun hS2 => ?_)
    refine wpAnyH_take (i := 11) (v := (.int .i64 ((N : Int) - x))) rfl (by kernel_rfl) (by kernel_rfl) (by kernel_rfl) (fun _ _ _ h => h) (Or.inl ⟨by kernel_rfl, fun w' hw => by (go_simp)⟩) hS2 ?_
    refine wpAnyH_take (i := 12) (v := (.bool (decide (y ≤ (N : Int) - x)))) rfl (by kernel_rfl) (by kernel_rfl) (by kernel_rfl) (fun _ _ _ h => h) (Or.inl ⟨by kernel_rfl, fun w' hw => by (go_simp)⟩) hS2 ?_
    refine wpAnyH_take (i := 13) (v := (.bool (decide (y ≤ (N : Int) - x)))) rfl (by kernel_rfl) (by kernel_rfl) (by kernel_rfl) (fun _ _ _ h => h) (Or.inl ⟨by kernel_rfl, fun w' hw => by (go_simp)⟩) hS2 ?_
    refine wpAnyH_take (i := 14) (v := (.bool (decide (y ≤ (N : Int) - x)))) rfl (by kernel_rfl) (by kernel_rfl) (by kernel_rfl) (fun _ _ _ h => h) (Or.inl ⟨by kernel_rfl, fun w' hw => by (go_simp)⟩) hS2 ?_
    refine wpAnyH_done (by kernel_rfl) ?_ _
    simp only [Act.put, List.getElem_toArray, List.getElem_cons_zero, List.getElem_cons_succ, List.setIfInBounds_toArray, List.set_cons_zero, List.set_cons_succ]
    go_wp2_with (fail)
    go_ret
    exact ⟨rfl, HA.out.drew⟩
set_option maxRecDepth 100000 in
set_option maxHeartbeats 400000 in
/-- Steps in turn, each with its own contract. -/
theorem qturn_gen (h : DevL w b L σ) (hok : σ.Ok) (ho : σ.off = false) (at_ n : Nat) (hn : 1 ≤ n) (hlen : at_ + n ≤ 64 * σ.n) (rb k : Nat) (f : Nat → Nat) (a : Nat → Array Value) (P : Nat → World → Prop) (Q : Int → World → Prop)
    (hent : ∀ j, j < k → ∀ args W, (callFunc (f j) args).run Try.prog W = .ok (.enter (f j) args) W) (hk : k ≤ 1000)
    (hrow : ∀ j W, P j W → ∀ i, i < k → W.cell? ⟨rb, i, none⟩ = some (.func (.func (f i)) (a i) #[]))
    (hstep : ∀ j, j < k → ∀ W, P j W → Calls Try.prog (f j) (a j) W fun e W' => ∃ c : Int, e = .returned (.int .i64 c) ∧ (c = 0 → P (j + 1) W') ∧ (c ≠ 0 → Q c W'))
    (h0 : ∀ W, Below w.heap.size w W → P 0 W) (hend : ∀ W, P k W → Q 0 W) :
    Calls Try.prog 33 #[.agg #[.pointer (some ⟨b, 0, none⟩), .int .i64 (at_ : Int), .int .i64 (n : Int)], .slice (some ⟨rb, 0, none⟩) k k] w fun e w' => ∃ c : Int, e = .returned (.int .i64 c) ∧ Q c w' := by
  have hp := hok.pos
  have hm := hok.max
  have hA : Below w.heap.size w (w.alloc (.cells #[.pointer (some ⟨b, 0, none⟩), .int .i64 (at_ : Int), .int .i64 (n : Int)] 81)) := (Below.refl _ w).alloc (Nat.le_refl _) _
  have kl : Calls Try.prog 22 #[.pointer (some ⟨b, 0, none⟩), .int .i64 0, .int .i64 0] (w.alloc (.cells #[.pointer (some ⟨b, 0, none⟩), .int .i64 (at_ : Int), .int .i64 (n : Int)] 81)) fun e w' => ∃ R, e = .returned (.tuple #[.slice (some ⟨R, 0, none⟩) 0 0, .int .i64 0]) ∧ Below (w.alloc (.cells #[.pointer (some ⟨b, 0, none⟩), .int .i64 (at_ : Int), .int .i64 (n : Int)] 81)).heap.size (w.alloc (.cells #[.pointer (some ⟨b, 0, none⟩), .int .i64 (at_ : Int), .int .i64 (n : Int)] 81)) w' := by
    refine (callsIn_wide.1 (pload_in (at_ := 0) (n := 0) (h.below hA) hok ho (by omega))).mono ?_
    rintro e w' ⟨R, rfl, _, _, hb⟩
    exact ⟨R, rfl, hb⟩
  have ki : ∀ W, Below w.heap.size w W → Calls Try.prog 59 #[.agg #[.pointer (some ⟨b, 0, none⟩), .int .i64 (at_ : Int), .int .i64 (n : Int)]] W fun e w' => e = .returned (.bool true) ∧ Below W.heap.size W w' := fun W hB => by
    have k := qlies_any (h.below hB) hm (at_ : Int) (n : Int) (by omega) (by omega) (by omega)
    rw [show hasB σ (at_ : Int) (n : Int) = true by unfold hasB; simp; omega] at k
    exact k
  have nI : ¬ (n : Int) < 1 := by omega
  have KL := hide kl
  have KI := hide ki
  have HA := hide hA
  have HENT := hide hent
  have HROW := hide hrow
  have HSTEP := hide hstep
  have H0 := hide h0
  have HEND := hide hend
  have HKK := hide hk
  clear h hok ho hlen hn kl ki hA hent hrow hstep h0 hend hp hm hk
  go_enter Try.func33, Try.ntmps33
  go_wp2_with (first
    | (go_at_call 22; refine (KL.out).mono ?_; rintro e W1 ⟨R, rfl, hb1⟩; obtain ⟨s0, s1, s2⟩ := st3 ((hb1.block _ (by simp)).trans (heap_alloc_new w _)); have h1 := HA.out.trans (hb1.mono HA.out.size); have KI1 := hide (KI.out W1 h1); have HB1 := hide h1; clear hb1 h1)
    | (go_at_call 59; refine (KI1.out).mono ?_; rintro e W2 ⟨rfl, hb2⟩; have HB2 := hide (HB1.out.trans (hb2.mono HB1.out.size)); clear hb2))
  go_loopw [29] (fun iv wr => ∃ j : Nat, iv = .int .i64 (j : Int) ∧ j ≤ k ∧ P j wr) (fun iv _ => (k - (intOf iv).toNat))
  case atStart => exact ⟨0, rfl, Nat.zero_le _, H0.out _ HB2.out⟩
  case round =>
    obtain ⟨j, rfl, hj, hP⟩ := hrel
    have hk1 := HKK.out
    by_cases hlt : j < k
    · have jI : (j : Int) < (k : Int) := by omega
      have cj := HROW.out j wr hP j hlt
      have en := HENT.out j hlt
      have ks := HSTEP.out j hlt wr hP
      have KS := hide ks
      clear ks hP
      go_wp2_with (refine (KS.out).mono ?_; rintro e W3 ⟨c, rfl, hc0, hc1⟩; have HC0 := hide hc0; have HC1 := hide hc1; clear hc0 hc1)
      · rename_i hc
        go_ret
        exact ⟨c, rfl, HC1.out (by simpa using hc)⟩
      · rename_i hc
        exact ⟨⟨j + 1, int_congrP (by omega), by omega, HC0.out (by simpa using hc)⟩, by simp [intOf]; omega⟩
    · obtain rfl : j = k := by omega
      have HP := hide hP
      clear hP
      go_wp2
      go_ret
      exact ⟨0, rfl, HEND.out _ HP.out⟩
end
end Go.Proofs.Ytcpmofdhljdkdaa
namespace Go.Proofs.Ytcpmofdhljdkdaa
open Go.RowKit Go.Shelf
set_option linter.unusedVariables false

section
variable {w : World} {b : Nat} {L : Lay} {σ : St}
/-- No steps are taken: the device is none, or is off, or there are no bytes. -/
theorem qturn_early (p : Value) (c : Int) (x y : Int) (sl : Value) (kl : ∀ W, Below w.heap.size w W → Calls Try.prog 22 #[p, .int .i64 0, .int .i64 0] W fun e w' => ∃ v, e = .returned (.tuple #[v, .int .i64 c]) ∧ Below W.heap.size W w') (hc : c ≠ 0 ∨ y < 1) :
    Calls Try.prog 33 #[.agg #[p, .int .i64 x, .int .i64 y], sl] w fun e w' => e = .returned (.int .i64 c) ∧ Below w.heap.size w w' := by
  have hA : Below w.heap.size w (w.alloc (.cells #[p, .int .i64 x, .int .i64 y] 81)) := (Below.refl _ w).alloc (Nat.le_refl _) _
  have KL := hide (kl _ hA)
  have HA := hide hA
  clear kl hA
  by_cases h0 : c = 0
  · have h1 : y < 1 := by omega
    subst h0
    clear hc
    go_enter Try.func33, Try.ntmps33
    go_wp2_with (go_at_call 22; refine (KL.out).mono ?_; rintro e W1 ⟨v, rfl, hb1⟩; obtain ⟨s0, s1, s2⟩ := st3 ((hb1.block _ (by simp)).trans (heap_alloc_new w _)); have HB1 := hide (HA.out.trans (hb1.mono HA.out.size)); clear hb1)
    go_ret
    exact ⟨rfl, HB1.out⟩
  · have h1 : (c != 0) = true := by simpa using h0
    have HC := hide h0
    clear hc h0
    go_enter Try.func33, Try.ntmps33
    go_wp2_with (go_at_call 22; refine (KL.out).mono ?_; rintro e W1 ⟨v, rfl, hb1⟩; obtain ⟨s0, s1, s2⟩ := st3 ((hb1.block _ (by simp)).trans (heap_alloc_new w _)); have HB1 := hide (HA.out.trans (hb1.mono HA.out.size)); clear hb1)
    go_ret
    exact ⟨rfl, HB1.out⟩
/-- A device behind a step: what it is, where it lies. -/
def Atd (W0 : World) (b : Nat) (L : Lay) (σ : St) (W : World) (σ' : St) (m : Nat) : Prop :=
  Gr (Foot b L σ) W0 W ∧ ∃ L', DevL W b L' σ' ∧ (∀ k, Foot b L' σ' k → Foot b L σ k ∨ W0.heap.size ≤ k) ∧ L'.N ≤ L.N + m
theorem Atd.start {W0 W : World} (h : DevL W0 b L σ) (hB : Below W0.heap.size W0 W) : Atd W0 b L σ W σ 0 := ⟨Gr.of_below hB, L, h.below hB, fun k hk => .inl hk, by omega⟩
theorem Atd.go {W0 W W' : World} {L' : Lay} {σ' σ2 : St} {m m2 : Nat} (h : Gr (Foot b L σ) W0 W) (hf : ∀ k, Foot b L' σ' k → Foot b L σ k ∨ W0.heap.size ≤ k) (hN : L'.N ≤ L.N + m) {L2 : Lay} (hd : DevL W' b L2 σ2) (hf2 : ∀ k, Foot b L2 σ2 k → Foot b L' σ' k ∨ W.heap.size ≤ k) (hg : Gr (Foot b L' σ') W W') (hN2 : L2.N ≤ L'.N + m2) : Atd W0 b L σ W' σ2 (m + m2) :=
  ⟨h.trans hg hf, L2, hd, fun k hk => (hf2 k hk).elim (hf k) (fun h1 => .inr (Nat.le_trans h.size h1)), by omega⟩
theorem st4 {W : World} {g : Nat} {p v : Value} {x y : Int} {t : TypeId} (h : W.heap[g]? = some (.cells #[p, .int .i64 x, .int .i64 y, v] t (0, 0))) :
    W.cell? ⟨g, 0, none⟩ = some p ∧ W.cell? ⟨g, 1, none⟩ = some (.int .i64 x) ∧ W.cell? ⟨g, 2, none⟩ = some (.int .i64 y) ∧ W.cell? ⟨g, 3, none⟩ = some v := ⟨cell8 h 0, cell8 h 1, cell8 h 2, cell8 h 3⟩
theorem qtstore_any {a : Option Addr} {bs : List Nat} (at_ cap : Nat) (h : DevL w b L σ) (hok : σ.Ok) (ho : σ.off = false) (hN : L.N ≤ σ.ops) (harm : σ.arms = []) (hops : σ.ops + 600000 ≤ 274877906944) (hsl : Sl w a bs) (hcap : bs.length ≤ cap) (hlen : at_ + bs.length ≤ 64 * σ.n) (haf : ∀ ad, a = some ad → ad.block < w.heap.size ∧ ¬ Foot b L σ ad.block) :
    Calls Try.prog 36 #[.agg #[.pointer (some ⟨b, 0, none⟩), .int .i64 (at_ : Int), .int .i64 (bs.length : Int), .slice a bs.length cap]] w fun e w' => e = .returned (.int .i64 0) ∧ ∃ L', DevL w' b L' (writeDo bs at_ σ (wordsOf at_ bs.length)) ∧ (∀ k, Foot b L' (writeDo bs at_ σ (wordsOf at_ bs.length)) k → Foot b L σ k ∨ w.heap.size ≤ k) ∧ Gr (Foot b L σ) w w' ∧ L'.N ≤ L.N + (wordsOf at_ bs.length).length := by
  have hA : Below w.heap.size w (w.alloc (.cells #[.pointer (some ⟨b, 0, none⟩), .int .i64 (at_ : Int), .int .i64 (bs.length : Int), .slice a bs.length cap] 84)) := (Below.refl _ w).alloc (Nat.le_refl _) _
  have ks := psto_any (a := a) (bs := bs) at_ cap (h.below hA) hok ho hN harm hops (hsl.below hA) hcap hlen (fun ad he => ⟨Nat.lt_of_lt_of_le (haf ad he).1 hA.size, (haf ad he).2⟩)
  have KS := hide ks
  have HA := hide hA
  clear h hok ho hN harm hops hsl hlen haf ks hA
  generalize bs.length = n at *
  go_enter Try.func36, Try.ntmps36
  go_wp2_with (go_at_call 46; refine (KS.out).mono ?_; rintro e W1 ⟨rfl, L5, hd5, hf5, hg5, hN5, _⟩; have HR := hide (And.intro hd5 (And.intro hf5 (And.intro hg5 hN5))); clear hd5 hf5 hg5 hN5)
  go_ret
  obtain ⟨h1, h2, h3, h4⟩ := HR.out
  exact ⟨rfl, L5, h1, fun k hk => (h2 k hk).imp id (fun h => Nat.le_trans HA.out.size h), (Gr.of_below HA.out).trans h3 (fun i h => .inl h), h4⟩
end
end Go.Proofs.Ytcpmofdhljdkdaa
namespace Go.Proofs.Ytcpmofdhljdkdaa
open Go.RowKit Go.Shelf
set_option linter.unusedVariables false

/-- What Bytes makes of a device. -/
def bytesDo (bs : List Nat) (at_ : Nat) (σ : St) : St := fenceDo (linesDo (writeDo bs at_ σ (wordsOf at_ bs.length)) (linesOf at_ bs.length))
theorem linesOf_len {at_ n : Nat} (h : at_ + n ≤ 4194304) : (linesOf at_ n).length ≤ 65537 := by
  unfold linesOf unitsV
  rw [List.length_map]
  split
  · simp
  · rw [upto_length]
    omega
theorem Atd.base {w W0 W : World} {b : Nat} {L : Lay} {σ σ' : St} {m : Nat} (h : Atd W0 b L σ W σ' m) (hB : Below w.heap.size w W0) : Atd w b L σ W σ' m := by
  obtain ⟨hg, L', hd, hf, hN⟩ := h
  exact ⟨(Gr.of_below hB).trans hg (fun i h => .inl h), L', hd, fun k hk => (hf k hk).imp id (fun h => Nat.le_trans hB.size h), hN⟩
section
variable {w : World} {b : Nat} {L : Lay} {σ : St}
/-- The three steps of Bytes. -/
def byF (j : Nat) : Nat := if j = 0 then 36 else if j = 1 then 34 else 35
def byA (b at_ n cap : Nat) (a : Option Addr) (j : Nat) : Array Value := if j = 0 then #[.agg #[.pointer (some ⟨b, 0, none⟩), .int .i64 (at_ : Int), .int .i64 (n : Int), .slice a n cap]] else if j = 1 then #[.agg #[.pointer (some ⟨b, 0, none⟩), .int .i64 (at_ : Int), .int .i64 (n : Int)]] else #[.pointer (some ⟨b, 0, none⟩)]
def byS (bs : List Nat) (at_ : Nat) (σ : St) (j : Nat) : St := if j = 0 then σ else if j = 1 then writeDo bs at_ σ (wordsOf at_ bs.length) else if j = 2 then linesDo (writeDo bs at_ σ (wordsOf at_ bs.length)) (linesOf at_ bs.length) else bytesDo bs at_ σ
def byM (at_ n j : Nat) : Nat := if j = 0 then 0 else if j = 1 then (wordsOf at_ n).length else (wordsOf at_ n).length + (linesOf at_ n).length
theorem three {j : Nat} (h : j < 3) : j = 0 ∨ j = 1 ∨ j = 2 := by omega
set_option maxRecDepth 100000 in
set_option maxHeartbeats 400000 in
theorem qbytes_turn {a : Option Addr} {bs : List Nat} (at_ cap rb : Nat) (W0 : World) (hB0 : Below w.heap.size w W0) (h : DevL w b L σ) (hok : σ.Ok) (ho : σ.off = false) (hN : L.N ≤ σ.ops) (harm : σ.arms = []) (hops : σ.ops + 2000000 ≤ 274877906944) (hsl : Sl w a bs) (hcap : bs.length ≤ cap) (hn : 1 ≤ bs.length) (hlen : at_ + bs.length ≤ 64 * σ.n) (haf : ∀ ad, a = some ad → ad.block < w.heap.size ∧ ¬ Foot b L σ ad.block)
    (hrb : w.heap.size ≤ rb) (hrow : W0.heap[rb]? = some (.cells #[.func (.func (byF 0)) (byA b at_ bs.length cap a 0) #[], .func (.func (byF 1)) (byA b at_ bs.length cap a 1) #[], .func (.func (byF 2)) (byA b at_ bs.length cap a 2) #[]] 116 (0, 0))) :
    Calls Try.prog 33 #[.agg #[.pointer (some ⟨b, 0, none⟩), .int .i64 (at_ : Int), .int .i64 (bs.length : Int)], .slice (some ⟨rb, 0, none⟩) 3 3] W0 fun e w' => e = .returned (.int .i64 0) ∧ Atd W0 b L σ w' (bytesDo bs at_ σ) ((wordsOf at_ bs.length).length + (linesOf at_ bs.length).length) := by
  have hm := hok.max
  have hlen2 : at_ + bs.length ≤ 4194304 := by omega
  have hwl := wordsOf_len hlen2
  have hll := linesOf_len hlen2
  have hlk := write_like (at_ := at_) hsl.lt (wordsOf at_ bs.length) σ hok (wordsOf_lt hlen hm) (by omega)
  obtain ⟨j1, j2, j3, j4, j5, _⟩ := lines_like (linesOf at_ bs.length) (writeDo bs at_ σ (wordsOf at_ bs.length)) hlk.ok (by rw [hlk.ops]; omega)
  rw [hlk.ops] at j3
  have hd0 := h.below hB0
  have hnf : ¬ Foot b L σ rb := fun hf => by have := h.foot_is hf; omega
  have hrl := lt_of_heap hrow
  refine (qturn_gen hd0 hok ho at_ bs.length hn hlen rb 3 byF (byA b at_ bs.length cap a) (fun j W => Atd W0 b L σ W (byS bs at_ σ j) (byM at_ bs.length j)) (fun c W => c = 0 ∧ Atd W0 b L σ W (bytesDo bs at_ σ) ((wordsOf at_ bs.length).length + (linesOf at_ bs.length).length)) (fun j hj => ?_) (by omega) (fun j W hP i hi => ?_) (fun j hj W hP => ?_) (fun W hB => Atd.start hd0 hB) (fun W hP => ⟨rfl, hP⟩)).mono ?_
  · obtain rfl | rfl | rfl := three hj
    · exact enters_of Try.func36 (by kernel_rfl) rfl
    · exact enters_of Try.func34 (by kernel_rfl) rfl
    · exact enters_of Try.func35 (by kernel_rfl) rfl
  · have hr := (hP.1.block hrl hnf).trans hrow
    obtain rfl | rfl | rfl := three hi
    · exact cell8 hr 0
    · exact cell8 hr 1
    · exact cell8 hr 2
  · obtain ⟨hg, L', hd, hf, hN'⟩ := hP
    obtain rfl | rfl | rfl := three hj
    · refine (qtstore_any at_ cap hd hok ho (show L'.N ≤ σ.ops by have : L'.N ≤ L.N + 0 := hN'; omega) harm (by show σ.ops + _ ≤ _; omega) (hg.sl (hsl.below hB0) (fun ad he => (haf ad he).2)) hcap hlen (fun ad he => ?_)).mono ?_
      · obtain ⟨h1, h2⟩ := haf ad he
        refine ⟨Nat.lt_of_lt_of_le h1 (Nat.le_trans hB0.size hg.size), fun hF => ?_⟩
        rcases hf _ hF with h3 | h3
        · exact h2 h3
        · have := hB0.size; omega
      · rintro e W' ⟨rfl, L2, h1, h2, h3, h4⟩
        exact ⟨0, rfl, fun _ => by have h5 := Atd.go hg hf hN' h1 h2 h3 h4; exact ⟨h5.1, by obtain ⟨L5, q1, q2, q3⟩ := h5.2; exact ⟨L5, q1, q2, by show L5.N ≤ L.N + (wordsOf at_ bs.length).length; have : L5.N ≤ L.N + (0 + (wordsOf at_ bs.length).length) := q3; omega⟩⟩, fun h => absurd rfl h⟩
    · have hN2 : L'.N ≤ L.N + (wordsOf at_ bs.length).length := hN'
      have hd2 : DevL W b L' (writeDo bs at_ σ (wordsOf at_ bs.length)) := hd
      refine (callsIn_wide.1 (qflush_in (at_ := at_) (n := bs.length) hd2 hlk.ok (hlk.off.trans ho) (by rw [hlk.ops]; omega) (hlk.arms.trans harm) (by rw [hlk.n]; exact hlen) (by rw [hlk.ops]; omega))).mono ?_
      rintro e W' ⟨rfl, L2, h1, h2, h3, h4, _⟩
      exact ⟨0, rfl, fun _ => Atd.go hg hf hN' h1 (fun k hk => .inl (h2 k hk)) h3 h4, fun h => absurd rfl h⟩
    · have hd2 : DevL W b L' (linesDo (writeDo bs at_ σ (wordsOf at_ bs.length)) (linesOf at_ bs.length)) := hd
      refine (pfence_any hd2 j1 (j5.trans (hlk.off.trans ho)) (j4.trans (hlk.arms.trans harm)) (by rw [j3]; omega)).mono ?_
      rintro e W' ⟨rfl, L2, h1, h2, h3, h4⟩
      exact ⟨0, rfl, fun _ => Atd.go (m2 := 0) hg hf hN' h1 h2 h3 (by omega), fun h => absurd rfl h⟩
  · rintro e w' ⟨c, rfl, rfl, hA⟩
    exact ⟨rfl, hA⟩
set_option maxRecDepth 100000 in
set_option maxHeartbeats 400000 in
theorem qbytes_any {a : Option Addr} {bs : List Nat} (at_ cap : Nat) (h : DevL w b L σ) (hok : σ.Ok) (ho : σ.off = false) (hN : L.N ≤ σ.ops) (harm : σ.arms = []) (hops : σ.ops + 2000000 ≤ 274877906944) (hsl : Sl w a bs) (hcap : bs.length ≤ cap) (hn : 1 ≤ bs.length) (hlen : at_ + bs.length ≤ 64 * σ.n) (haf : ∀ ad, a = some ad → ad.block < w.heap.size ∧ ¬ Foot b L σ ad.block) :
    Calls Try.prog 10 #[.pointer (some ⟨b, 0, none⟩), .int .i64 (at_ : Int), .slice a bs.length cap] w fun e w' => e = .returned (.int .i64 0) ∧ Atd w b L σ w' (bytesDo bs at_ σ) ((wordsOf at_ bs.length).length + (linesOf at_ bs.length).length) := by
  obtain ⟨W0, hW0⟩ : ∃ W0, (w.alloc (.cells #[.pointer (some ⟨b, 0, none⟩), .int .i64 (at_ : Int), .int .i64 (bs.length : Int)] 81)).alloc (.cells #[.func (.func 36) #[.agg #[.pointer (some ⟨b, 0, none⟩), .int .i64 (at_ : Int), .int .i64 (bs.length : Int), .slice a bs.length cap]] #[], .func (.func 34) #[.agg #[.pointer (some ⟨b, 0, none⟩), .int .i64 (at_ : Int), .int .i64 (bs.length : Int)]] #[], .func (.func 35) #[.pointer (some ⟨b, 0, none⟩)] #[]] 116) = W0 := ⟨_, rfl⟩
  have hB0 : Below w.heap.size w W0 := by rw [← hW0]; exact ((Below.refl _ w).alloc (Nat.le_refl _) _).alloc (by simp) _
  have hrow : W0.heap[w.heap.size + 1]? = some (.cells #[.func (.func (byF 0)) (byA b at_ bs.length cap a 0) #[], .func (.func (byF 1)) (byA b at_ bs.length cap a 1) #[], .func (.func (byF 2)) (byA b at_ bs.length cap a 2) #[]] 116 (0, 0)) := by
    rw [← hW0]
    have := heap_alloc_new (w.alloc (.cells #[.pointer (some ⟨b, 0, none⟩), .int .i64 (at_ : Int), .int .i64 (bs.length : Int)] 81)) (.cells #[.func (.func 36) #[.agg #[.pointer (some ⟨b, 0, none⟩), .int .i64 (at_ : Int), .int .i64 (bs.length : Int), .slice a bs.length cap]] #[], .func (.func 34) #[.agg #[.pointer (some ⟨b, 0, none⟩), .int .i64 (at_ : Int), .int .i64 (bs.length : Int)]] #[], .func (.func 35) #[.pointer (some ⟨b, 0, none⟩)] #[]] 116)
    rw [World.size_alloc] at this
    exact this
  have kt := qbytes_turn at_ cap (w.heap.size + 1) W0 hB0 h hok ho hN harm hops hsl hcap hn hlen haf (by omega) hrow
  rw [← hW0] at kt
  have KT := hide kt
  have HB0 := hide hB0
  have HW0 := hide hW0
  clear h hok ho hN harm hops hsl hn hlen haf kt hB0 hrow hcap hW0
  generalize bs.length = n at *
  go_enter Try.func10, Try.ntmps10
  go_wp2_with (go_at_call 33; refine (KT.out).mono ?_; rintro e W1 ⟨rfl, hA⟩; have HAT := hide hA; clear hA)
  go_ret
  refine ⟨rfl, ?_⟩
  have h5 := HAT.out
  rw [HW0.out] at h5
  exact h5.base HB0.out
end
end Go.Proofs.Ytcpmofdhljdkdaa
namespace Go.Proofs.Ytcpmofdhljdkdaa
open Go.RowKit Go.Shelf
set_option linter.unusedVariables false

/-- A pointer to what is no device, or one that is off, in every world that keeps w. -/
def BadD (w : World) (p : Value) (c : Int) : Prop := c ≠ 0 ∧ ∀ W, Below w.heap.size w W → Calls Try.prog 40 #[p] W fun e w' => e = .returned (.int .i64 c) ∧ w' = W
theorem BadD.below {w W : World} {p : Value} {c : Int} (h : BadD w p c) (hB : Below w.heap.size w W) : BadD W p c := ⟨h.1, fun W' hB' => h.2 W' (hB.trans (hB'.mono hB.size))⟩
theorem BadD.of_none {w : World} {p : Option Addr} (h : ∀ W, Below w.heap.size w W → Calls Try.prog 39 #[.pointer p] W fun e w' => e = .returned (.bool true) ∧ w' = W) : BadD w (.pointer p) 1 := ⟨by omega, fun W hB => by
  have KN := hide (h W hB)
  clear h hB
  go_enter Try.func40, Try.ntmps40
  go_wp2_with (go_at_call 39; refine (KN.out).mono ?_; rintro e w' ⟨rfl, hw⟩; obtain rfl := hw.symm)
  go_ret
  exact ⟨rfl, rfl⟩⟩
theorem BadD.nil (w : World) : BadD w (.pointer none) 1 := BadD.of_none fun W _ => by
  go_enter Try.func39, Try.ntmps39
  go_wp2
  go_ret
  exact ⟨rfl, rfl⟩
theorem neq_nilQ (a : Addr) (w : World) : (binOp .neq 22 (.pointer none) (.pointer (some a))).run Try.prog w = .ok (.bool true) w := by
  have h : ∀ d : Nat, (Op.equalIn (d + 1) 22 (.pointer none) (.pointer (some a))).run Try.prog w = .ok false w := fun d => by
    simp [Op.equalIn, run_underlying Try.underlying22]
  simp only [binOp]
  simp [Op.equal, Op.maxDepth, h 9999]
theorem BadD.zero {w : World} {b : Nat} {c1 c2 c3 c4 c5 c6 c7 : Value} (h : w.heap[b]? = some (.cells #[.pointer none, c1, c2, c3, c4, c5, c6, c7] 42 (0, 0))) : BadD w (.pointer (some ⟨b, 0, none⟩)) 1 := BadD.of_none fun W hB => by
  have c0 : W.cell? ⟨b, 0, none⟩ = some (.pointer none) := cell8 ((hB.block b (lt_of_heap h)).trans h) 0
  have hq := neq_nilQ ⟨b, 0, none⟩ W
  clear h hB
  go_enter Try.func39, Try.ntmps39
  go_wp2
  go_ret
  exact ⟨rfl, rfl⟩
theorem BadD.off {w : World} {b : Nat} {L : Lay} {σ : St} (h : DevL w b L σ) (ho : σ.off = true) : BadD w (.pointer (some ⟨b, 0, none⟩)) 5 := ⟨by omega, fun W hB => by
  have ks := pstate_any (h.below hB)
  rw [ho] at ks
  simp only [if_true] at ks
  exact ks⟩
section
variable {w : World} {p : Option Addr} {c : Int}
theorem bad_load (h : BadD w (.pointer p) c) (x y : Int) : Calls Try.prog 22 #[.pointer p, .int .i64 x, .int .i64 y] w fun e w' => e = .returned (.tuple #[.slice none 0 0, .int .i64 c]) ∧ Below w.heap.size w w' := by
  have hA : Below w.heap.size w ((w.alloc (.cells #[.pointer p] 22)).alloc (.cells #[.int .i64 x] 3)) := ((Below.refl _ w).alloc (Nat.le_refl _) _).alloc (by simp) _
  have KS := hide (h.2 _ hA)
  have HA := hide hA
  have hc : (c != 0) = true := by simpa using h.1
  clear h hA
  refine (callsIn_wide (n := 3)).1 ?_
  refine callsIn_of_wp_marks Try.func22 rfl trivial ?_ rfl
  simp only [Try.ntmps22, List.size_toArray, List.length_cons, List.length_nil, Nat.reduceAdd, Nat.reduceSub, Array.replicate_succ, Array.replicate_zero, List.push_toArray, List.append_toArray, List.nil_append, List.cons_append]
  gi_wp2_with (refine ⟨trivial, ?_⟩; gi_at_call 40; refine (inW KS.out).mono ?_; rintro e w' ⟨rfl, hw⟩; obtain rfl := hw)
  exact ⟨_, results_tmp2 rfl _ _ _, rfl, HA.out⟩
theorem bad_turn (h : BadD w (.pointer p) c) (x y : Int) (sl : Value) (W : World) (hB : Below w.heap.size w W) : Calls Try.prog 33 #[.agg #[.pointer p, .int .i64 x, .int .i64 y], sl] W fun e w' => e = .returned (.int .i64 c) ∧ Below W.heap.size W w' :=
  qturn_early (.pointer p) c x y sl (fun W' hB' => (bad_load (h.below (hB.trans (hB'.mono hB.size))) 0 0).mono (fun e w' ⟨h1, h2⟩ => ⟨_, h1, h2⟩)) (.inl h.1)
theorem bad_bytes (h : BadD w (.pointer p) c) (x : Int) (a : Option Addr) (n cap : Nat) : Calls Try.prog 10 #[.pointer p, .int .i64 x, .slice a n cap] w fun e w' => e = .returned (.int .i64 c) ∧ Below w.heap.size w w' := by
  have KT := hide (fun sl W hB => bad_turn h x (n : Int) sl W hB)
  clear h
  go_enter Try.func10, Try.ntmps10
  go_wp2_with (go_at_call 33; refine (KT.out _ _ ?hb).mono ?_; (case hb => exact ((Below.refl _ w).alloc (Nat.le_refl _) _).alloc (by simp) _); rintro e W1 ⟨rfl, hb1⟩; have HB1 := hide hb1; clear hb1)
  go_ret
  exact ⟨rfl, (((Below.refl _ w).alloc (Nat.le_refl _) _).alloc (by simp) _).trans (HB1.out.mono (by simp; omega))⟩
theorem bad_range (h : BadD w (.pointer p) c) (x y : Int) : Calls Try.prog 9 #[.pointer p, .int .i64 x, .int .i64 y] w fun e w' => e = .returned (.int .i64 c) ∧ Below w.heap.size w w' := by
  have KT := hide (fun sl W hB => bad_turn h x y sl W hB)
  clear h
  go_enter Try.func9, Try.ntmps9
  go_wp2_with (go_at_call 33; refine (KT.out _ _ ?hb).mono ?_; (case hb => exact ((Below.refl _ w).alloc (Nat.le_refl _) _).alloc (by simp) _); rintro e W1 ⟨rfl, hb1⟩; have HB1 := hide hb1; clear hb1)
  go_ret
  exact ⟨rfl, (((Below.refl _ w).alloc (Nat.le_refl _) _).alloc (by simp) _).trans (HB1.out.mono (by simp; omega))⟩
theorem bad_publish (h : BadD w (.pointer p) c) (x : Int) (v : Int) : Calls Try.prog 11 #[.pointer p, .int .i64 x, .int .u64 v] w fun e w' => e = .returned (.int .i64 c) ∧ Below w.heap.size w w' := by
  have KT := hide (fun sl W hB => bad_turn h x 8 sl W hB)
  clear h
  go_enter Try.func11, Try.ntmps11
  go_wp2_with (go_at_call 33; refine (KT.out _ _ ?hb).mono ?_; (case hb => exact ((Below.refl _ w).alloc (Nat.le_refl _) _).alloc (by simp) _); rintro e W1 ⟨rfl, hb1⟩; have HB1 := hide hb1; clear hb1)
  go_ret
  exact ⟨rfl, (((Below.refl _ w).alloc (Nat.le_refl _) _).alloc (by simp) _).trans (HB1.out.mono (by simp; omega))⟩
end

section
variable {w : World} {b : Nat} {L : Lay} {σ : St}
theorem no_turn (h : DevL w b L σ) (hok : σ.Ok) (ho : σ.off = false) (x y : Int) (hy : y < 1) (sl : Value) (W : World) (hB : Below w.heap.size w W) : Calls Try.prog 33 #[.agg #[.pointer (some ⟨b, 0, none⟩), .int .i64 x, .int .i64 y], sl] W fun e w' => e = .returned (.int .i64 0) ∧ Below W.heap.size W w' :=
  qturn_early (.pointer (some ⟨b, 0, none⟩)) 0 x y sl (fun W' hB' => (callsIn_wide.1 (pload_in (at_ := 0) (n := 0) (h.below (hB.trans (hB'.mono hB.size))) hok ho (by omega))).mono (fun e w' ⟨R, h1, _, _, h2⟩ => ⟨_, h1, h2⟩)) (.inr hy)
theorem no_range (h : DevL w b L σ) (hok : σ.Ok) (ho : σ.off = false) (x y : Int) (hy : y < 1) : Calls Try.prog 9 #[.pointer (some ⟨b, 0, none⟩), .int .i64 x, .int .i64 y] w fun e w' => e = .returned (.int .i64 0) ∧ Below w.heap.size w w' := by
  have KT := hide (fun sl W hB => no_turn h hok ho x y hy sl W hB)
  clear h hok ho hy
  go_enter Try.func9, Try.ntmps9
  go_wp2_with (go_at_call 33; refine (KT.out _ _ ?hb).mono ?_; (case hb => exact ((Below.refl _ w).alloc (Nat.le_refl _) _).alloc (by simp) _); rintro e W1 ⟨rfl, hb1⟩; have HB1 := hide hb1; clear hb1)
  go_ret
  exact ⟨rfl, (((Below.refl _ w).alloc (Nat.le_refl _) _).alloc (by simp) _).trans (HB1.out.mono (by simp; omega))⟩
theorem no_bytes (h : DevL w b L σ) (hok : σ.Ok) (ho : σ.off = false) (x : Int) (a : Option Addr) (cap : Nat) : Calls Try.prog 10 #[.pointer (some ⟨b, 0, none⟩), .int .i64 x, .slice a 0 cap] w fun e w' => e = .returned (.int .i64 0) ∧ Below w.heap.size w w' := by
  have KT := hide (fun sl W hB => no_turn h hok ho x 0 (by omega) sl W hB)
  clear h hok ho
  go_enter Try.func10, Try.ntmps10
  go_wp2_with (go_at_call 33; refine (KT.out _ _ ?hb).mono ?_; (case hb => exact ((Below.refl _ w).alloc (Nat.le_refl _) _).alloc (by simp) _); rintro e W1 ⟨rfl, hb1⟩; have HB1 := hide hb1; clear hb1)
  go_ret
  exact ⟨rfl, (((Below.refl _ w).alloc (Nat.le_refl _) _).alloc (by simp) _).trans (HB1.out.mono (by simp; omega))⟩
end
end Go.Proofs.Ytcpmofdhljdkdaa
namespace Go.Proofs.Ytcpmofdhljdkdaa
open Go.RowKit
set_option linter.unusedVariables false

theorem widthU32 (w : World) : Calls Try.prog 71 #[] w fun e w' => e = .returned (.int .i64 4) ∧ w' = w := by
  go_enter Try.func71, Try.ntmps71
  go_wp2
  refine wp_loop_rounds 5 ?_
  iterate 5 (rw [rounds_succ]; go_wp2)
  go_ret
  exact ⟨rfl, rfl⟩

set_option maxHeartbeats 400000 in
theorem putU32 (a : Option Addr) (cap v : Nat) (bs : List Nat) (w : World) (hg : Sl w a bs) (hl : bs.length ≤ 140737488355328) (hv : v < 4294967296) :
    Calls Try.prog 58 #[.slice a bs.length cap, .int .u32 v] w fun e w' => e = .returned (.slice (some ⟨w.heap.size, 0, none⟩) (bs.length + 4) (bs.length + 4)) ∧
      Below w.heap.size w w' ∧ OwnB w' w.heap.size (bs ++ leB 4 v) := by
  have hmk := run_make_row' (P := Try.prog) 52 5 (.int .u8 0) 1 Try.underlying52 Try.info5 rfl .i64 .i64 (bs.length + 4) (by omega) (by omega)
  have ec : ((bs.length + 4 : Nat) : Int) = (bs.length : Int) + 4 := by omega
  rw [ec] at hmk
  clear ec
  have hO := OwnB.made w (bs.length + 4)
  have hB : Below w.heap.size w (w.alloc (.cells (madeCells #[.int .u8 0] (bs.length + 4)) 5)) := (Below.refl _ _).alloc (Nat.le_refl _) _
  obtain ⟨w2, hcp, hO2, hB2⟩ := copy_run cap (bs.length + 4) w.heap.size (hg.below hB) hO (by omega)
  have HO2 : Hid (OwnB w2 w.heap.size (lay bs (leB 4 v) 0)) := by
    rw [lay_zero, leB_length]; rw [Nat.add_sub_cancel_left] at hO2; exact hO2
  have HB2 : Hid (Below w.heap.size w w2) := hB.trans hB2
  clear hO hB hO2 hB2 hg
  go_enter Try.func58, Try.ntmps58
  go_wp2_with (go_at_call 71; refine (widthU32 _).mono ?_; rintro e w' ⟨rfl, rfl⟩)
  go_loopw [6, 7] (fun r i wr => ∃ k R : Nat, k ≤ 4 ∧ i = .int .i64 ((bs.length + k : Nat) : Int) ∧ r = .int .u64 R ∧ R = v / 256 ^ k ∧ OwnB wr w'.heap.size (lay bs (leB 4 v) k) ∧ Below w'.heap.size w' wr)
    (fun _ i _ => bs.length + 4 - (intOf i).toNat)
  case atStart => exact ⟨0, v, by omega, rfl, rfl, by simp, HO2.out, HB2.out⟩
  case round =>
    obtain ⟨k, R, hk, rfl, rfl, hR, hOw, hBw⟩ := hrel
    have HR := hide hR
    have HOw := hide hOw
    have HBw := hide hBw
    by_cases hlt : k < 4
    · have hc := hOw.cell _ 0 (lay_get bs (leB 4 v) k (by rw [leB_length]; exact hlt))
      have hf := hOw.frozen (bs.length + k)
      have hlt2 : ((bs.length + k : Nat) : Int) < (bs.length : Int) + 4 := by omega
      have HQ : Hid (bs.length + k + 1 = bs.length + (k + 1)) := Nat.add_assoc _ _ _
      clear hR hOw hBw hmk hcp HO2 HB2
      generalize hq : bs.length + k = q at *
      have Hq := hide hq
      clear hq
      go_wp2
      go_roundw
      case rel =>
        have hx : (R : Int) % 256 = ((R % 256 : Nat) : Int) := by omega
        refine ⟨k + 1, R / 256, by omega, int_congr' (by have := HQ.out; omega), int_congr' (by omega), ?_, ?_, ?_⟩
        · rw [HR.out, Nat.div_div_eq_div_mul, Nat.pow_succ]
        · rw [hx]
          have h1 := HOw.out.set q (R % 256)
          have h2 := lay_set bs (leB 4 v) k (R % 256) (by rw [HR.out]; exact leB_get 4 v k hlt)
          rw [Hq.out] at h2
          rw [h2] at h1
          exact h1
        · exact HBw.out.setCell (Nat.le_refl _) _
      case measure => have := Hq.out; simp [intOf]; omega
    · have hk2 : k = 4 := by omega
      subst hk2
      have hlt2 : (bs.length : Int) + 4 ≤ ((bs.length + 4 : Nat) : Int) := by omega
      clear hR hOw hBw hmk hcp HO2 HB2
      go_wp2
      go_ret
      refine ⟨rfl, HBw.out, ?_⟩
      have h1 := HOw.out
      have h2 := lay_all bs (leB 4 v)
      rw [leB_length] at h2
      rw [h2] at h1
      exact h1

end Go.Proofs.Ytcpmofdhljdkdaa
namespace Go.Proofs.Ytcpmofdhljdkdaa
open Go.RowKit Go.Shelf
set_option linter.unusedVariables false

theorem qfbytes8 (x : Int) (v : Nat) (w : World) (hv : v < 256) : Calls Try.prog 30 #[.agg #[.int .i64 x], .int .u8 (v : Int)] w fun e w' => ∃ g, e = .returned (.slice (some ⟨g, 0, none⟩) 1 1) ∧ w.heap.size ≤ g ∧ OwnB w' g (leB 1 v) ∧ Below w.heap.size w w' := by
  have kp : ∀ W, Calls Try.prog 56 #[.slice none 0 0, .int .u8 (v : Int)] W fun e w' => e = .returned (.slice (some ⟨W.heap.size, 0, none⟩) 1 1) ∧ Below W.heap.size W w' ∧ OwnB w' W.heap.size (leB 1 v) := fun W => put8 none 0 v [] W (.inl rfl) (by simp) hv
  have KP := hide kp
  have hA : Below w.heap.size w (w.alloc (.cells #[.int .i64 x] 29)) := (Below.refl _ w).alloc (Nat.le_refl _) _
  have HA := hide hA
  clear kp hA
  go_enter Try.func30, Try.ntmps30
  go_wp2_with (go_at_call 56; refine (KP.out _).mono ?_; rintro e W1 ⟨rfl, hb1, ho1⟩; have HB1 := hide hb1; have HO1 := hide ho1; clear hb1 ho1)
  go_ret
  exact ⟨w.heap.size + 1, rfl, by omega, (by have h := HO1.out; rwa [World.size_alloc] at h), HA.out.trans (HB1.out.mono HA.out.size)⟩
set_option maxHeartbeats 400000 in
theorem qbfload8 {w : World} {p : Option Addr} {c : Int} (h : BadD w (.pointer p) c) (x : Int) : Calls Try.prog 7 #[.agg #[.int .i64 x], .pointer p] w fun e w' => e = .returned (.tuple #[.int .u8 0, .int .i64 c]) ∧ Below w.heap.size w w' := by
  have hA : Below w.heap.size w (w.alloc (.cells #[.int .i64 x] 29)) := (Below.refl _ w).alloc (Nat.le_refl _) _
  have mk : ∀ X, Below (w.alloc (.cells #[.int .i64 x] 29)).heap.size (w.alloc (.cells #[.int .i64 x] 29)) X → Below (w.alloc (.cells #[.int .i64 x] 29)).heap.size (w.alloc (.cells #[.int .i64 x] 29)) X ∧ X.cell? ⟨w.heap.size, 0, none⟩ = some (.int .i64 x) := fun X hX => ⟨hX, cell8 ((hX.block _ (by simp)).trans (heap_alloc_new w _)) 0⟩
  have HA := hide hA
  have MK := hide mk
  clear hA mk
  have HBAD := hide h
  have hc : (c != 0) = true := by simpa using h.1
  clear h
  go_enter Try.func7, Try.ntmps7
  go_wp2_with (fail)
  refine wp_region_held_drew (S := fun X => Below (w.alloc (.cells #[.int .i64 x] 29)).heap.size (w.alloc (.cells #[.int .i64 x] 29)) X ∧ X.cell? ⟨w.heap.size, 0, none⟩ = some (.int .i64 x)) (by kernel_rfl) (MK.out _ (Below.refl _ _).drew) (fun hS => ?_)
  refine wpAnyH_take (i := 0) (v := (.pointer p)) rfl (by kernel_rfl) (by kernel_rfl) (by kernel_rfl) (fun _ _ _ h => h) (Or.inl ⟨by kernel_rfl, fun w' hw => by (go_simp)⟩) hS ?_
  refine wpAnyH_take (i := 1) (v := (.pointer (some ⟨w.heap.size, 0, none⟩))) rfl (by kernel_rfl) (by kernel_rfl) (by kernel_rfl) (fun _ _ _ h => h) (Or.inl ⟨by kernel_rfl, fun w' hw => by (go_simp)⟩) hS ?_
  refine wpAnyH_take (i := 2) (v := (.int .i64 x)) rfl (by kernel_rfl) (by kernel_rfl) (by kernel_rfl) (fun _ _ _ h => h) (Or.inl ⟨by kernel_rfl, fun w' hw => by (obtain ⟨_, z0⟩ := hw; go_simp)⟩) hS ?_
  refine wpAnyH_take (i := 3) (v := (.agg #[.int .i64 x])) rfl (by kernel_rfl) (by kernel_rfl) (by kernel_rfl) (fun _ _ _ h => h) (Or.inl ⟨by kernel_rfl, fun w' hw => by (obtain ⟨_, z0⟩ := hw; go_simp)⟩) hS ?_
  refine wpAnyH_ready (rs := [4]) (by kernel_rfl) (by simp) ?_
  refine AllReadyH.cons rfl (fun K hK => ?_) AllReadyH.nil
  rw [if_pos (by kernel_rfl)]
  go_simp
  go_wp2_with (go_at_call 30; refine (qfbytes8 x 0 _ (by omega)).mono ?_; rintro e W3 ⟨g, rfl, _, _, hb3⟩)
  have hw3 := bseq (Below.refl _ (w.alloc (.cells #[.int .i64 x] 29))).drew hb3
  refine hK.out _ _ (MK.out _ hw3) (fun hS2 => ?_)
  clear hK K hb3
  refine wpAnyH_take (i := 5) (v := (.int .i64 1)) rfl (by kernel_rfl) (by kernel_rfl) (by kernel_rfl) (fun _ _ _ h => h) (Or.inl ⟨by kernel_rfl, fun w' hw => by (go_simp)⟩) hS2 ?_
  refine wpAnyH_ready (rs := [6]) (by kernel_rfl) (by simp) ?_
  refine AllReadyH.cons rfl (fun K hK => ?_) AllReadyH.nil
  rw [if_pos (by kernel_rfl)]
  go_simp
  go_wp2_with (go_at_call 22; refine (bad_load (HBAD.out.below (HA.out.trans (hw3.mono HA.out.size))) x 1).mono ?_; rintro e W4 ⟨rfl, hb4⟩)
  have hw4 := bseq hw3 hb4
  refine hK.out _ _ (MK.out _ hw4) (fun hS3 => ?_)
  clear hK K hb4
  refine wpAnyH_take (i := 7) (v := (.tuple #[(.slice none 0 0), .int .i64 c])) rfl (by kernel_rfl) (by kernel_rfl) (by kernel_rfl) (fun _ _ _ h => h) (Or.inl ⟨by kernel_rfl, fun w' hw => by (go_simp)⟩) hS3 ?_
  refine wpAnyH_take (i := 8) (v := (.slice none 0 0)) rfl (by kernel_rfl) (by kernel_rfl) (by kernel_rfl) (fun _ _ _ h => h) (Or.inl ⟨by kernel_rfl, fun w' hw => by (go_simp)⟩) hS3 ?_
  refine wpAnyH_take (i := 9) (v := (.int .i64 c)) rfl (by kernel_rfl) (by kernel_rfl) (by kernel_rfl) (fun _ _ _ h => h) (Or.inl ⟨by kernel_rfl, fun w' hw => by (go_simp)⟩) hS3 ?_
  refine wpAnyH_take (i := 10) (v := (.slice none 0 0)) rfl (by kernel_rfl) (by kernel_rfl) (by kernel_rfl) (fun _ _ _ h => h) (Or.inl ⟨by kernel_rfl, fun w' hw => by (go_simp)⟩) hS3 ?_
  refine wpAnyH_take (i := 11) (v := (.int .i64 c)) rfl (by kernel_rfl) (by kernel_rfl) (by kernel_rfl) (fun _ _ _ h => h) (Or.inl ⟨by kernel_rfl, fun w' hw => by (go_simp)⟩) hS3 ?_
  refine wpAnyH_done (by kernel_rfl) ?_ _
  simp only [Act.put, List.getElem_toArray, List.getElem_cons_zero, List.getElem_cons_succ, List.setIfInBounds_toArray, List.set_cons_zero, List.set_cons_succ]
  have HW4 := hide (HA.out.trans (hw4.mono HA.out.size))
  clear hw3 hw4 hS hS2 hS3
  go_wp2_with (fail)
  go_ret2
  exact ⟨rfl, HW4.out⟩
set_option maxHeartbeats 400000 in
theorem qbfstore8 {w : World} {p : Option Addr} {c : Int} (h : BadD w (.pointer p) c) (x : Int) : Calls Try.prog 16 #[.agg #[.int .i64 x], .pointer p, .int .u8 1] w fun e w' => e = .returned (.int .i64 c) ∧ Below w.heap.size w w' := by
  have hA : Below w.heap.size w (w.alloc (.cells #[.int .i64 x] 29)) := (Below.refl _ w).alloc (Nat.le_refl _) _
  have mk : ∀ X, Below (w.alloc (.cells #[.int .i64 x] 29)).heap.size (w.alloc (.cells #[.int .i64 x] 29)) X → Below (w.alloc (.cells #[.int .i64 x] 29)).heap.size (w.alloc (.cells #[.int .i64 x] 29)) X ∧ X.cell? ⟨w.heap.size, 0, none⟩ = some (.int .i64 x) := fun X hX => ⟨hX, cell8 ((hX.block _ (by simp)).trans (heap_alloc_new w _)) 0⟩
  have HA := hide hA
  have MK := hide mk
  clear hA mk
  have HBAD := hide h
  have hc : (c != 0) = true := by simpa using h.1
  clear h
  go_enter Try.func16, Try.ntmps16
  go_wp2_with (fail)
  refine wp_region_held_drew (S := fun X => Below (w.alloc (.cells #[.int .i64 x] 29)).heap.size (w.alloc (.cells #[.int .i64 x] 29)) X ∧ X.cell? ⟨w.heap.size, 0, none⟩ = some (.int .i64 x)) (by kernel_rfl) (MK.out _ (Below.refl _ _).drew) (fun hS => ?_)
  refine wpAnyH_take (i := 0) (v := (.pointer p)) rfl (by kernel_rfl) (by kernel_rfl) (by kernel_rfl) (fun _ _ _ h => h) (Or.inl ⟨by kernel_rfl, fun w' hw => by (go_simp)⟩) hS ?_
  refine wpAnyH_take (i := 1) (v := (.pointer (some ⟨w.heap.size, 0, none⟩))) rfl (by kernel_rfl) (by kernel_rfl) (by kernel_rfl) (fun _ _ _ h => h) (Or.inl ⟨by kernel_rfl, fun w' hw => by (go_simp)⟩) hS ?_
  refine wpAnyH_take (i := 2) (v := (.int .i64 x)) rfl (by kernel_rfl) (by kernel_rfl) (by kernel_rfl) (fun _ _ _ h => h) (Or.inl ⟨by kernel_rfl, fun w' hw => by (obtain ⟨_, z0⟩ := hw; go_simp)⟩) hS ?_
  refine wpAnyH_take (i := 3) (v := (.agg #[.int .i64 x])) rfl (by kernel_rfl) (by kernel_rfl) (by kernel_rfl) (fun _ _ _ h => h) (Or.inl ⟨by kernel_rfl, fun w' hw => by (obtain ⟨_, z0⟩ := hw; go_simp)⟩) hS ?_
  refine wpAnyH_take (i := 4) (v := (.int .u8 1)) rfl (by kernel_rfl) (by kernel_rfl) (by kernel_rfl) (fun _ _ _ h => h) (Or.inl ⟨by kernel_rfl, fun w' hw => by (go_simp)⟩) hS ?_
  refine wpAnyH_ready (rs := [5]) (by kernel_rfl) (by simp) ?_
  refine AllReadyH.cons rfl (fun K hK => ?_) AllReadyH.nil
  rw [if_pos (by kernel_rfl)]
  go_simp
  go_wp2_with (go_at_call 30; refine (qfbytes8 x 1 _ (by omega)).mono ?_; rintro e W3 ⟨g, rfl, _, _, hb3⟩)
  have hw3 := bseq (Below.refl _ (w.alloc (.cells #[.int .i64 x] 29))).drew hb3
  refine hK.out _ _ (MK.out _ hw3) (fun hS2 => ?_)
  clear hK K hb3
  refine wpAnyH_ready (rs := [6]) (by kernel_rfl) (by simp) ?_
  refine AllReadyH.cons rfl (fun K hK => ?_) AllReadyH.nil
  rw [if_pos (by kernel_rfl)]
  go_simp
  go_wp2_with (go_at_call 10; refine (bad_bytes (HBAD.out.below (HA.out.trans (hw3.mono HA.out.size))) x (some ⟨g, 0, none⟩) 1 1).mono ?_; rintro e W4 ⟨rfl, hb4⟩)
  have hw4 := bseq hw3 hb4
  refine hK.out _ _ (MK.out _ hw4) (fun hS3 => ?_)
  clear hK K hb4
  refine wpAnyH_take (i := 7) (v := (.int .i64 c)) rfl (by kernel_rfl) (by kernel_rfl) (by kernel_rfl) (fun _ _ _ h => h) (Or.inl ⟨by kernel_rfl, fun w' hw => by (go_simp)⟩) hS3 ?_
  refine wpAnyH_done (by kernel_rfl) ?_ _
  simp only [Act.put, List.getElem_toArray, List.getElem_cons_zero, List.getElem_cons_succ, List.setIfInBounds_toArray, List.set_cons_zero, List.set_cons_succ]
  have HW4 := hide (HA.out.trans (hw4.mono HA.out.size))
  clear hw3 hw4 hS hS2 hS3
  go_wp2_with (fail)
  go_ret
  exact ⟨rfl, HW4.out⟩
theorem qfbytes16 (x : Int) (v : Nat) (w : World) (hv : v < 65536) : Calls Try.prog 67 #[.agg #[.int .i64 x], .int .u16 (v : Int)] w fun e w' => ∃ g, e = .returned (.slice (some ⟨g, 0, none⟩) 2 2) ∧ w.heap.size ≤ g ∧ OwnB w' g (leB 2 v) ∧ Below w.heap.size w w' := by
  have kp : ∀ W, Calls Try.prog 76 #[.slice none 0 0, .int .u16 (v : Int)] W fun e w' => e = .returned (.slice (some ⟨W.heap.size, 0, none⟩) 2 2) ∧ Below W.heap.size W w' ∧ OwnB w' W.heap.size (leB 2 v) := fun W => put16 none 0 v [] W (.inl rfl) (by simp) hv
  have KP := hide kp
  have hA : Below w.heap.size w (w.alloc (.cells #[.int .i64 x] 93)) := (Below.refl _ w).alloc (Nat.le_refl _) _
  have HA := hide hA
  clear kp hA
  go_enter Try.func67, Try.ntmps67
  go_wp2_with (go_at_call 76; refine (KP.out _).mono ?_; rintro e W1 ⟨rfl, hb1, ho1⟩; have HB1 := hide hb1; have HO1 := hide ho1; clear hb1 ho1)
  go_ret
  exact ⟨w.heap.size + 1, rfl, by omega, (by have h := HO1.out; rwa [World.size_alloc] at h), HA.out.trans (HB1.out.mono HA.out.size)⟩
set_option maxHeartbeats 400000 in
theorem qbfload16 {w : World} {p : Option Addr} {c : Int} (h : BadD w (.pointer p) c) (x : Int) : Calls Try.prog 45 #[.agg #[.int .i64 x], .pointer p] w fun e w' => e = .returned (.tuple #[.int .u16 0, .int .i64 c]) ∧ Below w.heap.size w w' := by
  have hA : Below w.heap.size w (w.alloc (.cells #[.int .i64 x] 93)) := (Below.refl _ w).alloc (Nat.le_refl _) _
  have mk : ∀ X, Below (w.alloc (.cells #[.int .i64 x] 93)).heap.size (w.alloc (.cells #[.int .i64 x] 93)) X → Below (w.alloc (.cells #[.int .i64 x] 93)).heap.size (w.alloc (.cells #[.int .i64 x] 93)) X ∧ X.cell? ⟨w.heap.size, 0, none⟩ = some (.int .i64 x) := fun X hX => ⟨hX, cell8 ((hX.block _ (by simp)).trans (heap_alloc_new w _)) 0⟩
  have HA := hide hA
  have MK := hide mk
  clear hA mk
  have HBAD := hide h
  have hc : (c != 0) = true := by simpa using h.1
  clear h
  go_enter Try.func45, Try.ntmps45
  go_wp2_with (fail)
  refine wp_region_held_drew (S := fun X => Below (w.alloc (.cells #[.int .i64 x] 93)).heap.size (w.alloc (.cells #[.int .i64 x] 93)) X ∧ X.cell? ⟨w.heap.size, 0, none⟩ = some (.int .i64 x)) (by kernel_rfl) (MK.out _ (Below.refl _ _).drew) (fun hS => ?_)
  refine wpAnyH_take (i := 0) (v := (.pointer p)) rfl (by kernel_rfl) (by kernel_rfl) (by kernel_rfl) (fun _ _ _ h => h) (Or.inl ⟨by kernel_rfl, fun w' hw => by (go_simp)⟩) hS ?_
  refine wpAnyH_take (i := 1) (v := (.pointer (some ⟨w.heap.size, 0, none⟩))) rfl (by kernel_rfl) (by kernel_rfl) (by kernel_rfl) (fun _ _ _ h => h) (Or.inl ⟨by kernel_rfl, fun w' hw => by (go_simp)⟩) hS ?_
  refine wpAnyH_take (i := 2) (v := (.int .i64 x)) rfl (by kernel_rfl) (by kernel_rfl) (by kernel_rfl) (fun _ _ _ h => h) (Or.inl ⟨by kernel_rfl, fun w' hw => by (obtain ⟨_, z0⟩ := hw; go_simp)⟩) hS ?_
  refine wpAnyH_take (i := 3) (v := (.agg #[.int .i64 x])) rfl (by kernel_rfl) (by kernel_rfl) (by kernel_rfl) (fun _ _ _ h => h) (Or.inl ⟨by kernel_rfl, fun w' hw => by (obtain ⟨_, z0⟩ := hw; go_simp)⟩) hS ?_
  refine wpAnyH_ready (rs := [4]) (by kernel_rfl) (by simp) ?_
  refine AllReadyH.cons rfl (fun K hK => ?_) AllReadyH.nil
  rw [if_pos (by kernel_rfl)]
  go_simp
  go_wp2_with (go_at_call 67; refine (qfbytes16 x 0 _ (by omega)).mono ?_; rintro e W3 ⟨g, rfl, _, _, hb3⟩)
  have hw3 := bseq (Below.refl _ (w.alloc (.cells #[.int .i64 x] 93))).drew hb3
  refine hK.out _ _ (MK.out _ hw3) (fun hS2 => ?_)
  clear hK K hb3
  refine wpAnyH_take (i := 5) (v := (.int .i64 2)) rfl (by kernel_rfl) (by kernel_rfl) (by kernel_rfl) (fun _ _ _ h => h) (Or.inl ⟨by kernel_rfl, fun w' hw => by (go_simp)⟩) hS2 ?_
  refine wpAnyH_ready (rs := [6]) (by kernel_rfl) (by simp) ?_
  refine AllReadyH.cons rfl (fun K hK => ?_) AllReadyH.nil
  rw [if_pos (by kernel_rfl)]
  go_simp
  go_wp2_with (go_at_call 22; refine (bad_load (HBAD.out.below (HA.out.trans (hw3.mono HA.out.size))) x 2).mono ?_; rintro e W4 ⟨rfl, hb4⟩)
  have hw4 := bseq hw3 hb4
  refine hK.out _ _ (MK.out _ hw4) (fun hS3 => ?_)
  clear hK K hb4
  refine wpAnyH_take (i := 7) (v := (.tuple #[(.slice none 0 0), .int .i64 c])) rfl (by kernel_rfl) (by kernel_rfl) (by kernel_rfl) (fun _ _ _ h => h) (Or.inl ⟨by kernel_rfl, fun w' hw => by (go_simp)⟩) hS3 ?_
  refine wpAnyH_take (i := 8) (v := (.slice none 0 0)) rfl (by kernel_rfl) (by kernel_rfl) (by kernel_rfl) (fun _ _ _ h => h) (Or.inl ⟨by kernel_rfl, fun w' hw => by (go_simp)⟩) hS3 ?_
  refine wpAnyH_take (i := 9) (v := (.int .i64 c)) rfl (by kernel_rfl) (by kernel_rfl) (by kernel_rfl) (fun _ _ _ h => h) (Or.inl ⟨by kernel_rfl, fun w' hw => by (go_simp)⟩) hS3 ?_
  refine wpAnyH_take (i := 10) (v := (.slice none 0 0)) rfl (by kernel_rfl) (by kernel_rfl) (by kernel_rfl) (fun _ _ _ h => h) (Or.inl ⟨by kernel_rfl, fun w' hw => by (go_simp)⟩) hS3 ?_
  refine wpAnyH_take (i := 11) (v := (.int .i64 c)) rfl (by kernel_rfl) (by kernel_rfl) (by kernel_rfl) (fun _ _ _ h => h) (Or.inl ⟨by kernel_rfl, fun w' hw => by (go_simp)⟩) hS3 ?_
  refine wpAnyH_done (by kernel_rfl) ?_ _
  simp only [Act.put, List.getElem_toArray, List.getElem_cons_zero, List.getElem_cons_succ, List.setIfInBounds_toArray, List.set_cons_zero, List.set_cons_succ]
  have HW4 := hide (HA.out.trans (hw4.mono HA.out.size))
  clear hw3 hw4 hS hS2 hS3
  go_wp2_with (fail)
  go_ret2
  exact ⟨rfl, HW4.out⟩
set_option maxHeartbeats 400000 in
theorem qfload16 {w : World} {p : Option Addr} (x : Int) (bs : List Nat) (hl : bs.length = 2) (hbs : ∀ y ∈ bs, y < 256) (kl : ∀ W, Below w.heap.size w W → Calls Try.prog 22 #[.pointer p, .int .i64 x, .int .i64 2] W fun e w' => ∃ R, e = .returned (.tuple #[.slice (some ⟨R, 0, none⟩) 2 2, .int .i64 0]) ∧ OwnB w' R bs ∧ Below W.heap.size W w') : Calls Try.prog 45 #[.agg #[.int .i64 x], .pointer p] w fun e w' => e = .returned (.tuple #[.int .u16 (leV bs : Nat), .int .i64 0]) ∧ Below w.heap.size w w' := by
  have hA : Below w.heap.size w (w.alloc (.cells #[.int .i64 x] 93)) := (Below.refl _ w).alloc (Nat.le_refl _) _
  have mk : ∀ X, Below (w.alloc (.cells #[.int .i64 x] 93)).heap.size (w.alloc (.cells #[.int .i64 x] 93)) X → Below (w.alloc (.cells #[.int .i64 x] 93)).heap.size (w.alloc (.cells #[.int .i64 x] 93)) X ∧ X.cell? ⟨w.heap.size, 0, none⟩ = some (.int .i64 x) := fun X hX => ⟨hX, cell8 ((hX.block _ (by simp)).trans (heap_alloc_new w _)) 0⟩
  have HA := hide hA
  have MK := hide mk
  clear hA mk
  have KL := hide kl
  have HLN := hide hl
  have HBS := hide hbs
  clear kl hl hbs
  go_enter Try.func45, Try.ntmps45
  go_wp2_with (fail)
  refine wp_region_held_drew (S := fun X => Below (w.alloc (.cells #[.int .i64 x] 93)).heap.size (w.alloc (.cells #[.int .i64 x] 93)) X ∧ X.cell? ⟨w.heap.size, 0, none⟩ = some (.int .i64 x)) (by kernel_rfl) (MK.out _ (Below.refl _ _).drew) (fun hS => ?_)
  refine wpAnyH_take (i := 0) (v := (.pointer p)) rfl (by kernel_rfl) (by kernel_rfl) (by kernel_rfl) (fun _ _ _ h => h) (Or.inl ⟨by kernel_rfl, fun w' hw => by (go_simp)⟩) hS ?_
  refine wpAnyH_take (i := 1) (v := (.pointer (some ⟨w.heap.size, 0, none⟩))) rfl (by kernel_rfl) (by kernel_rfl) (by kernel_rfl) (fun _ _ _ h => h) (Or.inl ⟨by kernel_rfl, fun w' hw => by (go_simp)⟩) hS ?_
  refine wpAnyH_take (i := 2) (v := (.int .i64 x)) rfl (by kernel_rfl) (by kernel_rfl) (by kernel_rfl) (fun _ _ _ h => h) (Or.inl ⟨by kernel_rfl, fun w' hw => by (obtain ⟨_, z0⟩ := hw; go_simp)⟩) hS ?_
  refine wpAnyH_take (i := 3) (v := (.agg #[.int .i64 x])) rfl (by kernel_rfl) (by kernel_rfl) (by kernel_rfl) (fun _ _ _ h => h) (Or.inl ⟨by kernel_rfl, fun w' hw => by (obtain ⟨_, z0⟩ := hw; go_simp)⟩) hS ?_
  refine wpAnyH_ready (rs := [4]) (by kernel_rfl) (by simp) ?_
  refine AllReadyH.cons rfl (fun K hK => ?_) AllReadyH.nil
  rw [if_pos (by kernel_rfl)]
  go_simp
  go_wp2_with (go_at_call 67; refine (qfbytes16 x 0 _ (by omega)).mono ?_; rintro e W3 ⟨g, rfl, _, _, hb3⟩)
  have hw3 := bseq (Below.refl _ (w.alloc (.cells #[.int .i64 x] 93))).drew hb3
  refine hK.out _ _ (MK.out _ hw3) (fun hS2 => ?_)
  clear hK K hb3
  refine wpAnyH_take (i := 5) (v := (.int .i64 2)) rfl (by kernel_rfl) (by kernel_rfl) (by kernel_rfl) (fun _ _ _ h => h) (Or.inl ⟨by kernel_rfl, fun w' hw => by (go_simp)⟩) hS2 ?_
  refine wpAnyH_ready (rs := [6]) (by kernel_rfl) (by simp) ?_
  refine AllReadyH.cons rfl (fun K hK => ?_) AllReadyH.nil
  rw [if_pos (by kernel_rfl)]
  go_simp
  go_wp2_with (go_at_call 22; refine (KL.out W3 (HA.out.trans (hw3.mono HA.out.size))).mono ?_; rintro e W4 ⟨R, rfl, hR, hb4⟩)
  have hw4 := bseq hw3 hb4
  refine hK.out _ _ (MK.out _ hw4) (fun hS3 => ?_)
  clear hK K hb4
  refine wpAnyH_take (i := 7) (v := (.tuple #[(.slice (some ⟨R, 0, none⟩) 2 2), .int .i64 0])) rfl (by kernel_rfl) (by kernel_rfl) (by kernel_rfl) (fun _ _ _ h => h) (Or.inl ⟨by kernel_rfl, fun w' hw => by (go_simp)⟩) hS3 ?_
  refine wpAnyH_take (i := 8) (v := (.slice (some ⟨R, 0, none⟩) 2 2)) rfl (by kernel_rfl) (by kernel_rfl) (by kernel_rfl) (fun _ _ _ h => h) (Or.inl ⟨by kernel_rfl, fun w' hw => by (go_simp)⟩) hS3 ?_
  refine wpAnyH_take (i := 9) (v := (.int .i64 0)) rfl (by kernel_rfl) (by kernel_rfl) (by kernel_rfl) (fun _ _ _ h => h) (Or.inl ⟨by kernel_rfl, fun w' hw => by (go_simp)⟩) hS3 ?_
  refine wpAnyH_take (i := 10) (v := (.slice (some ⟨R, 0, none⟩) 2 2)) rfl (by kernel_rfl) (by kernel_rfl) (by kernel_rfl) (fun _ _ _ h => h) (Or.inl ⟨by kernel_rfl, fun w' hw => by (go_simp)⟩) hS3 ?_
  refine wpAnyH_take (i := 11) (v := (.int .i64 0)) rfl (by kernel_rfl) (by kernel_rfl) (by kernel_rfl) (fun _ _ _ h => h) (Or.inl ⟨by kernel_rfl, fun w' hw => by (go_simp)⟩) hS3 ?_
  refine wpAnyH_done (by kernel_rfl) ?_ _
  simp only [Act.put, List.getElem_toArray, List.getElem_cons_zero, List.getElem_cons_succ, List.setIfInBounds_toArray, List.set_cons_zero, List.set_cons_succ]
  have HW4 := hide (HA.out.trans (hw4.mono HA.out.size))
  clear hw3 hw4 hS hS2 hS3
  have kt := take16_good (some ⟨R, 0, none⟩) 2 0 bs W4 (hR.sl HBS.out) (by rw [HLN.out]; unfold maxLen; omega) (by rw [HLN.out]; omega)
  rw [HLN.out, List.drop_zero, List.take_of_length_le (by rw [HLN.out]; omega)] at kt
  have KT := hide kt
  clear kt hR
  go_wp2_with (go_at_call 68; refine (KT.out).mono ?_; rintro e w1 ⟨rfl, hw⟩; obtain rfl := hw.symm)
  go_ret2
  exact ⟨rfl, HW4.out⟩
theorem qfbytes32 (x : Int) (v : Nat) (w : World) (hv : v < 4294967296) : Calls Try.prog 32 #[.agg #[.int .i64 x], .int .u32 (v : Int)] w fun e w' => ∃ g, e = .returned (.slice (some ⟨g, 0, none⟩) 4 4) ∧ w.heap.size ≤ g ∧ OwnB w' g (leB 4 v) ∧ Below w.heap.size w w' := by
  have kp : ∀ W, Calls Try.prog 58 #[.slice none 0 0, .int .u32 (v : Int)] W fun e w' => e = .returned (.slice (some ⟨W.heap.size, 0, none⟩) 4 4) ∧ Below W.heap.size W w' ∧ OwnB w' W.heap.size (leB 4 v) := fun W => putU32 none 0 v [] W (.inl rfl) (by simp) hv
  have KP := hide kp
  have hA : Below w.heap.size w (w.alloc (.cells #[.int .i64 x] 31)) := (Below.refl _ w).alloc (Nat.le_refl _) _
  have HA := hide hA
  clear kp hA
  go_enter Try.func32, Try.ntmps32
  go_wp2_with (go_at_call 58; refine (KP.out _).mono ?_; rintro e W1 ⟨rfl, hb1, ho1⟩; have HB1 := hide hb1; have HO1 := hide ho1; clear hb1 ho1)
  go_ret
  exact ⟨w.heap.size + 1, rfl, by omega, (by have h := HO1.out; rwa [World.size_alloc] at h), HA.out.trans (HB1.out.mono HA.out.size)⟩
set_option maxHeartbeats 400000 in
theorem qbfstore32 {w : World} {p : Option Addr} {c : Int} (h : BadD w (.pointer p) c) (x : Int) : Calls Try.prog 8 #[.agg #[.int .i64 x], .pointer p, .int .u32 1] w fun e w' => e = .returned (.int .i64 c) ∧ Below w.heap.size w w' := by
  have hA : Below w.heap.size w (w.alloc (.cells #[.int .i64 x] 31)) := (Below.refl _ w).alloc (Nat.le_refl _) _
  have mk : ∀ X, Below (w.alloc (.cells #[.int .i64 x] 31)).heap.size (w.alloc (.cells #[.int .i64 x] 31)) X → Below (w.alloc (.cells #[.int .i64 x] 31)).heap.size (w.alloc (.cells #[.int .i64 x] 31)) X ∧ X.cell? ⟨w.heap.size, 0, none⟩ = some (.int .i64 x) := fun X hX => ⟨hX, cell8 ((hX.block _ (by simp)).trans (heap_alloc_new w _)) 0⟩
  have HA := hide hA
  have MK := hide mk
  clear hA mk
  have HBAD := hide h
  have hc : (c != 0) = true := by simpa using h.1
  clear h
  go_enter Try.func8, Try.ntmps8
  go_wp2_with (fail)
  refine wp_region_held_drew (S := fun X => Below (w.alloc (.cells #[.int .i64 x] 31)).heap.size (w.alloc (.cells #[.int .i64 x] 31)) X ∧ X.cell? ⟨w.heap.size, 0, none⟩ = some (.int .i64 x)) (by kernel_rfl) (MK.out _ (Below.refl _ _).drew) (fun hS => ?_)
  refine wpAnyH_take (i := 0) (v := (.pointer p)) rfl (by kernel_rfl) (by kernel_rfl) (by kernel_rfl) (fun _ _ _ h => h) (Or.inl ⟨by kernel_rfl, fun w' hw => by (go_simp)⟩) hS ?_
  refine wpAnyH_take (i := 1) (v := (.pointer (some ⟨w.heap.size, 0, none⟩))) rfl (by kernel_rfl) (by kernel_rfl) (by kernel_rfl) (fun _ _ _ h => h) (Or.inl ⟨by kernel_rfl, fun w' hw => by (go_simp)⟩) hS ?_
  refine wpAnyH_take (i := 2) (v := (.int .i64 x)) rfl (by kernel_rfl) (by kernel_rfl) (by kernel_rfl) (fun _ _ _ h => h) (Or.inl ⟨by kernel_rfl, fun w' hw => by (obtain ⟨_, z0⟩ := hw; go_simp)⟩) hS ?_
  refine wpAnyH_take (i := 3) (v := (.agg #[.int .i64 x])) rfl (by kernel_rfl) (by kernel_rfl) (by kernel_rfl) (fun _ _ _ h => h) (Or.inl ⟨by kernel_rfl, fun w' hw => by (obtain ⟨_, z0⟩ := hw; go_simp)⟩) hS ?_
  refine wpAnyH_take (i := 4) (v := (.int .u32 1)) rfl (by kernel_rfl) (by kernel_rfl) (by kernel_rfl) (fun _ _ _ h => h) (Or.inl ⟨by kernel_rfl, fun w' hw => by (go_simp)⟩) hS ?_
  refine wpAnyH_ready (rs := [5]) (by kernel_rfl) (by simp) ?_
  refine AllReadyH.cons rfl (fun K hK => ?_) AllReadyH.nil
  rw [if_pos (by kernel_rfl)]
  go_simp
  go_wp2_with (go_at_call 32; refine (qfbytes32 x 1 _ (by omega)).mono ?_; rintro e W3 ⟨g, rfl, _, _, hb3⟩)
  have hw3 := bseq (Below.refl _ (w.alloc (.cells #[.int .i64 x] 31))).drew hb3
  refine hK.out _ _ (MK.out _ hw3) (fun hS2 => ?_)
  clear hK K hb3
  refine wpAnyH_ready (rs := [6]) (by kernel_rfl) (by simp) ?_
  refine AllReadyH.cons rfl (fun K hK => ?_) AllReadyH.nil
  rw [if_pos (by kernel_rfl)]
  go_simp
  go_wp2_with (go_at_call 10; refine (bad_bytes (HBAD.out.below (HA.out.trans (hw3.mono HA.out.size))) x (some ⟨g, 0, none⟩) 4 4).mono ?_; rintro e W4 ⟨rfl, hb4⟩)
  have hw4 := bseq hw3 hb4
  refine hK.out _ _ (MK.out _ hw4) (fun hS3 => ?_)
  clear hK K hb4
  refine wpAnyH_take (i := 7) (v := (.int .i64 c)) rfl (by kernel_rfl) (by kernel_rfl) (by kernel_rfl) (fun _ _ _ h => h) (Or.inl ⟨by kernel_rfl, fun w' hw => by (go_simp)⟩) hS3 ?_
  refine wpAnyH_done (by kernel_rfl) ?_ _
  simp only [Act.put, List.getElem_toArray, List.getElem_cons_zero, List.getElem_cons_succ, List.setIfInBounds_toArray, List.set_cons_zero, List.set_cons_succ]
  have HW4 := hide (HA.out.trans (hw4.mono HA.out.size))
  clear hw3 hw4 hS hS2 hS3
  go_wp2_with (fail)
  go_ret
  exact ⟨rfl, HW4.out⟩
theorem qfbytes64 (x : Int) (v : Nat) (w : World) (hv : v < 18446744073709551616) : Calls Try.prog 43 #[.agg #[.int .i64 x], .int .u64 (v : Int)] w fun e w' => ∃ g, e = .returned (.slice (some ⟨g, 0, none⟩) 8 8) ∧ w.heap.size ≤ g ∧ OwnB w' g (leB 8 v) ∧ Below w.heap.size w w' := by
  have kp : ∀ W, Calls Try.prog 65 #[.slice none 0 0, .int .u64 (v : Int)] W fun e w' => e = .returned (.slice (some ⟨W.heap.size, 0, none⟩) 8 8) ∧ Below W.heap.size W w' ∧ OwnB w' W.heap.size (leB 8 v) := fun W => put64 none 0 v [] W (.inl rfl) (by simp) hv
  have KP := hide kp
  have hA : Below w.heap.size w (w.alloc (.cells #[.int .i64 x] 47)) := (Below.refl _ w).alloc (Nat.le_refl _) _
  have HA := hide hA
  clear kp hA
  go_enter Try.func43, Try.ntmps43
  go_wp2_with (go_at_call 65; refine (KP.out _).mono ?_; rintro e W1 ⟨rfl, hb1, ho1⟩; have HB1 := hide hb1; have HO1 := hide ho1; clear hb1 ho1)
  go_ret
  exact ⟨w.heap.size + 1, rfl, by omega, (by have h := HO1.out; rwa [World.size_alloc] at h), HA.out.trans (HB1.out.mono HA.out.size)⟩
set_option maxHeartbeats 400000 in
theorem qbfload64 {w : World} {p : Option Addr} {c : Int} (h : BadD w (.pointer p) c) (x : Int) : Calls Try.prog 15 #[.agg #[.int .i64 x], .pointer p] w fun e w' => e = .returned (.tuple #[.int .u64 0, .int .i64 c]) ∧ Below w.heap.size w w' := by
  have hA : Below w.heap.size w (w.alloc (.cells #[.int .i64 x] 47)) := (Below.refl _ w).alloc (Nat.le_refl _) _
  have mk : ∀ X, Below (w.alloc (.cells #[.int .i64 x] 47)).heap.size (w.alloc (.cells #[.int .i64 x] 47)) X → Below (w.alloc (.cells #[.int .i64 x] 47)).heap.size (w.alloc (.cells #[.int .i64 x] 47)) X ∧ X.cell? ⟨w.heap.size, 0, none⟩ = some (.int .i64 x) := fun X hX => ⟨hX, cell8 ((hX.block _ (by simp)).trans (heap_alloc_new w _)) 0⟩
  have HA := hide hA
  have MK := hide mk
  clear hA mk
  have HBAD := hide h
  have hc : (c != 0) = true := by simpa using h.1
  clear h
  go_enter Try.func15, Try.ntmps15
  go_wp2_with (fail)
  refine wp_region_held_drew (S := fun X => Below (w.alloc (.cells #[.int .i64 x] 47)).heap.size (w.alloc (.cells #[.int .i64 x] 47)) X ∧ X.cell? ⟨w.heap.size, 0, none⟩ = some (.int .i64 x)) (by kernel_rfl) (MK.out _ (Below.refl _ _).drew) (fun hS => ?_)
  refine wpAnyH_take (i := 0) (v := (.pointer p)) rfl (by kernel_rfl) (by kernel_rfl) (by kernel_rfl) (fun _ _ _ h => h) (Or.inl ⟨by kernel_rfl, fun w' hw => by (go_simp)⟩) hS ?_
  refine wpAnyH_take (i := 1) (v := (.pointer (some ⟨w.heap.size, 0, none⟩))) rfl (by kernel_rfl) (by kernel_rfl) (by kernel_rfl) (fun _ _ _ h => h) (Or.inl ⟨by kernel_rfl, fun w' hw => by (go_simp)⟩) hS ?_
  refine wpAnyH_take (i := 2) (v := (.int .i64 x)) rfl (by kernel_rfl) (by kernel_rfl) (by kernel_rfl) (fun _ _ _ h => h) (Or.inl ⟨by kernel_rfl, fun w' hw => by (obtain ⟨_, z0⟩ := hw; go_simp)⟩) hS ?_
  refine wpAnyH_take (i := 3) (v := (.agg #[.int .i64 x])) rfl (by kernel_rfl) (by kernel_rfl) (by kernel_rfl) (fun _ _ _ h => h) (Or.inl ⟨by kernel_rfl, fun w' hw => by (obtain ⟨_, z0⟩ := hw; go_simp)⟩) hS ?_
  refine wpAnyH_ready (rs := [4]) (by kernel_rfl) (by simp) ?_
  refine AllReadyH.cons rfl (fun K hK => ?_) AllReadyH.nil
  rw [if_pos (by kernel_rfl)]
  go_simp
  go_wp2_with (go_at_call 43; refine (qfbytes64 x 0 _ (by omega)).mono ?_; rintro e W3 ⟨g, rfl, _, _, hb3⟩)
  have hw3 := bseq (Below.refl _ (w.alloc (.cells #[.int .i64 x] 47))).drew hb3
  refine hK.out _ _ (MK.out _ hw3) (fun hS2 => ?_)
  clear hK K hb3
  refine wpAnyH_take (i := 5) (v := (.int .i64 8)) rfl (by kernel_rfl) (by kernel_rfl) (by kernel_rfl) (fun _ _ _ h => h) (Or.inl ⟨by kernel_rfl, fun w' hw => by (go_simp)⟩) hS2 ?_
  refine wpAnyH_ready (rs := [6]) (by kernel_rfl) (by simp) ?_
  refine AllReadyH.cons rfl (fun K hK => ?_) AllReadyH.nil
  rw [if_pos (by kernel_rfl)]
  go_simp
  go_wp2_with (go_at_call 22; refine (bad_load (HBAD.out.below (HA.out.trans (hw3.mono HA.out.size))) x 8).mono ?_; rintro e W4 ⟨rfl, hb4⟩)
  have hw4 := bseq hw3 hb4
  refine hK.out _ _ (MK.out _ hw4) (fun hS3 => ?_)
  clear hK K hb4
  refine wpAnyH_take (i := 7) (v := (.tuple #[(.slice none 0 0), .int .i64 c])) rfl (by kernel_rfl) (by kernel_rfl) (by kernel_rfl) (fun _ _ _ h => h) (Or.inl ⟨by kernel_rfl, fun w' hw => by (go_simp)⟩) hS3 ?_
  refine wpAnyH_take (i := 8) (v := (.slice none 0 0)) rfl (by kernel_rfl) (by kernel_rfl) (by kernel_rfl) (fun _ _ _ h => h) (Or.inl ⟨by kernel_rfl, fun w' hw => by (go_simp)⟩) hS3 ?_
  refine wpAnyH_take (i := 9) (v := (.int .i64 c)) rfl (by kernel_rfl) (by kernel_rfl) (by kernel_rfl) (fun _ _ _ h => h) (Or.inl ⟨by kernel_rfl, fun w' hw => by (go_simp)⟩) hS3 ?_
  refine wpAnyH_take (i := 10) (v := (.slice none 0 0)) rfl (by kernel_rfl) (by kernel_rfl) (by kernel_rfl) (fun _ _ _ h => h) (Or.inl ⟨by kernel_rfl, fun w' hw => by (go_simp)⟩) hS3 ?_
  refine wpAnyH_take (i := 11) (v := (.int .i64 c)) rfl (by kernel_rfl) (by kernel_rfl) (by kernel_rfl) (fun _ _ _ h => h) (Or.inl ⟨by kernel_rfl, fun w' hw => by (go_simp)⟩) hS3 ?_
  refine wpAnyH_done (by kernel_rfl) ?_ _
  simp only [Act.put, List.getElem_toArray, List.getElem_cons_zero, List.getElem_cons_succ, List.setIfInBounds_toArray, List.set_cons_zero, List.set_cons_succ]
  have HW4 := hide (HA.out.trans (hw4.mono HA.out.size))
  clear hw3 hw4 hS hS2 hS3
  go_wp2_with (fail)
  go_ret2
  exact ⟨rfl, HW4.out⟩
set_option maxHeartbeats 400000 in
theorem qfload64 {w : World} {p : Option Addr} (x : Int) (bs : List Nat) (hl : bs.length = 8) (hbs : ∀ y ∈ bs, y < 256) (kl : ∀ W, Below w.heap.size w W → Calls Try.prog 22 #[.pointer p, .int .i64 x, .int .i64 8] W fun e w' => ∃ R, e = .returned (.tuple #[.slice (some ⟨R, 0, none⟩) 8 8, .int .i64 0]) ∧ OwnB w' R bs ∧ Below W.heap.size W w') : Calls Try.prog 15 #[.agg #[.int .i64 x], .pointer p] w fun e w' => e = .returned (.tuple #[.int .u64 (leV bs : Nat), .int .i64 0]) ∧ Below w.heap.size w w' := by
  have hA : Below w.heap.size w (w.alloc (.cells #[.int .i64 x] 47)) := (Below.refl _ w).alloc (Nat.le_refl _) _
  have mk : ∀ X, Below (w.alloc (.cells #[.int .i64 x] 47)).heap.size (w.alloc (.cells #[.int .i64 x] 47)) X → Below (w.alloc (.cells #[.int .i64 x] 47)).heap.size (w.alloc (.cells #[.int .i64 x] 47)) X ∧ X.cell? ⟨w.heap.size, 0, none⟩ = some (.int .i64 x) := fun X hX => ⟨hX, cell8 ((hX.block _ (by simp)).trans (heap_alloc_new w _)) 0⟩
  have HA := hide hA
  have MK := hide mk
  clear hA mk
  have KL := hide kl
  have HLN := hide hl
  have HBS := hide hbs
  clear kl hl hbs
  go_enter Try.func15, Try.ntmps15
  go_wp2_with (fail)
  refine wp_region_held_drew (S := fun X => Below (w.alloc (.cells #[.int .i64 x] 47)).heap.size (w.alloc (.cells #[.int .i64 x] 47)) X ∧ X.cell? ⟨w.heap.size, 0, none⟩ = some (.int .i64 x)) (by kernel_rfl) (MK.out _ (Below.refl _ _).drew) (fun hS => ?_)
  refine wpAnyH_take (i := 0) (v := (.pointer p)) rfl (by kernel_rfl) (by kernel_rfl) (by kernel_rfl) (fun _ _ _ h => h) (Or.inl ⟨by kernel_rfl, fun w' hw => by (go_simp)⟩) hS ?_
  refine wpAnyH_take (i := 1) (v := (.pointer (some ⟨w.heap.size, 0, none⟩))) rfl (by kernel_rfl) (by kernel_rfl) (by kernel_rfl) (fun _ _ _ h => h) (Or.inl ⟨by kernel_rfl, fun w' hw => by (go_simp)⟩) hS ?_
  refine wpAnyH_take (i := 2) (v := (.int .i64 x)) rfl (by kernel_rfl) (by kernel_rfl) (by kernel_rfl) (fun _ _ _ h => h) (Or.inl ⟨by kernel_rfl, fun w' hw => by (obtain ⟨_, z0⟩ := hw; go_simp)⟩) hS ?_
  refine wpAnyH_take (i := 3) (v := (.agg #[.int .i64 x])) rfl (by kernel_rfl) (by kernel_rfl) (by kernel_rfl) (fun _ _ _ h => h) (Or.inl ⟨by kernel_rfl, fun w' hw => by (obtain ⟨_, z0⟩ := hw; go_simp)⟩) hS ?_
  refine wpAnyH_ready (rs := [4]) (by kernel_rfl) (by simp) ?_
  refine AllReadyH.cons rfl (fun K hK => ?_) AllReadyH.nil
  rw [if_pos (by kernel_rfl)]
  go_simp
  go_wp2_with (go_at_call 43; refine (qfbytes64 x 0 _ (by omega)).mono ?_; rintro e W3 ⟨g, rfl, _, _, hb3⟩)
  have hw3 := bseq (Below.refl _ (w.alloc (.cells #[.int .i64 x] 47))).drew hb3
  refine hK.out _ _ (MK.out _ hw3) (fun hS2 => ?_)
  clear hK K hb3
  refine wpAnyH_take (i := 5) (v := (.int .i64 8)) rfl (by kernel_rfl) (by kernel_rfl) (by kernel_rfl) (fun _ _ _ h => h) (Or.inl ⟨by kernel_rfl, fun w' hw => by (go_simp)⟩) hS2 ?_
  refine wpAnyH_ready (rs := [6]) (by kernel_rfl) (by simp) ?_
  refine AllReadyH.cons rfl (fun K hK => ?_) AllReadyH.nil
  rw [if_pos (by kernel_rfl)]
  go_simp
  go_wp2_with (go_at_call 22; refine (KL.out W3 (HA.out.trans (hw3.mono HA.out.size))).mono ?_; rintro e W4 ⟨R, rfl, hR, hb4⟩)
  have hw4 := bseq hw3 hb4
  refine hK.out _ _ (MK.out _ hw4) (fun hS3 => ?_)
  clear hK K hb4
  refine wpAnyH_take (i := 7) (v := (.tuple #[(.slice (some ⟨R, 0, none⟩) 8 8), .int .i64 0])) rfl (by kernel_rfl) (by kernel_rfl) (by kernel_rfl) (fun _ _ _ h => h) (Or.inl ⟨by kernel_rfl, fun w' hw => by (go_simp)⟩) hS3 ?_
  refine wpAnyH_take (i := 8) (v := (.slice (some ⟨R, 0, none⟩) 8 8)) rfl (by kernel_rfl) (by kernel_rfl) (by kernel_rfl) (fun _ _ _ h => h) (Or.inl ⟨by kernel_rfl, fun w' hw => by (go_simp)⟩) hS3 ?_
  refine wpAnyH_take (i := 9) (v := (.int .i64 0)) rfl (by kernel_rfl) (by kernel_rfl) (by kernel_rfl) (fun _ _ _ h => h) (Or.inl ⟨by kernel_rfl, fun w' hw => by (go_simp)⟩) hS3 ?_
  refine wpAnyH_take (i := 10) (v := (.slice (some ⟨R, 0, none⟩) 8 8)) rfl (by kernel_rfl) (by kernel_rfl) (by kernel_rfl) (fun _ _ _ h => h) (Or.inl ⟨by kernel_rfl, fun w' hw => by (go_simp)⟩) hS3 ?_
  refine wpAnyH_take (i := 11) (v := (.int .i64 0)) rfl (by kernel_rfl) (by kernel_rfl) (by kernel_rfl) (fun _ _ _ h => h) (Or.inl ⟨by kernel_rfl, fun w' hw => by (go_simp)⟩) hS3 ?_
  refine wpAnyH_done (by kernel_rfl) ?_ _
  simp only [Act.put, List.getElem_toArray, List.getElem_cons_zero, List.getElem_cons_succ, List.setIfInBounds_toArray, List.set_cons_zero, List.set_cons_succ]
  have HW4 := hide (HA.out.trans (hw4.mono HA.out.size))
  clear hw3 hw4 hS hS2 hS3
  have kt := take64_good (some ⟨R, 0, none⟩) 8 0 bs W4 (hR.sl HBS.out) (by rw [HLN.out]; unfold maxLen; omega) (by rw [HLN.out]; omega)
  rw [HLN.out, List.drop_zero, List.take_of_length_le (by rw [HLN.out]; omega)] at kt
  have KT := hide kt
  clear kt hR
  go_wp2_with (go_at_call 44; refine (KT.out).mono ?_; rintro e w1 ⟨rfl, hw⟩; obtain rfl := hw.symm)
  go_ret2
  exact ⟨rfl, HW4.out⟩
end Go.Proofs.Ytcpmofdhljdkdaa
namespace Go.Proofs.Ytcpmofdhljdkdaa
open Go.RowKit Go.Shelf
set_option linter.unusedVariables false

section
variable {w : World} {b : Nat} {L : Lay} {σ : St}
theorem qwstore_any (v at_ : Nat) (h : DevL w b L σ) (hok : σ.Ok) (ho : σ.off = false) (hN : L.N ≤ σ.ops) (harm : σ.arms = []) (hops : σ.ops + 600000 ≤ 274877906944) (hat : at_ % 8 = 0) (hlen : at_ + 8 ≤ 64 * σ.n) (hv : v < 18446744073709551616) :
    Calls Try.prog 37 #[.agg #[.pointer (some ⟨b, 0, none⟩), .int .i64 (at_ : Int), .int .i64 8, .int .u64 (v : Int)]] w fun e w' => e = .returned (.int .i64 0) ∧ ∃ L', DevL w' b L' (writeDo (leB 8 v) at_ σ (wordsOf at_ 8)) ∧ (∀ k, Foot b L' (writeDo (leB 8 v) at_ σ (wordsOf at_ 8)) k → Foot b L σ k ∨ w.heap.size ≤ k) ∧ Gr (Foot b L σ) w w' ∧ L'.N ≤ L.N + (wordsOf at_ 8).length := by
  have hA : Below w.heap.size w (w.alloc (.cells #[.pointer (some ⟨b, 0, none⟩), .int .i64 (at_ : Int), .int .i64 8, .int .u64 (v : Int)] 86)) := (Below.refl _ w).alloc (Nat.le_refl _) _
  have ks := pst8_any (at_ := at_) v (h.below hA) hok ho hN harm hops hat hlen hv
  have KS := hide ks
  have HA := hide hA
  clear h hok ho hN harm hops hlen ks hA hat hv
  go_enter Try.func37, Try.ntmps37
  go_wp2_with (go_at_call 63; refine (KS.out).mono ?_; rintro e W1 ⟨rfl, L5, hd5, hf5, hg5, hN5, _⟩; have HR := hide (And.intro hd5 (And.intro hf5 (And.intro hg5 hN5))); clear hd5 hf5 hg5 hN5)
  go_ret
  obtain ⟨h1, h2, h3, h4⟩ := HR.out
  exact ⟨rfl, L5, h1, fun k hk => (h2 k hk).imp id (fun h => Nat.le_trans HA.out.size h), (Gr.of_below HA.out).trans h3 (fun i h => .inl h), h4⟩
/-- The three steps of Publish. -/
def wbF (j : Nat) : Nat := if j = 0 then 37 else if j = 1 then 34 else 35
def wbA (b at_ v : Nat) (j : Nat) : Array Value := if j = 0 then #[.agg #[.pointer (some ⟨b, 0, none⟩), .int .i64 (at_ : Int), .int .i64 8, .int .u64 (v : Int)]] else if j = 1 then #[.agg #[.pointer (some ⟨b, 0, none⟩), .int .i64 (at_ : Int), .int .i64 8]] else #[.pointer (some ⟨b, 0, none⟩)]
def wbS (v at_ : Nat) (σ : St) (j : Nat) : St := if j = 0 then σ else if j = 1 then writeDo (leB 8 v) at_ σ (wordsOf at_ 8) else if j = 2 then linesDo (writeDo (leB 8 v) at_ σ (wordsOf at_ 8)) (linesOf at_ 8) else bytesDo (leB 8 v) at_ σ
def wbM (at_ n j : Nat) : Nat := if j = 0 then 0 else if j = 1 then (wordsOf at_ n).length else (wordsOf at_ n).length + (linesOf at_ n).length
set_option maxRecDepth 100000 in
set_option maxHeartbeats 400000 in
theorem qpub_turn (v at_ rb : Nat) (W0 : World) (hB0 : Below w.heap.size w W0) (h : DevL w b L σ) (hok : σ.Ok) (ho : σ.off = false) (hN : L.N ≤ σ.ops) (harm : σ.arms = []) (hops : σ.ops + 2000000 ≤ 274877906944) (hv : v < 18446744073709551616) (hat : at_ % 8 = 0) (hlen : at_ + 8 ≤ 64 * σ.n)
    (hrb : w.heap.size ≤ rb) (hrow : W0.heap[rb]? = some (.cells #[.func (.func (wbF 0)) (wbA b at_ v 0) #[], .func (.func (wbF 1)) (wbA b at_ v 1) #[], .func (.func (wbF 2)) (wbA b at_ v 2) #[]] 116 (0, 0))) :
    Calls Try.prog 33 #[.agg #[.pointer (some ⟨b, 0, none⟩), .int .i64 (at_ : Int), .int .i64 8], .slice (some ⟨rb, 0, none⟩) 3 3] W0 fun e w' => e = .returned (.int .i64 0) ∧ Atd W0 b L σ w' (bytesDo (leB 8 v) at_ σ) ((wordsOf at_ 8).length + (linesOf at_ 8).length) := by
  have hm := hok.max
  have hlen2 : at_ + 8 ≤ 4194304 := by omega
  have hwl := wordsOf_len hlen2
  have hll := linesOf_len hlen2
  have hlk := write_like (at_ := at_) (leB_lt 8 v) (wordsOf at_ 8) σ hok (wordsOf_lt hlen hm) (by omega)
  obtain ⟨j1, j2, j3, j4, j5, _⟩ := lines_like (linesOf at_ 8) (writeDo (leB 8 v) at_ σ (wordsOf at_ 8)) hlk.ok (by rw [hlk.ops]; omega)
  rw [hlk.ops] at j3
  have hd0 := h.below hB0
  have hnf : ¬ Foot b L σ rb := fun hf => by have := h.foot_is hf; omega
  have hrl := lt_of_heap hrow
  refine (qturn_gen hd0 hok ho at_ 8 (by omega) hlen rb 3 wbF (wbA b at_ v) (fun j W => Atd W0 b L σ W (wbS v at_ σ j) (wbM at_ 8 j)) (fun c W => c = 0 ∧ Atd W0 b L σ W (bytesDo (leB 8 v) at_ σ) ((wordsOf at_ 8).length + (linesOf at_ 8).length)) (fun j hj => ?_) (by omega) (fun j W hP i hi => ?_) (fun j hj W hP => ?_) (fun W hB => Atd.start hd0 hB) (fun W hP => ⟨rfl, hP⟩)).mono ?_
  · obtain rfl | rfl | rfl := three hj
    · exact enters_of Try.func37 (by kernel_rfl) rfl
    · exact enters_of Try.func34 (by kernel_rfl) rfl
    · exact enters_of Try.func35 (by kernel_rfl) rfl
  · have hr := (hP.1.block hrl hnf).trans hrow
    obtain rfl | rfl | rfl := three hi
    · exact cell8 hr 0
    · exact cell8 hr 1
    · exact cell8 hr 2
  · obtain ⟨hg, L', hd, hf, hN'⟩ := hP
    obtain rfl | rfl | rfl := three hj
    · refine (qwstore_any v at_ hd hok ho (show L'.N ≤ σ.ops by have : L'.N ≤ L.N + 0 := hN'; omega) harm (by show σ.ops + _ ≤ _; omega) hat hlen hv).mono ?_
      rintro e W' ⟨rfl, L2, h1, h2, h3, h4⟩
      exact ⟨0, rfl, fun _ => by have h5 := Atd.go hg hf hN' h1 h2 h3 h4; exact ⟨h5.1, by obtain ⟨L5, q1, q2, q3⟩ := h5.2; exact ⟨L5, q1, q2, by show L5.N ≤ L.N + (wordsOf at_ 8).length; have : L5.N ≤ L.N + (0 + (wordsOf at_ 8).length) := q3; omega⟩⟩, fun h => absurd rfl h⟩
    · have hN2 : L'.N ≤ L.N + (wordsOf at_ 8).length := hN'
      have hd2 : DevL W b L' (writeDo (leB 8 v) at_ σ (wordsOf at_ 8)) := hd
      refine (callsIn_wide.1 (qflush_in (at_ := at_) (n := 8) hd2 hlk.ok (hlk.off.trans ho) (by rw [hlk.ops]; omega) (hlk.arms.trans harm) (by rw [hlk.n]; exact hlen) (by rw [hlk.ops]; omega))).mono ?_
      rintro e W' ⟨rfl, L2, h1, h2, h3, h4, _⟩
      exact ⟨0, rfl, fun _ => Atd.go hg hf hN' h1 (fun k hk => .inl (h2 k hk)) h3 h4, fun h => absurd rfl h⟩
    · have hd2 : DevL W b L' (linesDo (writeDo (leB 8 v) at_ σ (wordsOf at_ 8)) (linesOf at_ 8)) := hd
      refine (pfence_any hd2 j1 (j5.trans (hlk.off.trans ho)) (j4.trans (hlk.arms.trans harm)) (by rw [j3]; omega)).mono ?_
      rintro e W' ⟨rfl, L2, h1, h2, h3, h4⟩
      exact ⟨0, rfl, fun _ => Atd.go (m2 := 0) hg hf hN' h1 h2 h3 (by omega), fun h => absurd rfl h⟩
  · rintro e w' ⟨c, rfl, rfl, hA⟩
    exact ⟨rfl, hA⟩
set_option maxRecDepth 100000 in
set_option maxHeartbeats 400000 in
theorem qpub_any (v at_ : Nat) (h : DevL w b L σ) (hok : σ.Ok) (ho : σ.off = false) (hN : L.N ≤ σ.ops) (harm : σ.arms = []) (hops : σ.ops + 2000000 ≤ 274877906944) (hv : v < 18446744073709551616) (hat : at_ % 8 = 0) (hlen : at_ + 8 ≤ 64 * σ.n) :
    Calls Try.prog 11 #[.pointer (some ⟨b, 0, none⟩), .int .i64 (at_ : Int), .int .u64 (v : Int)] w fun e w' => e = .returned (.int .i64 0) ∧ Atd w b L σ w' (bytesDo (leB 8 v) at_ σ) ((wordsOf at_ 8).length + (linesOf at_ 8).length) := by
  obtain ⟨W0, hW0⟩ : ∃ W0, (w.alloc (.cells #[.pointer (some ⟨b, 0, none⟩), .int .i64 (at_ : Int), .int .i64 8] 81)).alloc (.cells #[.func (.func 37) #[.agg #[.pointer (some ⟨b, 0, none⟩), .int .i64 (at_ : Int), .int .i64 8, .int .u64 (v : Int)]] #[], .func (.func 34) #[.agg #[.pointer (some ⟨b, 0, none⟩), .int .i64 (at_ : Int), .int .i64 8]] #[], .func (.func 35) #[.pointer (some ⟨b, 0, none⟩)] #[]] 116) = W0 := ⟨_, rfl⟩
  have hB0 : Below w.heap.size w W0 := by rw [← hW0]; exact ((Below.refl _ w).alloc (Nat.le_refl _) _).alloc (by simp) _
  have hrow : W0.heap[w.heap.size + 1]? = some (.cells #[.func (.func (wbF 0)) (wbA b at_ v 0) #[], .func (.func (wbF 1)) (wbA b at_ v 1) #[], .func (.func (wbF 2)) (wbA b at_ v 2) #[]] 116 (0, 0)) := by
    rw [← hW0]
    have := heap_alloc_new (w.alloc (.cells #[.pointer (some ⟨b, 0, none⟩), .int .i64 (at_ : Int), .int .i64 8] 81)) (.cells #[.func (.func 37) #[.agg #[.pointer (some ⟨b, 0, none⟩), .int .i64 (at_ : Int), .int .i64 8, .int .u64 (v : Int)]] #[], .func (.func 34) #[.agg #[.pointer (some ⟨b, 0, none⟩), .int .i64 (at_ : Int), .int .i64 8]] #[], .func (.func 35) #[.pointer (some ⟨b, 0, none⟩)] #[]] 116)
    rw [World.size_alloc] at this
    exact this
  have kt := qpub_turn v at_ (w.heap.size + 1) W0 hB0 h hok ho hN harm hops hv hat hlen (by omega) hrow
  rw [← hW0] at kt
  have KT := hide kt
  have HB0 := hide hB0
  have HW0 := hide hW0
  clear h hok ho hN harm hops hlen kt hB0 hrow hW0 hat hv
  go_enter Try.func11, Try.ntmps11
  go_wp2_with (go_at_call 33; refine (KT.out).mono ?_; rintro e W1 ⟨rfl, hA⟩; have HAT := hide hA; clear hA)
  go_ret
  refine ⟨rfl, ?_⟩
  have h5 := HAT.out
  rw [HW0.out] at h5
  exact h5.base HB0.out
end
end Go.Proofs.Ytcpmofdhljdkdaa
namespace Go.Proofs.Ytcpmofdhljdkdaa
open Go.RowKit Go.Shelf
set_option linter.unusedVariables false

theorem qbword {w : World} {p : Option Addr} {c : Int} (h : BadD w (.pointer p) c) (x : Int) : Calls Try.prog 6 #[.pointer p, .int .i64 x] w fun e w' => e = .returned (.tuple #[.int .u64 0, .int .i64 c]) ∧ Below w.heap.size w w' := by
  have hc : (c == 0) = false := by simpa using h.1
  have KL := hide (qbfload64 h x)
  clear h
  go_enter Try.func6, Try.ntmps6
  go_wp2_with (go_at_call 15; refine (KL.out).mono ?_; rintro e W1 ⟨rfl, hb1⟩; have HB1 := hide hb1; clear hb1)
  go_ret2
  exact ⟨rfl, HB1.out⟩
theorem qword {w : World} {p : Option Addr} (x : Int) (hx : x % 8 = 0) (hx0 : 0 ≤ x) (bs : List Nat) (hl : bs.length = 8) (hbs : ∀ y ∈ bs, y < 256) (kl : ∀ W, Below w.heap.size w W → Calls Try.prog 22 #[.pointer p, .int .i64 x, .int .i64 8] W fun e w' => ∃ R, e = .returned (.tuple #[.slice (some ⟨R, 0, none⟩) 8 8, .int .i64 0]) ∧ OwnB w' R bs ∧ Below W.heap.size W w') : Calls Try.prog 6 #[.pointer p, .int .i64 x] w fun e w' => e = .returned (.tuple #[.int .u64 (leV bs : Nat), .int .i64 0]) ∧ Below w.heap.size w w' := by
  have KL := hide (qfload64 x bs hl hbs kl)
  have tm : x.tmod 8 = 0 := by rw [Int.tmod_eq_emod_of_nonneg hx0]; exact hx
  clear kl
  go_enter Try.func6, Try.ntmps6
  go_wp2_with (go_at_call 15; refine (KL.out).mono ?_; rintro e W1 ⟨rfl, hb1⟩; have HB1 := hide hb1; clear hb1)
  go_ret2
  exact ⟨rfl, HB1.out⟩
/-- A device that was laid since w, and nothing else has changed. -/
structure AtQ (w W : World) (b : Nat) (L : Lay) (σ : St) : Prop where
  dev : DevL W b L σ
  ok : σ.Ok
  num : L.N ≤ σ.ops
  foot : ∀ k, Foot b L σ k → w.heap.size ≤ k
  bel : Below w.heap.size w W
theorem AtQ.step {w W W' : World} {b : Nat} {L L' : Lay} {σ σ' : St} (h : AtQ w W b L σ) (hd : DevL W' b L' σ') (hok : σ'.Ok) (hf : ∀ k, Foot b L' σ' k → Foot b L σ k ∨ W.heap.size ≤ k) {X : Nat → Prop} (hX : ∀ k, X k → Foot b L σ k) (hg : Gr X W W') (hN : L'.N ≤ σ'.ops) : AtQ w W' b L' σ' := by
  refine ⟨hd, hok, hN, fun k hk => ?_, hg.1.trans h.bel.os, hg.2.1.trans h.bel.tape, hg.2.2.1.trans h.bel.output, Nat.le_trans h.bel.size hg.size, fun k hk => (hg.block (Nat.lt_of_lt_of_le hk h.bel.size) (fun hx => by have := h.foot k (hX k hx); omega)).trans (h.bel.block k hk)⟩
  rcases hf k hk with h1 | h1
  · exact h.foot k h1
  · exact Nat.le_trans h.bel.size h1
theorem AtQ.below {w W W' : World} {b : Nat} {L : Lay} {σ : St} (h : AtQ w W b L σ) (hB : Below W.heap.size W W') : AtQ w W' b L σ := ⟨h.dev.below hB, h.ok, h.num, h.foot, h.bel.trans (hB.mono h.bel.size)⟩
theorem AtQ.atd {w W W' : World} {b : Nat} {L : Lay} {σ σ' : St} {m : Nat} (h : AtQ w W b L σ) (ha : Atd W b L σ W' σ' m) (hok : σ'.Ok) (hN : σ.ops + m ≤ σ'.ops) : ∃ L', AtQ w W' b L' σ' := by
  obtain ⟨hg, L', hd, hf, hn⟩ := ha
  exact ⟨L', h.step hd hok hf (fun k hk => hk) hg (by have := h.num; omega)⟩
/-- What stays as it is when bytes are made to last. -/
theorem bytes_like {bs : List Nat} {at_ : Nat} {σ : St} (hbs : ∀ x ∈ bs, x < 256) (hok : σ.Ok) (hlen : at_ + bs.length ≤ 64 * σ.n) (hops : σ.ops + 2000000 ≤ 274877906944) :
    (bytesDo bs at_ σ).Ok ∧ (bytesDo bs at_ σ).n = σ.n ∧ (bytesDo bs at_ σ).ops = σ.ops + (wordsOf at_ bs.length).length + (linesOf at_ bs.length).length + 1 ∧ (bytesDo bs at_ σ).arms = σ.arms ∧ (bytesDo bs at_ σ).off = σ.off := by
  have hm := hok.max
  have hwl := wordsOf_len (at_ := at_) (n := bs.length) (by omega)
  have hll := linesOf_len (at_ := at_) (n := bs.length) (by omega)
  have hlk := write_like (at_ := at_) hbs (wordsOf at_ bs.length) σ hok (wordsOf_lt hlen hm) (by omega)
  obtain ⟨j1, j2, j3, j4, j5, _⟩ := lines_like (linesOf at_ bs.length) (writeDo bs at_ σ (wordsOf at_ bs.length)) hlk.ok (by rw [hlk.ops]; omega)
  rw [hlk.ops] at j3
  exact ⟨fence_ok j1 (by rw [j3]; omega), j2.trans hlk.n, by show (linesDo _ _).ops + 1 = _; rw [j3], j4.trans hlk.arms, j5.trans hlk.off⟩
def ones : List Nat := [1, 1, 1, 1, 1, 1, 1, 1]
def q1 : St := bytesDo ones 60 (newD 2)
def q2 : St := bytesDo (leB 8 258) 8 q1
theorem wQ60 : wordsOf 60 8 = [7, 8] := by rw [wordsOf_eq 60 8 (by omega)]; rfl
theorem wQ8 : wordsOf 8 8 = [1] := by rw [wordsOf_eq 8 8 (by omega)]; rfl
theorem lQ60 : linesOf 60 8 = [0, 1] := by decide +kernel
theorem lQ8 : linesOf 8 8 = [0] := by decide +kernel
theorem ones_lt : ∀ x ∈ ones, x < 256 := by decide
theorem q1_like : q1.Ok ∧ q1.n = 2 ∧ q1.ops = 5 ∧ q1.arms = [] ∧ q1.off = false := by
  obtain ⟨h1, h2, h3, h4, h5⟩ := bytes_like (bs := ones) (at_ := 60) (σ := newD 2) ones_lt (newD_ok (by omega) (by omega)) (by decide) (by show 0 + 2000000 ≤ _; omega)
  have e : ones.length = 8 := rfl
  rw [e, wQ60, lQ60] at h3
  exact ⟨h1, h2, h3, h4, h5⟩
theorem q2_like : q2.Ok ∧ q2.n = 2 ∧ q2.ops = 8 ∧ q2.arms = [] ∧ q2.off = false := by
  obtain ⟨g1, g2, g3, g4, g5⟩ := q1_like
  obtain ⟨h1, h2, h3, h4, h5⟩ := bytes_like (bs := leB 8 258) (at_ := 8) (σ := q1) (leB_lt 8 258) g1 (by rw [leB_length, g2]; omega) (by rw [g3]; omega)
  rw [leB_length, wQ8, lQ8, g3] at h3
  exact ⟨h1, h2.trans g2, h3, h4.trans g4, h5.trans g5⟩
theorem q2_eq : q2 = fenceDo (flushDo (wordDo (leB 8 258) 8 (fenceDo (flushDo (flushDo (wordDo ones 60 (wordDo ones 60 (newD 2) 7) 8) 0) 1)) 1) 0) := by
  have e : ones.length = 8 := rfl
  unfold q2 q1 bytesDo
  rw [leB_length, e, wQ60, lQ60, wQ8, lQ8]
  rfl
def lineQ : List Nat := [0, 0, 0, 0, 0, 0, 0, 0, 2, 1, 0, 0, 0, 0, 0, 0, 0, 0, 0, 0, 0, 0, 0, 0, 0, 0, 0, 0, 0, 0, 0, 0, 0, 0, 0, 0, 0, 0, 0, 0, 0, 0, 0, 0, 0, 0, 0, 0, 0, 0, 0, 0, 0, 0, 0, 0, 0, 0, 0, 0, 1, 1, 1, 1]
theorem q2_lost : lost q2 [] 0 = lineQ := by
  rw [q2_eq]
  kernel_rfl
end Go.Proofs.Ytcpmofdhljdkdaa
namespace Go.Proofs.Ytcpmofdhljdkdaa
open Go.RowKit Go.Shelf
set_option linter.unusedVariables false

section
variable {w W : World} {b : Nat} {L : Lay}
theorem q_new : Calls Try.prog 12 #[.int .i64 128] w fun e W => ∃ b L, e = .returned (.tuple #[.pointer (some ⟨b, 0, none⟩), .int .i64 0]) ∧ AtQ w W b L (newD 2) := by
  refine (pnew_any w 2 (by omega) (by omega)).mono ?_
  rintro e W ⟨b, L, rfl, h1, h2, h3, h4⟩
  exact ⟨b, L, rfl, h1, newD_ok (by omega) (by omega), by rw [h4]; exact Nat.zero_le _, h2, h3⟩
theorem q_by (h : AtQ w W b L (newD 2)) : Calls Try.prog 10 #[.pointer (some ⟨b, 0, none⟩), .int .i64 60, .slice (some ⟨W.heap.size, 0, none⟩) 8 8] (W.alloc (.cells #[.int .u8 1, .int .u8 1, .int .u8 1, .int .u8 1, .int .u8 1, .int .u8 1, .int .u8 1, .int .u8 1] 5)) fun e W' => e = .returned (.int .i64 0) ∧ ∃ L', AtQ w W' b L' q1 := by
  have hA : Below W.heap.size W (W.alloc (.cells #[.int .u8 1, .int .u8 1, .int .u8 1, .int .u8 1, .int .u8 1, .int .u8 1, .int .u8 1, .int .u8 1] 5)) := (Below.refl _ W).alloc (Nat.le_refl _) _
  have ho : OwnB (W.alloc (.cells #[.int .u8 1, .int .u8 1, .int .u8 1, .int .u8 1, .int .u8 1, .int .u8 1, .int .u8 1, .int .u8 1] 5)) W.heap.size ones := heap_alloc_new W _
  have h' := h.below hA
  refine (qbytes_any (a := some ⟨W.heap.size, 0, none⟩) (bs := ones) 60 8 h'.dev h'.ok rfl h'.num rfl (by show 0 + 2000000 ≤ _; omega) (ho.sl ones_lt) (by decide) (by decide) (by decide) (fun ad he => ?_)).mono ?_
  · cases he
    exact ⟨ho.lt, fun hf => by have := h.dev.foot_is hf; simp at this⟩
  · rintro e W' ⟨rfl, ha⟩
    obtain ⟨h1, h2, h3, _⟩ := q1_like
    have e8 : ones.length = 8 := rfl
    exact ⟨rfl, h'.atd ha h1 (by rw [e8, wQ60, lQ60, h3]; show 0 + (2 + 2) ≤ 5; omega)⟩
theorem q_pub (h : AtQ w W b L q1) : Calls Try.prog 11 #[.pointer (some ⟨b, 0, none⟩), .int .i64 8, .int .u64 258] W fun e W' => e = .returned (.int .i64 0) ∧ ∃ L', AtQ w W' b L' q2 := by
  obtain ⟨g1, g2, g3, g4, g5⟩ := q1_like
  obtain ⟨h1, h2, h3, _⟩ := q2_like
  refine (qpub_any 258 8 h.dev h.ok g5 h.num g4 (by rw [g3]; omega) (by omega) (by omega) (by rw [g2]; omega)).mono ?_
  rintro e W' ⟨rfl, ha⟩
  exact ⟨rfl, h.atd ha h1 (by rw [wQ8, lQ8, h3, g3]; show 5 + (1 + 1) ≤ 8; omega)⟩
theorem q_cr (h : AtQ w W b L q2) : Calls Try.prog 14 #[.pointer (some ⟨b, 0, none⟩), .slice none 0 0] W fun e W' => e = .returned (.int .i64 0) ∧ ∃ L' σ', Lost q2 [] σ' ∧ AtQ w W' b L' σ' := by
  refine (pcrash_any (a := none) (kp := []) 0 h.dev h.ok q2_like.2.2.2.2 ⟨by simp, .inl ⟨rfl, rfl⟩⟩ (by simp)).mono ?_
  rintro e W' ⟨rfl, L', σ', h1, h2, h3, h4, h5⟩
  refine ⟨rfl, L', σ', h1, h.step h2 (Lost.ok h.ok h1) h3 (fun k hk => hk.elim (fun e => .inl e) (fun e => .inr (.inl e))) h4 ?_⟩
  have := h.num
  rw [h1.ops]
  omega
theorem q_wk {σ' : St} (h : AtQ w W b L σ') (ho : σ'.off = true) : Calls Try.prog 21 #[.pointer (some ⟨b, 0, none⟩)] W fun e W' => e = .returned (.int .i64 0) ∧ AtQ w W' b L { σ' with off := false } := by
  refine (pwake_off h.dev ho).mono ?_
  rintro e W' ⟨rfl, h1, h2⟩
  refine ⟨rfl, h.step h2 ⟨h.ok.pos, h.ok.max, h.ok.len, h.ok.byte, h.ok.out, h.ok.clen, h.ok.cbyte, h.ok.few, h.ok.flp, h.ok.opsm⟩ (fun k hk => .inl hk) (X := fun k => k = b) (fun k hk => .inl hk) ?_ h.num⟩
  rw [h1]
  exact Gr.set W b 7 _ rfl
theorem q_ld {σ' : St} (h : AtQ w W b L { σ' with off := false }) (hl : Lost q2 [] σ') (at_ n : Nat) (hn : at_ + n ≤ 64) (W2 : World) (hB : Below W.heap.size W W2) : Calls Try.prog 22 #[.pointer (some ⟨b, 0, none⟩), .int .i64 (at_ : Int), .int .i64 (n : Int)] W2 fun e W' => ∃ R, e = .returned (.tuple #[.slice (some ⟨R, 0, none⟩) n n, .int .i64 0]) ∧ OwnB W' R ((lineQ.drop at_).take n) ∧ Below W2.heap.size W2 W' := by
  have hn2 : σ'.n = 2 := by rw [hl.n]; exact q2_like.2.1
  refine (callsIn_wide.1 (pload_in (at_ := at_) (n := n) (h.dev.below hB) h.ok rfl (by show at_ + n ≤ 64 * σ'.n; rw [hn2]; omega))).mono ?_
  rintro e W' ⟨R, rfl, h1, h2, h3⟩
  refine ⟨R, rfl, ?_, h3⟩
  have hli := hl.lines 0 (by rw [q2_like.2.1]; omega)
  rw [q2_lost] at hli
  have hb : (σ'.bytes.drop at_).take n = (lineQ.drop at_).take n := by
    rw [← hli]
    unfold St.line
    refine List.ext_getElem? fun q => ?_
    rw [List.getElem?_take, List.getElem?_take, List.getElem?_drop, List.getElem?_drop, List.getElem?_take]
    split
    · rw [if_pos (by omega)]
      simp
    · rfl
  have h6 : W'.heap[R]? = some (.cells (((σ'.bytes.drop at_).take n).map B8).toArray 5 (0, 0)) := h2
  rw [hb] at h6
  exact h6
set_option maxRecDepth 100000 in
set_option maxHeartbeats 1000000 in
theorem qworks_any (w : World) : Calls Try.prog 17 #[] w fun e w' => e = .returned (.bool true) ∧ Below w.heap.size w w' := by
  have K0 := hide (q_new (w := w))
  have M1 := hide trivial
  go_enter Try.func17, Try.ntmps17
  go_wp2_with (first
    | (go_at_call 12; refine (K0.out).mono ?_; rintro e W0 ⟨b, L0, rfl, hA⟩; have K1 := hide (q_by hA); clear hA)
    | (go_at_call 10; refine (K1.out).mono ?_; rintro e W1 ⟨rfl, L1, hA⟩; have ko := pops_any hA.dev; rw [q1_like.2.2.1] at ko; have KO := hide ko; have K2 := hide (q_pub hA); clear hA ko)
    | (go_at_call 13; clear M1; refine (KO.out).mono ?_; rintro e w' ⟨rfl, hw⟩; obtain rfl := hw.symm)
    | (go_at_call 11; refine (K2.out).mono ?_; rintro e W2 ⟨rfl, L2, hA⟩; have K3 := hide (q_cr hA); clear hA)
    | (go_at_call 14; refine (K3.out).mono ?_; rintro e W3 ⟨rfl, L3, σ3, hl, hA⟩; have K4 := hide (q_wk hA hl.off); have HL := hide hl; clear hA hl)
    | (go_at_call 21; refine (K4.out).mono ?_; rintro e W4 ⟨rfl, hA⟩; have kw := qword (w := W4) (p := some ⟨b, 0, none⟩) 8 (by omega) (by omega) [2, 1, 0, 0, 0, 0, 0, 0] rfl (by decide) (fun X hX => q_ld hA HL.out 8 8 (by omega) X hX); have KW := hide kw; have HA4 := hide hA; clear hA kw)
    | (go_at_call 6; refine (KW.out).mono ?_; rintro e W5 ⟨rfl, hb5⟩; have hA5 := HA4.out.below hb5; have kf := qfload16 (w := W5) (p := some ⟨b, 0, none⟩) 9 [1, 0] rfl (by decide) (fun X hX => q_ld hA5 HL.out 9 2 (by omega) X hX); have KF := hide kf; have HA5 := hide hA5; clear hb5 hA5 kf)
    | (go_at_call 45; refine (KF.out).mono ?_; rintro e W6 ⟨rfl, hb6⟩; have hA6 := HA5.out.below hb6; have ko := pops_any hA6.dev; rw [show ({ σ3 with off := false } : St).ops = 8 from HL.out.ops.trans q2_like.2.2.1] at ko; have KO2 := hide ko; have HB6 := hide hA6.bel; clear hb6 hA6 ko)
    | (go_at_call 13; refine (KO2.out).mono ?_; rintro e w' ⟨rfl, hw⟩; obtain rfl := hw.symm))
  go_ret
  exact ⟨by simp, HB6.out⟩
end
end Go.Proofs.Ytcpmofdhljdkdaa
namespace Go.Proofs.Ytcpmofdhljdkdaa
open Go.RowKit Go.Shelf
set_option linter.unusedVariables false

theorem q_new1 {w : World} : Calls Try.prog 12 #[.int .i64 64] w fun e W => ∃ b L, e = .returned (.tuple #[.pointer (some ⟨b, 0, none⟩), .int .i64 0]) ∧ AtQ w W b L (newD 1) := by
  refine (pnew_any w 1 (by omega) (by omega)).mono ?_
  rintro e W ⟨b, L, rfl, h1, h2, h3, h4⟩
  exact ⟨b, L, rfl, h1, newD_ok (by omega) (by omega), by rw [h4]; exact Nat.zero_le _, h2, h3⟩
theorem q_cr1 {w W : World} {b : Nat} {L : Lay} (h : AtQ w W b L (newD 1)) : Calls Try.prog 14 #[.pointer (some ⟨b, 0, none⟩), .slice none 0 0] W fun e W' => e = .returned (.int .i64 0) ∧ BadD W' (.pointer (some ⟨b, 0, none⟩)) 5 ∧ Below w.heap.size w W' := by
  refine (pcrash_any (a := none) (kp := []) 0 h.dev h.ok rfl ⟨by simp, .inl ⟨rfl, rfl⟩⟩ (by simp)).mono ?_
  rintro e W' ⟨rfl, L', σ', h1, h2, h3, h4, h5⟩
  have h6 := h.step h2 (Lost.ok h.ok h1) h3 (fun k hk => hk.elim (fun e => .inl e) (fun e => .inr (.inl e))) h4 (by have := h.num; rw [h1.ops]; omega)
  exact ⟨rfl, BadD.off h2 h1.off, h6.bel⟩
set_option maxRecDepth 100000 in
set_option maxHeartbeats 1000000 in
theorem persistNames_walk (w : World) : Calls Try.prog 3 #[] w fun e w' => e = .returned (.bool true) ∧ Below w.heap.size w w' := by
  go_enter Try.func3, Try.ntmps3
  go_wp2
  go_loopw [1, 2] (fun pv iv wr => ∃ (k : Nat) (p : Option Addr), iv = .int .i64 (k : Int) ∧ pv = .pointer p ∧ k ≤ 2 ∧ BadD wr (.pointer p) 1 ∧ Below w.heap.size w wr) (fun pv iv _ => (2 - (intOf iv).toNat))
  case atStart => exact ⟨0, none, rfl, rfl, by omega, BadD.nil w, Below.refl _ _⟩
  case round =>
    obtain ⟨k, p, rfl, rfl, hk, hbd, hB⟩ := hrel
    have HBD := hide hbd
    have HB := hide hB
    clear hbd hB
    by_cases hlt : k < 2
    · have kI : (k : Int) < 2 := by omega
      go_wp2_with (first
        | (go_at_call 6; refine (qbword HBD.out 1).mono ?_; rintro e W1 ⟨rfl, hb⟩; replace HBD := hide (HBD.out.below hb); replace HB := hide (HB.out.trans (hb.mono HB.out.size)); clear hb)
        | (go_at_call 7; refine (qbfload8 HBD.out (-1)).mono ?_; rintro e W2 ⟨rfl, hb⟩; replace HBD := hide (HBD.out.below hb); replace HB := hide (HB.out.trans (hb.mono HB.out.size)); clear hb)
        | (go_at_call 8; refine (qbfstore32 HBD.out 0).mono ?_; rintro e W3 ⟨rfl, hb⟩; replace HBD := hide (HBD.out.below hb); replace HB := hide (HB.out.trans (hb.mono HB.out.size)); clear hb)
        | (go_at_call 9; refine (bad_range HBD.out (-1) (-1)).mono ?_; rintro e W4 ⟨rfl, hb⟩; replace HBD := hide (HBD.out.below hb); replace HB := hide (HB.out.trans (hb.mono HB.out.size)); clear hb)
        | (go_at_call 10; refine (bad_bytes HBD.out (-1) none 0 0).mono ?_; rintro e W5 ⟨rfl, hb⟩; replace HBD := hide (HBD.out.below hb); replace HB := hide (HB.out.trans (hb.mono HB.out.size)); clear hb)
        | (go_at_call 11; refine (bad_publish HBD.out 3 1).mono ?_; rintro e W6 ⟨rfl, hb⟩; replace HBD := hide (HBD.out.below hb); replace HB := hide (HB.out.trans (hb.mono HB.out.size)); clear hb))
      go_roundw
      case rel => exact ⟨k + 1, some ⟨W6.heap.size, 0, none⟩, int_congrP (by omega), rfl, by omega, BadD.zero (heap_alloc_new W6 _), HB.out.alloc HB.out.size _⟩
      case measure => simp [intOf]; omega
    · obtain rfl : k = 2 := by omega
      clear HBD
      go_upto_region 14 with (first
        | (go_at_call 12; refine (q_new1 (w := wr)).mono ?_; rintro e W1 ⟨b, L, rfl, hA⟩; have HA := hide hA; clear hA)
        | (go_at_call 9; refine (no_range HA.out.dev HA.out.ok rfl _ _ ?hy).mono ?_; (case hy => omega); rintro e W2 ⟨rfl, hb⟩; replace HA := hide (HA.out.below hb); clear hb)
        | (go_at_call 10; refine (no_bytes HA.out.dev HA.out.ok rfl (-1) none 0).mono ?_; rintro e W3 ⟨rfl, hb⟩; replace HA := hide (HA.out.below hb); clear hb)
        | (go_at_call 13; refine (pops_any HA.out.dev).mono ?_; rintro e w' ⟨rfl, hw⟩; obtain rfl := hw.symm)
        | (go_at_call 14; refine (q_cr1 HA.out).mono ?_; rintro e W4 ⟨rfl, hbd, hb⟩; have HBD := hide hbd; replace HB := hide (HB.out.trans (hb.mono HB.out.size)); clear hb hbd))
      clear HA
      go_wp2_with (first
        | (go_at_call 6; refine (qbword HBD.out 1).mono ?_; rintro e W5 ⟨rfl, hb⟩; replace HBD := hide (HBD.out.below hb); replace HB := hide (HB.out.trans (hb.mono HB.out.size)); clear hb)
        | (go_at_call 15; refine (qbfload64 HBD.out 60).mono ?_; rintro e W6 ⟨rfl, hb⟩; replace HBD := hide (HBD.out.below hb); replace HB := hide (HB.out.trans (hb.mono HB.out.size)); clear hb)
        | (go_at_call 9; refine (bad_range HBD.out (-1) (-1)).mono ?_; rintro e W7 ⟨rfl, hb⟩; replace HBD := hide (HBD.out.below hb); replace HB := hide (HB.out.trans (hb.mono HB.out.size)); clear hb)
        | (go_at_call 10; refine (bad_bytes HBD.out (-1) none 0 0).mono ?_; rintro e W8 ⟨rfl, hb⟩; replace HBD := hide (HBD.out.below hb); replace HB := hide (HB.out.trans (hb.mono HB.out.size)); clear hb)
        | (go_at_call 11; refine (bad_publish HBD.out 3 1).mono ?_; rintro e W9 ⟨rfl, hb⟩; replace HBD := hide (HBD.out.below hb); replace HB := hide (HB.out.trans (hb.mono HB.out.size)); clear hb)
        | (go_at_call 16; refine (qbfstore8 HBD.out 99).mono ?_; rintro e WA ⟨rfl, hb⟩; replace HBD := hide (HBD.out.below hb); replace HB := hide (HB.out.trans (hb.mono HB.out.size)); clear hb)
        | (go_at_call 17; refine (qworks_any _).mono ?_; rintro e WB ⟨rfl, hb⟩; replace HB := hide (HB.out.trans (hb.mono HB.out.size)); clear hb))
      go_ret
      exact ⟨rfl, HB.out⟩
end Go.Proofs.Ytcpmofdhljdkdaa
namespace Go.Proofs.Ytcpmofdhljdkdaa
open Go.ChangeShapes Go.WideShapes Go.ChangeAt Go.RowKit
set_option linter.unusedVariables false

theorem own : ownKnob Try.prog.godebug = none := by kernel_rfl
theorem laidOut : laidOutB Try.prog = true := by kernel_rfl
theorem size_of_sized {s : ByteArray} (h : s.data.toList.length ≤ reachBytes) : s.size ≤ 140737488351232 := by
  have : s.data.toList.length = s.size := by simp
  have e : reachBytes = 140737488351232 := by decide
  omega
theorem bulk_pos {H : Type} (d : DataW H) : 1 ≤ Rows.uptoBulk d := by
  cases d with
  | lit l => cases l <;> simp [Rows.uptoBulk]
  | _ => simp [Rows.uptoBulk]
theorem bulk_len {H : Type} (l : List (DataW H)) : l.length ≤ Rows.uptoBulkAll l := by
  induction l with
  | nil => simp [Rows.uptoBulkAll]
  | cons d r ih =>
    have := bulk_pos d
    simp only [Rows.uptoBulkAll, List.length_cons]
    omega
theorem bulk_string {H : Type} (s : ByteArray) : s.size ≤ Rows.uptoBulk (H := H) (.lit (.string s.data.toList)) := by
  simp [Rows.uptoBulk]
theorem bulk_nums {H : Type} {d : DataW H} {zs : List Int} (h : d = .nil ∧ zs = [] ∨ ∃ el sp, d = .slice el sp ∧ el.length = zs.length) : zs.length ≤ Rows.uptoBulk d := by
  rcases h with ⟨_, rfl⟩ | ⟨el, sp, rfl, h⟩
  · simp
  · have := bulk_len el
    simp only [Rows.uptoBulk]
    omega
theorem bulk_of {H : Type} {l : List (DataW H)} (h : Rows.uptoSmall H l = true) : Rows.uptoBulkAll l ≤ 1048576 := of_decide_eq_true h

theorem Try.bytes32 : Try.prog.bytesOf 21 = 4 := by kernel_rfl
end Go.Proofs.Ytcpmofdhljdkdaa
namespace Go.Proofs.Ytcpmofdhljdkdaa.persistNames
open Go.ChangeShapes Go.WideShapes Go.ChangeAt Go.RowKit Go.Proofs.Ytcpmofdhljdkdaa
set_option linter.unusedVariables false

set_option maxRecDepth 100000 in
theorem lifted (os : Os) (started : os.Started) (H : Type) (enc : TypeId × Value → H) :
    ReturnsInHanded {} Try.checked os 3 .any (Rows.persistNamesSpec.pre6 enc Try.prog Try.f3 Rows.persistNamesRow.domain false) (Rows.persistNamesSpec.post enc Try.prog Try.f3 false true false false) := by
  refine returnsInHanded_of_change (C := Try.checked) own started (by kernel_rfl) Try.func3
    (ChangeSpec.witness6 (enc := enc) (C := Try.checked) false ⟨#[], #[], []⟩ 8 (by kernel_rfl) (by kernel_rfl) (by kernel_rfl) (by kernel_rfl)) ?_
  intro W base args ds gs before hval0 hW hcnd _
  have hval : ∀ (j : Nat) t v, Try.f3.params[j]? = some t → args[j]? = some v → Value.okWide Try.prog W .any base t v := hval0
  have hW' := hW
  obtain ⟨p, q, hA0, hV, rfl, hfz, hnd⟩ := hW
  have hA : DataW.TrodAll enc Try.prog W 0 (fun _ => true) true Try.f3.params.toList args.toList ds p := hA0
  rw [Try.params3] at hA hval
  obtain ⟨hargs, rfl, rfl⟩ := trodAll_nil hA
  obtain rfl : args = #[] := by cases args; simp_all
  obtain ⟨rfl, rfl⟩ := trodVars_none hV
  clear hval0
  clear hA0
  refine (persistNames_walk W).mono fun e W' ⟨he, bel⟩ => ?_
  subst he
  exact ⟨_, rfl, _, _, _, [], _, [], hW', trodAll_mk1 (shut_bool Try.underlying4 _), trodAll_mk0, rfl, bel.frame _, fun h => by cases h⟩

theorem over : Rows.persistNamesRow.holds Try.pinned (OpenSpec.ofChange Rows.persistNamesSpec) :=
  OpenClaim.holds_of_wide 3 Try.f3 rfl rfl rfl rfl rfl rfl rfl ⟨rfl, rfl, rfl, rfl, rfl⟩ rfl rfl rfl rfl rfl (by kernel_rfl) Try.func3 (by kernel_rfl)
    (of_decide_eq_true (by kernel_rfl)) (by unfold Func.isWrapper; first | (rw [if_pos (by decide +kernel)]; kernel_rfl) | (rw [if_neg (by decide +kernel)]; exact ⟨rfl, rfl⟩))
    (fun os started H enc _ => lifted os started H enc)

end Go.Proofs.Ytcpmofdhljdkdaa.persistNames

namespace Go.Proofs.Ytcpmofdhljdkdaa
/-- PersistNames, as it is stated. -/
theorem persistNames_holds : Rows.PersistNamesSaid := persistNames.over
#print axioms persistNames_holds
end Go.Proofs.Ytcpmofdhljdkdaa
