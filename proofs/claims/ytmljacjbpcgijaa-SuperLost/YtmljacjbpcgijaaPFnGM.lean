/- Package pmem: Fence, where a loss of power may wait. -/
import Derived.Test.YtmljacjbpcgijaaQFl
import Derived.Test.YtmljacjbpcgijaaPSto
import Derived.Test.YtmljacjbpcgijaaPFnW
import Derived.Test.YtmljacjbpcgijaaPLd
import Derived.Test.YtmljacjbpcgijaaPSt
import Derived.Test.YtmljacjbpcgijaaPLos
import Derived.ArgAppend
import Derived.Deep.Cut
import Derived.Test.YtmljacjbpcgijaaPWr
import Derived.Test.YtmljacjbpcgijaaPFl
namespace Go.Proofs.Ytmljacjbpcgijaa
open Go.RowKit Go.Shelf
set_option linter.unusedVariables false

section
variable {w : World} {b : Nat} {L : Lay} {σ : St}
theorem st3 {W : World} {g : Nat} {p : Value} {x y : Int} (h : W.heap[g]? = some (.cells #[p, .int .i64 x, .int .i64 y] 91 (0, 0))) :
    W.cell? ⟨g, 0, none⟩ = some p ∧ W.cell? ⟨g, 1, none⟩ = some (.int .i64 x) ∧ W.cell? ⟨g, 2, none⟩ = some (.int .i64 y) := ⟨cell8 h 0, cell8 h 1, cell8 h 2⟩
set_option maxHeartbeats 400000 in
theorem qlies_any (h : DevL w b L σ) (hn : σ.n ≤ 65536) (x y : Int) (hx : -9223372036854775808 ≤ x) (hx' : x ≤ 9223372036854775807) (hy : 0 ≤ y) : Calls Try.prog 56 #[.agg #[.pointer (some ⟨b, 0, none⟩), .int .i64 x, .int .i64 y]] w fun e w' => e = .returned (.bool (hasB σ x y)) ∧ Below w.heap.size w w' := by
  have hA : Below w.heap.size w (w.alloc (.cells #[.pointer (some ⟨b, 0, none⟩), .int .i64 x, .int .i64 y] 91)) := (Below.refl _ w).alloc (Nat.le_refl _) _
  have ks := psize_any (h.below hA.drew) hn
  obtain ⟨N, hN⟩ : ∃ N : Nat, N = 64 * σ.n := ⟨_, rfl⟩
  rw [← hN] at ks
  have NI : (N : Int) ≤ 4194304 := by omega
  have s0 : (w.alloc (.cells #[.pointer (some ⟨b, 0, none⟩), .int .i64 x, .int .i64 y] 91)).drew.cell? ⟨w.heap.size, 0, none⟩ = some (.pointer (some ⟨b, 0, none⟩)) ∧ (w.alloc (.cells #[.pointer (some ⟨b, 0, none⟩), .int .i64 x, .int .i64 y] 91)).drew.cell? ⟨w.heap.size, 1, none⟩ = some (.int .i64 x) ∧ (w.alloc (.cells #[.pointer (some ⟨b, 0, none⟩), .int .i64 x, .int .i64 y] 91)).drew.cell? ⟨w.heap.size, 2, none⟩ = some (.int .i64 y) := st3 (W := (w.alloc (.cells #[.pointer (some ⟨b, 0, none⟩), .int .i64 x, .int .i64 y] 91)).drew) (heap_alloc_new w _)
  have KS := hide ks
  have HA := hide hA
  have S0 := hide s0
  by_cases h0 : x < 0
  · have e : hasB σ x y = false := by unfold hasB; simp; omega
    rw [e]
    have h0' : ¬ 0 ≤ x := by omega
    clear h ks hA e hN s0
    go_enter Try.func56, Try.ntmps56
    go_wp2_with (fail)
    refine wp_region_held_drew (S := fun X => X.cell? ⟨w.heap.size, 0, none⟩ = some (.pointer (some ⟨b, 0, none⟩)) ∧ X.cell? ⟨w.heap.size, 1, none⟩ = some (.int .i64 x) ∧ X.cell? ⟨w.heap.size, 2, none⟩ = some (.int .i64 y)) (by kernel_rfl) S0.out (fun hS => ?_)
    refine wpAnyH_take (i := 0) (v := (.pointer (some ⟨w.heap.size, 1, none⟩))) rfl (by kernel_rfl) (by kernel_rfl) (by kernel_rfl) (fun _ _ _ h => h) (Or.inl ⟨by kernel_rfl, fun w' hw => by (go_simp)⟩) hS ?_
    refine wpAnyH_take (i := 1) (v := (.int .i64 x)) rfl (by kernel_rfl) (by kernel_rfl) (by kernel_rfl) (fun _ _ _ h => h) (Or.inl ⟨by kernel_rfl, fun w' hw => by (obtain ⟨z0, z1, z2⟩ := hw; go_simp)⟩) hS ?_
    refine wpAnyH_take (i := 2) (v := (.bool false)) rfl (by kernel_rfl) (by kernel_rfl) (by kernel_rfl) (fun _ _ _ h => h) (Or.inl ⟨by kernel_rfl, fun w' hw => by (go_simp)⟩) hS ?_
    refine wpAnyH_take (i := 3) (v := (.bool false)) rfl (by kernel_rfl) (by kernel_rfl) (by kernel_rfl) (fun _ _ _ h => h) (Or.inl ⟨by kernel_rfl, fun w' hw => by (go_simp)⟩) hS ?_
    refine wpAnyH_take (i := 4) (v := undef) rfl (by kernel_rfl) (by kernel_rfl) (by kernel_rfl) (fun _ _ _ h => h) (Or.inr ⟨by kernel_rfl, rfl⟩) hS ?_
    refine wpAnyH_take (i := 5) (v := undef) rfl (by kernel_rfl) (by kernel_rfl) (by kernel_rfl) (fun _ _ _ h => h) (Or.inr ⟨by kernel_rfl, rfl⟩) hS ?_
    refine wpAnyH_take (i := 6) (v := undef) rfl (by kernel_rfl) (by kernel_rfl) (by kernel_rfl) (fun _ _ _ h => h) (Or.inr ⟨by kernel_rfl, rfl⟩) hS ?_
    refine wpAnyH_take (i := 7) (v := undef) rfl (by kernel_rfl) (by kernel_rfl) (by kernel_rfl) (fun _ _ _ h => h) (Or.inr ⟨by kernel_rfl, rfl⟩) hS ?_
    refine wpAnyH_take (i := 8) (v := undef) rfl (by kernel_rfl) (by kernel_rfl) (by kernel_rfl) (fun _ _ _ h => h) (Or.inr ⟨by kernel_rfl, rfl⟩) hS ?_
    refine wpAnyH_take (i := 9) (v := undef) rfl (by kernel_rfl) (by kernel_rfl) (by kernel_rfl) (fun _ _ _ h => h) (Or.inr ⟨by kernel_rfl, rfl⟩) hS ?_
    refine wpAnyH_take (i := 10) (v := undef) rfl (by kernel_rfl) (by kernel_rfl) (by kernel_rfl) (fun _ _ _ h => h) (Or.inr ⟨by kernel_rfl, rfl⟩) hS ?_
    refine wpAnyH_take (i := 11) (v := undef) rfl (by kernel_rfl) (by kernel_rfl) (by kernel_rfl) (fun _ _ _ h => h) (Or.inr ⟨by kernel_rfl, rfl⟩) hS ?_
    refine wpAnyH_take (i := 12) (v := undef) rfl (by kernel_rfl) (by kernel_rfl) (by kernel_rfl) (fun _ _ _ h => h) (Or.inr ⟨by kernel_rfl, rfl⟩) hS ?_
    refine wpAnyH_take (i := 13) (v := (.bool false)) rfl (by kernel_rfl) (by kernel_rfl) (by kernel_rfl) (fun _ _ _ h => h) (Or.inl ⟨by kernel_rfl, fun w' hw => by (go_simp)⟩) hS ?_
    refine wpAnyH_take (i := 14) (v := (.bool false)) rfl (by kernel_rfl) (by kernel_rfl) (by kernel_rfl) (fun _ _ _ h => h) (Or.inl ⟨by kernel_rfl, fun w' hw => by (go_simp)⟩) hS ?_
    refine wpAnyH_done (by kernel_rfl) ?_ _
    simp only [Act.put, List.getElem_toArray, List.getElem_cons_zero, List.getElem_cons_succ, List.setIfInBounds_toArray, List.set_cons_zero, List.set_cons_succ]
    go_wp2_with (fail)
    go_ret
    exact ⟨rfl, HA.out.drew⟩
  · have h0' : 0 ≤ x := by omega
    have e : hasB σ x y = decide (y ≤ (N : Int) - x) := by
      unfold hasB
      rw [Bool.eq_iff_iff]
      simp
      omega
    rw [e]
    clear h ks hA e hN h0 s0
    have wr : IntKind.i64.wrap ((N : Int) - x) = (N : Int) - x := by rw [IntKind.wrap_i64]; omega
    go_enter Try.func56, Try.ntmps56
    go_wp2_with (fail)
    refine wp_region_held_drew (S := fun X => X.cell? ⟨w.heap.size, 0, none⟩ = some (.pointer (some ⟨b, 0, none⟩)) ∧ X.cell? ⟨w.heap.size, 1, none⟩ = some (.int .i64 x) ∧ X.cell? ⟨w.heap.size, 2, none⟩ = some (.int .i64 y)) (by kernel_rfl) S0.out (fun hS => ?_)
    refine wpAnyH_take (i := 0) (v := (.pointer (some ⟨w.heap.size, 1, none⟩))) rfl (by kernel_rfl) (by kernel_rfl) (by kernel_rfl) (fun _ _ _ h => h) (Or.inl ⟨by kernel_rfl, fun w' hw => by (go_simp)⟩) hS ?_
    refine wpAnyH_take (i := 1) (v := (.int .i64 x)) rfl (by kernel_rfl) (by kernel_rfl) (by kernel_rfl) (fun _ _ _ h => h) (Or.inl ⟨by kernel_rfl, fun w' hw => by (obtain ⟨z0, z1, z2⟩ := hw; go_simp)⟩) hS ?_
    refine wpAnyH_take (i := 2) (v := (.bool true)) rfl (by kernel_rfl) (by kernel_rfl) (by kernel_rfl) (fun _ _ _ h => h) (Or.inl ⟨by kernel_rfl, fun w' hw => by (go_simp)⟩) hS ?_
    refine wpAnyH_take (i := 3) (v := (.bool true)) rfl (by kernel_rfl) (by kernel_rfl) (by kernel_rfl) (fun _ _ _ h => h) (Or.inl ⟨by kernel_rfl, fun w' hw => by (go_simp)⟩) hS ?_
    refine wpAnyH_take (i := 4) (v := (.pointer (some ⟨w.heap.size, 2, none⟩))) rfl (by kernel_rfl) (by kernel_rfl) (by kernel_rfl) (fun _ _ _ h => h) (Or.inl ⟨by kernel_rfl, fun w' hw => by (go_simp)⟩) hS ?_
    refine wpAnyH_take (i := 5) (v := (.int .i64 y)) rfl (by kernel_rfl) (by kernel_rfl) (by kernel_rfl) (fun _ _ _ h => h) (Or.inl ⟨by kernel_rfl, fun w' hw => by (obtain ⟨z0, z1, z2⟩ := hw; go_simp)⟩) hS ?_
    refine wpAnyH_take (i := 6) (v := (.pointer (some ⟨w.heap.size, 0, none⟩))) rfl (by kernel_rfl) (by kernel_rfl) (by kernel_rfl) (fun _ _ _ h => h) (Or.inl ⟨by kernel_rfl, fun w' hw => by (go_simp)⟩) hS ?_
    refine wpAnyH_take (i := 7) (v := (.pointer (some ⟨b, 0, none⟩))) rfl (by kernel_rfl) (by kernel_rfl) (by kernel_rfl) (fun _ _ _ h => h) (Or.inl ⟨by kernel_rfl, fun w' hw => by (obtain ⟨z0, z1, z2⟩ := hw; go_simp)⟩) hS ?_
    refine wpAnyH_take (i := 9) (v := (.pointer (some ⟨w.heap.size, 1, none⟩))) rfl (by kernel_rfl) (by kernel_rfl) (by kernel_rfl) (fun _ _ _ h => h) (Or.inl ⟨by kernel_rfl, fun w' hw => by (go_simp)⟩) hS ?_
    refine wpAnyH_take (i := 10) (v := (.int .i64 x)) rfl (by kernel_rfl) (by kernel_rfl) (by kernel_rfl) (fun _ _ _ h => h) (Or.inl ⟨by kernel_rfl, fun w' hw => by (obtain ⟨z0, z1, z2⟩ := hw; go_simp)⟩) hS ?_
    refine wpAnyH_ready (rs := [8]) (by kernel_rfl) (by simp) ?_
    refine AllReadyH.cons rfl (fun K hK => ?_) AllReadyH.nil
    rw [if_pos (by kernel_rfl)]
    go_simp
    go_wp2_with (go_at_call 27; refine (KS.out).mono ?_; rintro e W3 ⟨rfl, hw3⟩; obtain rfl := hw3)
    refine hK.out _ _ hS (fun hS2 => ?_)
    refine wpAnyH_take (i := 11) (v := (.int .i64 ((N : Int) - x))) rfl (by kernel_rfl) (by kernel_rfl) (by kernel_rfl) (fun _ _ _ h => h) (Or.inl ⟨by kernel_rfl, fun w' hw => by (go_simp)⟩) hS2 ?_
    refine wpAnyH_take (i := 12) (v := (.bool (decide (y ≤ (N : Int) - x)))) rfl (by kernel_rfl) (by kernel_rfl) (by kernel_rfl) (fun _ _ _ h => h) (Or.inl ⟨by kernel_rfl, fun w' hw => by (go_simp)⟩) hS2 ?_
    refine wpAnyH_take (i := 13) (v := (.bool (decide (y ≤ (N : Int) - x)))) rfl (by kernel_rfl) (by kernel_rfl) (by kernel_rfl) (fun _ _ _ h => h) (Or.inl ⟨by kernel_rfl, fun w' hw => by (go_simp)⟩) hS2 ?_
    refine wpAnyH_take (i := 14) (v := (.bool (decide (y ≤ (N : Int) - x)))) rfl (by kernel_rfl) (by kernel_rfl) (by kernel_rfl) (fun _ _ _ h => h) (Or.inl ⟨by kernel_rfl, fun w' hw => by (go_simp)⟩) hS2 ?_
    refine wpAnyH_done (by kernel_rfl) ?_ _
    simp only [Act.put, List.getElem_toArray, List.getElem_cons_zero, List.getElem_cons_succ, List.setIfInBounds_toArray, List.set_cons_zero, List.set_cons_succ]
    go_wp2_with (fail)
    go_ret
    exact ⟨rfl, HA.out.drew⟩
set_option maxRecDepth 100000 in
set_option maxHeartbeats 400000 in
/-- Steps in turn, each with its own contract. -/
theorem qturn_gen (h : DevL w b L σ) (hok : σ.Ok) (ho : σ.off = false) (at_ n : Nat) (hn : 1 ≤ n) (hlen : at_ + n ≤ 64 * σ.n) (rb k : Nat) (f : Nat → Nat) (a : Nat → Array Value) (P : Nat → World → Prop) (Q : Int → World → Prop)
    (hent : ∀ j, j < k → ∀ args W, (callFunc (f j) args).run Try.prog W = .ok (.enter (f j) args) W) (hk : k ≤ 1000)
    (hrow : ∀ j W, P j W → ∀ i, i < k → W.cell? ⟨rb, i, none⟩ = some (.func (.func (f i)) (a i) #[]))
    (hstep : ∀ j, j < k → ∀ W, P j W → Calls Try.prog (f j) (a j) W fun e W' => ∃ c : Int, e = .returned (.int .i64 c) ∧ (c = 0 → P (j + 1) W') ∧ (c ≠ 0 → Q c W'))
    (h0 : ∀ W, Below w.heap.size w W → P 0 W) (hend : ∀ W, P k W → Q 0 W) :
    Calls Try.prog 44 #[.agg #[.pointer (some ⟨b, 0, none⟩), .int .i64 (at_ : Int), .int .i64 (n : Int)], .slice (some ⟨rb, 0, none⟩) k k] w fun e w' => ∃ c : Int, e = .returned (.int .i64 c) ∧ Q c w' := by
  have hp := hok.pos
  have hm := hok.max
  have hA : Below w.heap.size w (w.alloc (.cells #[.pointer (some ⟨b, 0, none⟩), .int .i64 (at_ : Int), .int .i64 (n : Int)] 91)) := (Below.refl _ w).alloc (Nat.le_refl _) _
  have kl : Calls Try.prog 26 #[.pointer (some ⟨b, 0, none⟩), .int .i64 0, .int .i64 0] (w.alloc (.cells #[.pointer (some ⟨b, 0, none⟩), .int .i64 (at_ : Int), .int .i64 (n : Int)] 91)) fun e w' => ∃ R, e = .returned (.tuple #[.slice (some ⟨R, 0, none⟩) 0 0, .int .i64 0]) ∧ Below (w.alloc (.cells #[.pointer (some ⟨b, 0, none⟩), .int .i64 (at_ : Int), .int .i64 (n : Int)] 91)).heap.size (w.alloc (.cells #[.pointer (some ⟨b, 0, none⟩), .int .i64 (at_ : Int), .int .i64 (n : Int)] 91)) w' := by
    refine (callsIn_wide.1 (pload_in (at_ := 0) (n := 0) (h.below hA) hok ho (by omega))).mono ?_
    rintro e w' ⟨R, rfl, _, _, hb⟩
    exact ⟨R, rfl, hb⟩
  have ki : ∀ W, Below w.heap.size w W → Calls Try.prog 56 #[.agg #[.pointer (some ⟨b, 0, none⟩), .int .i64 (at_ : Int), .int .i64 (n : Int)]] W fun e w' => e = .returned (.bool true) ∧ Below W.heap.size W w' := fun W hB => by
    have k := qlies_any (h.below hB) hm (at_ : Int) (n : Int) (by omega) (by omega) (by omega)
    rw [show hasB σ (at_ : Int) (n : Int) = true by unfold hasB; simp; omega] at k
    exact k
  have nI : ¬ (n : Int) < 1 := by omega
  have KL := hide kl
  have KI := hide ki
  have HA := hide hA
  have HENT := hide hent
  have HROW := hide hrow
  have HSTEP := hide hstep
  have H0 := hide h0
  have HEND := hide hend
  have HKK := hide hk
  clear h hok ho hlen hn kl ki hA hent hrow hstep h0 hend hp hm hk
  go_enter Try.func44, Try.ntmps44
  go_wp2_with (first
    | (go_at_call 26; refine (KL.out).mono ?_; rintro e W1 ⟨R, rfl, hb1⟩; obtain ⟨s0, s1, s2⟩ := st3 ((hb1.block _ (by simp)).trans (heap_alloc_new w _)); have h1 := HA.out.trans (hb1.mono HA.out.size); have KI1 := hide (KI.out W1 h1); have HB1 := hide h1; clear hb1 h1)
    | (go_at_call 56; refine (KI1.out).mono ?_; rintro e W2 ⟨rfl, hb2⟩; have HB2 := hide (HB1.out.trans (hb2.mono HB1.out.size)); clear hb2))
  go_loopw [29] (fun iv wr => ∃ j : Nat, iv = .int .i64 (j : Int) ∧ j ≤ k ∧ P j wr) (fun iv _ => (k - (intOf iv).toNat))
  case atStart => exact ⟨0, rfl, Nat.zero_le _, H0.out _ HB2.out⟩
  case round =>
    obtain ⟨j, rfl, hj, hP⟩ := hrel
    have hk1 := HKK.out
    by_cases hlt : j < k
    · have jI : (j : Int) < (k : Int) := by omega
      have cj := HROW.out j wr hP j hlt
      have en := HENT.out j hlt
      have ks := HSTEP.out j hlt wr hP
      have KS := hide ks
      clear ks hP
      go_wp2_with (refine (KS.out).mono ?_; rintro e W3 ⟨c, rfl, hc0, hc1⟩; have HC0 := hide hc0; have HC1 := hide hc1; clear hc0 hc1)
      · rename_i hc
        go_ret
        exact ⟨c, rfl, HC1.out (by simpa using hc)⟩
      · rename_i hc
        exact ⟨⟨j + 1, int_congrP (by omega), by omega, HC0.out (by simpa using hc)⟩, by simp [intOf]; omega⟩
    · obtain rfl : j = k := by omega
      have HP := hide hP
      clear hP
      go_wp2
      go_ret
      exact ⟨0, rfl, HEND.out _ HP.out⟩
end
end Go.Proofs.Ytmljacjbpcgijaa
namespace Go.Proofs.Ytmljacjbpcgijaa
open Go.RowKit Go.Shelf
set_option linter.unusedVariables false

section
variable {w : World} {b : Nat} {L : Lay} {σ : St}
/-- No steps are taken: the device is none, or is off, or there are no bytes. -/
theorem qturn_early (p : Value) (c : Int) (x y : Int) (sl : Value) (kl : ∀ W, Below w.heap.size w W → Calls Try.prog 26 #[p, .int .i64 0, .int .i64 0] W fun e w' => ∃ v, e = .returned (.tuple #[v, .int .i64 c]) ∧ Below W.heap.size W w') (hc : c ≠ 0 ∨ y < 1) :
    Calls Try.prog 44 #[.agg #[p, .int .i64 x, .int .i64 y], sl] w fun e w' => e = .returned (.int .i64 c) ∧ Below w.heap.size w w' := by
  have hA : Below w.heap.size w (w.alloc (.cells #[p, .int .i64 x, .int .i64 y] 91)) := (Below.refl _ w).alloc (Nat.le_refl _) _
  have KL := hide (kl _ hA)
  have HA := hide hA
  clear kl hA
  by_cases h0 : c = 0
  · have h1 : y < 1 := by omega
    subst h0
    clear hc
    go_enter Try.func44, Try.ntmps44
    go_wp2_with (go_at_call 26; refine (KL.out).mono ?_; rintro e W1 ⟨v, rfl, hb1⟩; obtain ⟨s0, s1, s2⟩ := st3 ((hb1.block _ (by simp)).trans (heap_alloc_new w _)); have HB1 := hide (HA.out.trans (hb1.mono HA.out.size)); clear hb1)
    go_ret
    exact ⟨rfl, HB1.out⟩
  · have h1 : (c != 0) = true := by simpa using h0
    have HC := hide h0
    clear hc h0
    go_enter Try.func44, Try.ntmps44
    go_wp2_with (go_at_call 26; refine (KL.out).mono ?_; rintro e W1 ⟨v, rfl, hb1⟩; obtain ⟨s0, s1, s2⟩ := st3 ((hb1.block _ (by simp)).trans (heap_alloc_new w _)); have HB1 := hide (HA.out.trans (hb1.mono HA.out.size)); clear hb1)
    go_ret
    exact ⟨rfl, HB1.out⟩
/-- A device behind a step: what it is, where it lies. -/
def Atd (W0 : World) (b : Nat) (L : Lay) (σ : St) (W : World) (σ' : St) (m : Nat) : Prop :=
  Gr (Foot b L σ) W0 W ∧ ∃ L', DevL W b L' σ' ∧ (∀ k, Foot b L' σ' k → Foot b L σ k ∨ W0.heap.size ≤ k) ∧ L'.N ≤ L.N + m
theorem Atd.start {W0 W : World} (h : DevL W0 b L σ) (hB : Below W0.heap.size W0 W) : Atd W0 b L σ W σ 0 := ⟨Gr.of_below hB, L, h.below hB, fun k hk => .inl hk, by omega⟩
theorem Atd.go {W0 W W' : World} {L' : Lay} {σ' σ2 : St} {m m2 : Nat} (h : Gr (Foot b L σ) W0 W) (hf : ∀ k, Foot b L' σ' k → Foot b L σ k ∨ W0.heap.size ≤ k) (hN : L'.N ≤ L.N + m) {L2 : Lay} (hd : DevL W' b L2 σ2) (hf2 : ∀ k, Foot b L2 σ2 k → Foot b L' σ' k ∨ W.heap.size ≤ k) (hg : Gr (Foot b L' σ') W W') (hN2 : L2.N ≤ L'.N + m2) : Atd W0 b L σ W' σ2 (m + m2) :=
  ⟨h.trans hg hf, L2, hd, fun k hk => (hf2 k hk).elim (hf k) (fun h1 => .inr (Nat.le_trans h.size h1)), by omega⟩
theorem st4 {W : World} {g : Nat} {p v : Value} {x y : Int} {t : TypeId} (h : W.heap[g]? = some (.cells #[p, .int .i64 x, .int .i64 y, v] t (0, 0))) :
    W.cell? ⟨g, 0, none⟩ = some p ∧ W.cell? ⟨g, 1, none⟩ = some (.int .i64 x) ∧ W.cell? ⟨g, 2, none⟩ = some (.int .i64 y) ∧ W.cell? ⟨g, 3, none⟩ = some v := ⟨cell8 h 0, cell8 h 1, cell8 h 2, cell8 h 3⟩
theorem qtstore_any {a : Option Addr} {bs : List Nat} (at_ cap : Nat) (h : DevL w b L σ) (hok : σ.Ok) (ho : σ.off = false) (hN : L.N ≤ σ.ops) (harm : σ.arms = []) (hops : σ.ops + 600000 ≤ 1400000000000) (hsl : Sl w a bs) (hcap : bs.length ≤ cap) (hlen : at_ + bs.length ≤ 64 * σ.n) (haf : ∀ ad, a = some ad → ad.block < w.heap.size ∧ ¬ Foot b L σ ad.block) :
    Calls Try.prog 45 #[.agg #[.pointer (some ⟨b, 0, none⟩), .int .i64 (at_ : Int), .int .i64 (bs.length : Int), .slice a bs.length cap]] w fun e w' => e = .returned (.int .i64 0) ∧ ∃ L', DevL w' b L' (writeDo bs at_ σ (wordsOf at_ bs.length)) ∧ (∀ k, Foot b L' (writeDo bs at_ σ (wordsOf at_ bs.length)) k → Foot b L σ k ∨ w.heap.size ≤ k) ∧ Gr (Foot b L σ) w w' ∧ L'.N ≤ L.N + (wordsOf at_ bs.length).length := by
  have hA : Below w.heap.size w (w.alloc (.cells #[.pointer (some ⟨b, 0, none⟩), .int .i64 (at_ : Int), .int .i64 (bs.length : Int), .slice a bs.length cap] 94)) := (Below.refl _ w).alloc (Nat.le_refl _) _
  have ks := psto_any (a := a) (bs := bs) at_ cap (h.below hA) hok ho hN harm hops (hsl.below hA) hcap hlen (fun ad he => ⟨Nat.lt_of_lt_of_le (haf ad he).1 hA.size, (haf ad he).2⟩)
  have KS := hide ks
  have HA := hide hA
  clear h hok ho hN harm hops hsl hlen haf ks hA
  generalize bs.length = n at *
  go_enter Try.func45, Try.ntmps45
  go_wp2_with (go_at_call 57; refine (KS.out).mono ?_; rintro e W1 ⟨rfl, L5, hd5, hf5, hg5, hN5, _⟩; have HR := hide (And.intro hd5 (And.intro hf5 (And.intro hg5 hN5))); clear hd5 hf5 hg5 hN5)
  go_ret
  obtain ⟨h1, h2, h3, h4⟩ := HR.out
  exact ⟨rfl, L5, h1, fun k hk => (h2 k hk).imp id (fun h => Nat.le_trans HA.out.size h), (Gr.of_below HA.out).trans h3 (fun i h => .inl h), h4⟩
end
end Go.Proofs.Ytmljacjbpcgijaa
namespace Go.Proofs.Ytmljacjbpcgijaa
open Go.RowKit Go.Shelf
set_option linter.unusedVariables false

/-- What Bytes makes of a device. -/
def bytesDo (bs : List Nat) (at_ : Nat) (σ : St) : St := fenceDo (linesDo (writeDo bs at_ σ (wordsOf at_ bs.length)) (linesOf at_ bs.length))
theorem linesOf_len {at_ n : Nat} (h : at_ + n ≤ 4194304) : (linesOf at_ n).length ≤ 65537 := by
  unfold linesOf unitsV
  rw [List.length_map]
  split
  · simp
  · rw [upto_length]
    omega
theorem Atd.base {w W0 W : World} {b : Nat} {L : Lay} {σ σ' : St} {m : Nat} (h : Atd W0 b L σ W σ' m) (hB : Below w.heap.size w W0) : Atd w b L σ W σ' m := by
  obtain ⟨hg, L', hd, hf, hN⟩ := h
  exact ⟨(Gr.of_below hB).trans hg (fun i h => .inl h), L', hd, fun k hk => (hf k hk).imp id (fun h => Nat.le_trans hB.size h), hN⟩
section
variable {w : World} {b : Nat} {L : Lay} {σ : St}
/-- The three steps of Bytes. -/
def byF (j : Nat) : Nat := if j = 0 then 45 else if j = 1 then 46 else 47
def byA (b at_ n cap : Nat) (a : Option Addr) (j : Nat) : Array Value := if j = 0 then #[.agg #[.pointer (some ⟨b, 0, none⟩), .int .i64 (at_ : Int), .int .i64 (n : Int), .slice a n cap]] else if j = 1 then #[.agg #[.pointer (some ⟨b, 0, none⟩), .int .i64 (at_ : Int), .int .i64 (n : Int)]] else #[.pointer (some ⟨b, 0, none⟩)]
def byS (bs : List Nat) (at_ : Nat) (σ : St) (j : Nat) : St := if j = 0 then σ else if j = 1 then writeDo bs at_ σ (wordsOf at_ bs.length) else if j = 2 then linesDo (writeDo bs at_ σ (wordsOf at_ bs.length)) (linesOf at_ bs.length) else bytesDo bs at_ σ
def byM (at_ n j : Nat) : Nat := if j = 0 then 0 else if j = 1 then (wordsOf at_ n).length else (wordsOf at_ n).length + (linesOf at_ n).length
theorem three {j : Nat} (h : j < 3) : j = 0 ∨ j = 1 ∨ j = 2 := by omega
set_option maxRecDepth 100000 in
set_option maxHeartbeats 400000 in
theorem qbytes_turn {a : Option Addr} {bs : List Nat} (at_ cap rb : Nat) (W0 : World) (hB0 : Below w.heap.size w W0) (h : DevL w b L σ) (hok : σ.Ok) (ho : σ.off = false) (hN : L.N ≤ σ.ops) (harm : σ.arms = []) (hops : σ.ops + 2000000 ≤ 1400000000000) (hsl : Sl w a bs) (hcap : bs.length ≤ cap) (hn : 1 ≤ bs.length) (hlen : at_ + bs.length ≤ 64 * σ.n) (haf : ∀ ad, a = some ad → ad.block < w.heap.size ∧ ¬ Foot b L σ ad.block)
    (hrb : w.heap.size ≤ rb) (hrow : W0.heap[rb]? = some (.cells #[.func (.func (byF 0)) (byA b at_ bs.length cap a 0) #[], .func (.func (byF 1)) (byA b at_ bs.length cap a 1) #[], .func (.func (byF 2)) (byA b at_ bs.length cap a 2) #[]] 108 (0, 0))) :
    Calls Try.prog 44 #[.agg #[.pointer (some ⟨b, 0, none⟩), .int .i64 (at_ : Int), .int .i64 (bs.length : Int)], .slice (some ⟨rb, 0, none⟩) 3 3] W0 fun e w' => e = .returned (.int .i64 0) ∧ Atd W0 b L σ w' (bytesDo bs at_ σ) ((wordsOf at_ bs.length).length + (linesOf at_ bs.length).length) := by
  have hm := hok.max
  have hlen2 : at_ + bs.length ≤ 4194304 := by omega
  have hwl := wordsOf_len hlen2
  have hll := linesOf_len hlen2
  have hlk := write_like (at_ := at_) hsl.lt (wordsOf at_ bs.length) σ hok (wordsOf_lt hlen hm) (by omega)
  obtain ⟨j1, j2, j3, j4, j5, _⟩ := lines_like (linesOf at_ bs.length) (writeDo bs at_ σ (wordsOf at_ bs.length)) hlk.ok (by rw [hlk.ops]; omega)
  rw [hlk.ops] at j3
  have hd0 := h.below hB0
  have hnf : ¬ Foot b L σ rb := fun hf => by have := h.foot_is hf; omega
  have hrl := lt_of_heap hrow
  refine (qturn_gen hd0 hok ho at_ bs.length hn hlen rb 3 byF (byA b at_ bs.length cap a) (fun j W => Atd W0 b L σ W (byS bs at_ σ j) (byM at_ bs.length j)) (fun c W => c = 0 ∧ Atd W0 b L σ W (bytesDo bs at_ σ) ((wordsOf at_ bs.length).length + (linesOf at_ bs.length).length)) (fun j hj => ?_) (by omega) (fun j W hP i hi => ?_) (fun j hj W hP => ?_) (fun W hB => Atd.start hd0 hB) (fun W hP => ⟨rfl, hP⟩)).mono ?_
  · obtain rfl | rfl | rfl := three hj
    · exact enters_of Try.func45 (by kernel_rfl) rfl
    · exact enters_of Try.func46 (by kernel_rfl) rfl
    · exact enters_of Try.func47 (by kernel_rfl) rfl
  · have hr := (hP.1.block hrl hnf).trans hrow
    obtain rfl | rfl | rfl := three hi
    · exact cell8 hr 0
    · exact cell8 hr 1
    · exact cell8 hr 2
  · obtain ⟨hg, L', hd, hf, hN'⟩ := hP
    obtain rfl | rfl | rfl := three hj
    · refine (qtstore_any at_ cap hd hok ho (show L'.N ≤ σ.ops by have : L'.N ≤ L.N + 0 := hN'; omega) harm (by show σ.ops + _ ≤ _; omega) (hg.sl (hsl.below hB0) (fun ad he => (haf ad he).2)) hcap hlen (fun ad he => ?_)).mono ?_
      · obtain ⟨h1, h2⟩ := haf ad he
        refine ⟨Nat.lt_of_lt_of_le h1 (Nat.le_trans hB0.size hg.size), fun hF => ?_⟩
        rcases hf _ hF with h3 | h3
        · exact h2 h3
        · have := hB0.size; omega
      · rintro e W' ⟨rfl, L2, h1, h2, h3, h4⟩
        exact ⟨0, rfl, fun _ => by have h5 := Atd.go hg hf hN' h1 h2 h3 h4; exact ⟨h5.1, by obtain ⟨L5, q1, q2, q3⟩ := h5.2; exact ⟨L5, q1, q2, by show L5.N ≤ L.N + (wordsOf at_ bs.length).length; have : L5.N ≤ L.N + (0 + (wordsOf at_ bs.length).length) := q3; omega⟩⟩, fun h => absurd rfl h⟩
    · have hN2 : L'.N ≤ L.N + (wordsOf at_ bs.length).length := hN'
      have hd2 : DevL W b L' (writeDo bs at_ σ (wordsOf at_ bs.length)) := hd
      refine (callsIn_wide.1 (qflush_in (at_ := at_) (n := bs.length) hd2 hlk.ok (hlk.off.trans ho) (by rw [hlk.ops]; omega) (hlk.arms.trans harm) (by rw [hlk.n]; exact hlen) (by rw [hlk.ops]; omega))).mono ?_
      rintro e W' ⟨rfl, L2, h1, h2, h3, h4, _⟩
      exact ⟨0, rfl, fun _ => Atd.go hg hf hN' h1 (fun k hk => .inl (h2 k hk)) h3 h4, fun h => absurd rfl h⟩
    · have hd2 : DevL W b L' (linesDo (writeDo bs at_ σ (wordsOf at_ bs.length)) (linesOf at_ bs.length)) := hd
      refine (pfence_any hd2 j1 (j5.trans (hlk.off.trans ho)) (j4.trans (hlk.arms.trans harm)) (by rw [j3]; omega)).mono ?_
      rintro e W' ⟨rfl, L2, h1, h2, h3, h4⟩
      exact ⟨0, rfl, fun _ => Atd.go (m2 := 0) hg hf hN' h1 h2 h3 (by omega), fun h => absurd rfl h⟩
  · rintro e w' ⟨c, rfl, rfl, hA⟩
    exact ⟨rfl, hA⟩
set_option maxRecDepth 100000 in
set_option maxHeartbeats 400000 in
theorem qbytes_any {a : Option Addr} {bs : List Nat} (at_ cap : Nat) (h : DevL w b L σ) (hok : σ.Ok) (ho : σ.off = false) (hN : L.N ≤ σ.ops) (harm : σ.arms = []) (hops : σ.ops + 2000000 ≤ 1400000000000) (hsl : Sl w a bs) (hcap : bs.length ≤ cap) (hn : 1 ≤ bs.length) (hlen : at_ + bs.length ≤ 64 * σ.n) (haf : ∀ ad, a = some ad → ad.block < w.heap.size ∧ ¬ Foot b L σ ad.block) :
    Calls Try.prog 29 #[.pointer (some ⟨b, 0, none⟩), .int .i64 (at_ : Int), .slice a bs.length cap] w fun e w' => e = .returned (.int .i64 0) ∧ Atd w b L σ w' (bytesDo bs at_ σ) ((wordsOf at_ bs.length).length + (linesOf at_ bs.length).length) := by
  obtain ⟨W0, hW0⟩ : ∃ W0, (w.alloc (.cells #[.pointer (some ⟨b, 0, none⟩), .int .i64 (at_ : Int), .int .i64 (bs.length : Int)] 91)).alloc (.cells #[.func (.func 45) #[.agg #[.pointer (some ⟨b, 0, none⟩), .int .i64 (at_ : Int), .int .i64 (bs.length : Int), .slice a bs.length cap]] #[], .func (.func 46) #[.agg #[.pointer (some ⟨b, 0, none⟩), .int .i64 (at_ : Int), .int .i64 (bs.length : Int)]] #[], .func (.func 47) #[.pointer (some ⟨b, 0, none⟩)] #[]] 108) = W0 := ⟨_, rfl⟩
  have hB0 : Below w.heap.size w W0 := by rw [← hW0]; exact ((Below.refl _ w).alloc (Nat.le_refl _) _).alloc (by simp) _
  have hrow : W0.heap[w.heap.size + 1]? = some (.cells #[.func (.func (byF 0)) (byA b at_ bs.length cap a 0) #[], .func (.func (byF 1)) (byA b at_ bs.length cap a 1) #[], .func (.func (byF 2)) (byA b at_ bs.length cap a 2) #[]] 108 (0, 0)) := by
    rw [← hW0]
    have := heap_alloc_new (w.alloc (.cells #[.pointer (some ⟨b, 0, none⟩), .int .i64 (at_ : Int), .int .i64 (bs.length : Int)] 91)) (.cells #[.func (.func 45) #[.agg #[.pointer (some ⟨b, 0, none⟩), .int .i64 (at_ : Int), .int .i64 (bs.length : Int), .slice a bs.length cap]] #[], .func (.func 46) #[.agg #[.pointer (some ⟨b, 0, none⟩), .int .i64 (at_ : Int), .int .i64 (bs.length : Int)]] #[], .func (.func 47) #[.pointer (some ⟨b, 0, none⟩)] #[]] 108)
    rw [World.size_alloc] at this
    exact this
  have kt := qbytes_turn at_ cap (w.heap.size + 1) W0 hB0 h hok ho hN harm hops hsl hcap hn hlen haf (by omega) hrow
  rw [← hW0] at kt
  have KT := hide kt
  have HB0 := hide hB0
  have HW0 := hide hW0
  clear h hok ho hN harm hops hsl hn hlen haf kt hB0 hrow hcap hW0
  generalize bs.length = n at *
  go_enter Try.func29, Try.ntmps29
  go_wp2_with (go_at_call 44; refine (KT.out).mono ?_; rintro e W1 ⟨rfl, hA⟩; have HAT := hide hA; clear hA)
  go_ret
  refine ⟨rfl, ?_⟩
  have h5 := HAT.out
  rw [HW0.out] at h5
  exact h5.base HB0.out
end
end Go.Proofs.Ytmljacjbpcgijaa
namespace Go.Proofs.Ytmljacjbpcgijaa
open Go.RowKit Go.Shelf
set_option linter.unusedVariables false

section
variable {w : World} {b : Nat} {L : Lay} {σ : St}
def wbA (b at_ v : Nat) (j : Nat) : Array Value := if j = 0 then #[.agg #[.pointer (some ⟨b, 0, none⟩), .int .i64 (at_ : Int), .int .i64 8, .int .u64 (v : Int)]] else if j = 1 then #[.agg #[.pointer (some ⟨b, 0, none⟩), .int .i64 (at_ : Int), .int .i64 8]] else #[.pointer (some ⟨b, 0, none⟩)]
def wbS (v at_ : Nat) (σ : St) (j : Nat) : St := if j = 0 then σ else if j = 1 then writeDo (leB 8 v) at_ σ (wordsOf at_ 8) else if j = 2 then linesDo (writeDo (leB 8 v) at_ σ (wordsOf at_ 8)) (linesOf at_ 8) else bytesDo (leB 8 v) at_ σ
def wbM (at_ n j : Nat) : Nat := if j = 0 then 0 else if j = 1 then (wordsOf at_ n).length else (wordsOf at_ n).length + (linesOf at_ n).length
end
end Go.Proofs.Ytmljacjbpcgijaa
namespace Go.Proofs.Ytmljacjbpcgijaa
open Go.RowKit Go.Shelf
set_option linter.unusedVariables false

theorem infoArm : ∃ i, Try.prog.info? 35 = some i ∧ i.zero = some (.agg #[.int .i64 0, .slice none 0 0]) ∧ i.size = 2 := by
  have h : (Try.prog.info? 35).map (fun i => (i.zero, i.size)) = some (some (.agg #[.int .i64 0, .slice none 0 0]), 2) := by kernel_rfl
  obtain ⟨i, h1, h2⟩ := Option.map_eq_some_iff.1 h
  simp only [Prod.mk.injEq] at h2
  exact ⟨i, h1, h2.1, h2.2⟩
theorem armSlice : Try.prog.underlying 55 = some (.slice 35) := by kernel_rfl
theorem cut_front (g cap : Nat) (w : World) : (Instr.sliceAt 55 (.slice (some ⟨g, 0, none⟩) 1 cap) none (some (.int .i64 0)) none).run Try.prog w = .ok (.slice (some ⟨g, 0, none⟩) 0 cap) w := by
  obtain ⟨i, h1, h2, h3⟩ := infoArm
  simp [Instr.sliceAt, Instr.slice, Sem.run_bind, run_underlying armSlice, Instr.sliceBounds, Instr.sliceBound, asIntOf, sizeOf, typeInfo, h1, Addr.add_mid]
theorem cut_back (g cap : Nat) (hc : 1 ≤ cap) : ∃ ad : Addr, ∀ w : World, (Instr.sliceAt 55 (.slice (some ⟨g, 0, none⟩) 1 cap) (some (.int .i64 1)) none none).run Try.prog w = .ok (.slice (some ad) 0 (cap - 1)) w := by
  obtain ⟨i, h1, h2, h3⟩ := infoArm
  by_cases h : cap = 1
  · subst h
    refine ⟨⟨g, 0, none⟩, fun w => ?_⟩
    simp [Instr.sliceAt, Instr.slice, Sem.run_bind, run_underlying armSlice, Instr.sliceBounds, Instr.sliceBound, asIntOf, sizeOf, typeInfo, h1, Addr.add_mid]
  · refine ⟨⟨g, 2, none⟩, fun w => ?_⟩
    simp [Instr.sliceAt, Instr.slice, Sem.run_bind, run_underlying armSlice, Instr.sliceBounds, Instr.sliceBound, asIntOf, sizeOf, typeInfo, h1, h3, Addr.add_mid, h]
theorem app_none (g cap : Nat) (ad : Addr) (ty : TypeId) (w : World) : (Builtin.append_ #[55, 55] ty #[.slice (some ⟨g, 0, none⟩) 0 cap, .slice (some ad) 0 (cap - 1)]).run Try.prog w = .ok (.slice (some ⟨g, 0, none⟩) 0 cap) w := by
  obtain ⟨i, h1, h2, h3⟩ := infoArm
  have h := run_append_room_cells (P := Try.prog) w 55 ty 35 i armSlice h1 g 0 0 cap ad 0 (cap - 1) [] (by simp) (by simp) (by simp) (by omega) (by simp) (by simp)
  exact h
theorem clear_one (g cap : Nat) (ty : TypeId) (w : World) (cur : Array Value) (hg : w.heap[g]? = some (.cells cur 35 (0, 0))) (hs : 2 ≤ cur.size) : (Builtin.clear_ #[55] ty #[.slice (some ⟨g, 0, none⟩) 1 cap]).run Try.prog w = .ok (.tuple #[]) (w.setCells g 0 [.int .i64 0, .slice none 0 0]) := by
  obtain ⟨i, h1, h2, h3⟩ := infoArm
  have hz : ∀ w : World, (zeroValue 35).run Try.prog w = .ok (.agg #[.int .i64 0, .slice none 0 0]) w := fun w => by simp [zeroValue, typeInfo, h1, h2]
  have hst := run_storeCells_cells (P := Try.prog) g 0 [.int .i64 0, .slice none 0 0] 0 w (fun j hj => by rw [Nat.zero_add, cell8 hg, Array.getElem?_eq_getElem (by simp at hj; omega)]; rfl) (fun j hj => froz8 hg _) (by simp [Value.oneCell'])
  have e : (Builtin.zeroCells (Value.agg #[Value.int .i64 0, Value.slice none 0 0]).cells 1).toList = [Value.int .i64 0, Value.slice none 0 0] := by kernel_rfl
  have hst' : (storeCells ⟨g, 0, none⟩ [Value.int .i64 0, Value.slice none 0 0]).run Try.prog w = .ok () (w.setCells g 0 [.int .i64 0, .slice none 0 0]) := by simpa using hst
  simp [Builtin.clear_, run_underlying armSlice, hz, e, hst']
set_option maxHeartbeats 400000 in
theorem pdel_one (w : World) (g cap : Nat) (cur : Array Value) (hg : w.heap[g]? = some (.cells cur 35 (0, 0))) (hc : 1 ≤ cap) (hs : 2 ≤ cur.size) :
    Calls Try.prog 67 #[.slice (some ⟨g, 0, none⟩) 1 cap, .int .i64 0, .int .i64 1] w fun e w' => e = .returned (.slice (some ⟨g, 0, none⟩) 0 cap) ∧ Gr (fun k => k = g) w w' ∧ ∃ cur' : Array Value, w'.heap[g]? = some (.cells cur' 35 (0, 0)) ∧ cur'.size = cur.size := by
  obtain ⟨ad, e2⟩ := cut_back g cap hc
  have e1 := fun W => cut_front g cap W
  have e3 := fun W => app_none g cap ad 55 W
  have e4 := clear_one g cap 0 w.drew cur hg hs
  have fin : Gr (fun k => k = g) w (w.drew.setCells g 0 [.int .i64 0, .slice none 0 0]) ∧ ∃ cur' : Array Value, (w.drew.setCells g 0 [.int .i64 0, .slice none 0 0]).heap[g]? = some (.cells cur' 35 (0, 0)) ∧ cur'.size = cur.size := by
    refine ⟨Gr.setCells w.drew g _ _ rfl, ?_⟩
    have h1 : w.drew.heap[g]? = some (.cells cur.toList.toArray 35 (0, 0)) := by show w.heap[g]? = _; simpa using hg
    have h5 := heap_setCells g 35 [.int .i64 0, .slice none 0 0] 0 w.drew cur.toList h1 (by simp; omega)
    refine ⟨_, h5, ?_⟩
    rw [List.size_toArray, length_splice _ _ _ (by simp; omega)]
    simp
  have FIN := hide fin
  clear fin hg hs
  go_enter Try.func67, Try.ntmps67
  go_wp2_with (fail)
  refine wp_region_held_drew (S := fun _ => True) (by kernel_rfl) trivial (fun hS => ?_)
  refine wpAnyH_take (i := 0) (v := (.slice (some ⟨g, 0, none⟩) 1 cap)) rfl (by kernel_rfl) (by kernel_rfl) (by kernel_rfl) (fun _ _ _ h => h) (Or.inl ⟨by kernel_rfl, fun w' hw => by (go_simp)⟩) hS ?_
  refine wpAnyH_take (i := 1) (v := (.int .i64 0)) rfl (by kernel_rfl) (by kernel_rfl) (by kernel_rfl) (fun _ _ _ h => h) (Or.inl ⟨by kernel_rfl, fun w' hw => by (go_simp)⟩) hS ?_
  refine wpAnyH_take (i := 2) (v := (.slice (some ⟨g, 0, none⟩) 0 cap)) rfl (by kernel_rfl) (by kernel_rfl) (by kernel_rfl) (fun _ _ _ h => h) (Or.inl ⟨by kernel_rfl, fun w' hw => by (have e := e1 w'; go_simp)⟩) hS ?_
  refine wpAnyH_take (i := 3) (v := (.slice (some ⟨g, 0, none⟩) 1 cap)) rfl (by kernel_rfl) (by kernel_rfl) (by kernel_rfl) (fun _ _ _ h => h) (Or.inl ⟨by kernel_rfl, fun w' hw => by (go_simp)⟩) hS ?_
  refine wpAnyH_take (i := 4) (v := (.int .i64 1)) rfl (by kernel_rfl) (by kernel_rfl) (by kernel_rfl) (fun _ _ _ h => h) (Or.inl ⟨by kernel_rfl, fun w' hw => by (go_simp)⟩) hS ?_
  refine wpAnyH_take (i := 5) (v := (.slice (some ad) 0 (cap - 1))) rfl (by kernel_rfl) (by kernel_rfl) (by kernel_rfl) (fun _ _ _ h => h) (Or.inl ⟨by kernel_rfl, fun w' hw => by (have e := e2 w'; go_simp)⟩) hS ?_
  refine wpAnyH_take (i := 6) (v := (.slice (some ⟨g, 0, none⟩) 0 cap)) rfl (by kernel_rfl) (by kernel_rfl) (by kernel_rfl) (fun _ _ _ h => h) (Or.inl ⟨by kernel_rfl, fun w' hw => by (have e := e3 w'; go_simp)⟩) hS ?_
  refine wpAnyH_take (i := 7) (v := (.slice (some ⟨g, 0, none⟩) 0 cap)) rfl (by kernel_rfl) (by kernel_rfl) (by kernel_rfl) (fun _ _ _ h => h) (Or.inl ⟨by kernel_rfl, fun w' hw => by (go_simp)⟩) hS ?_
  refine wpAnyH_done (by kernel_rfl) ?_ _
  simp only [Act.put, List.getElem_toArray, List.getElem_cons_zero, List.getElem_cons_succ, List.setIfInBounds_toArray, List.set_cons_zero, List.set_cons_succ]
  go_wp2_with (fail)
  go_ret
  exact ⟨rfl, FIN.out⟩
end Go.Proofs.Ytmljacjbpcgijaa
namespace Go.Proofs.Ytmljacjbpcgijaa
open Go.RowKit Go.Shelf
set_option linter.unusedVariables false

section
variable {w : World} {b : Nat} {L : Lay} {σ : St}
/-- Where the first loss that waits lies. -/
theorem arm_first {af : Nat} {kp : List Nat} {rest : List (Nat × List Nat)} (h : DevL w b L σ) (harm : σ.arms = (af, kp) :: rest) :
    ∃ g cap kv, L.av = .slice (some ⟨g, 0, none⟩) σ.arms.length cap ∧ 0 < σ.arms.length ∧ ∃ cur : Array Value, w.heap[g]? = some (.cells cur 35 (0, 0)) ∧ cur[0]? = some (.int .i64 (af : Int)) ∧ cur[1]? = some kv ∧ KeepAt w L.KB kv kp := by
  obtain ⟨ks, hl, ho, hk⟩ := h.arms
  rw [harm] at hl ho hk
  rw [harm]
  match ks, hl with
  | k0 :: ks', hl =>
    rcases ho.2 with ⟨e, h0⟩ | ⟨g, cap, cur, e, h1, h2, h3, h4, h5, h6⟩
    · simp at h0
    · refine ⟨g, cap, k0, e, by simp, cur, h2, ?_, ?_, hk 0 k0 (af, kp) rfl rfl⟩
      · have h7 : (cur.toList.take (((af, kp) :: rest).length * 2))[0]? = some (.int .i64 (af : Int)) := by rw [h6]; rfl
        rw [List.getElem?_take, if_pos (by simp)] at h7
        simpa using h7
      · have h7 : (cur.toList.take (((af, kp) :: rest).length * 2))[1]? = some k0 := by rw [h6]; rfl
        rw [List.getElem?_take, if_pos (by simp; omega)] at h7
        simpa using h7
theorem index_arm (g len cap : Nat) (hi : 0 < len) (w : World) : (Instr.indexAt 55 (.slice (some ⟨g, 0, none⟩) len cap) (.int .i64 0)).run Try.prog w = .ok (.pointer (some ⟨g, 0, none⟩)) w := by
  have h := index_at (t := 55) (e := 35) (sz := 2) armSlice (by kernel_rfl) g 0 0 len cap hi w
  rwa [Nat.zero_add, Nat.zero_mul] at h
set_option maxRecDepth 100000 in
set_option maxHeartbeats 400000 in
/-- One operation more; the loss still waits. -/
theorem poper_wait {af : Nat} {kp : List Nat} (h : DevL w b L σ) (hops : σ.ops < 1400000000000) (harm : σ.arms = [(af, kp)]) (hc : σ.cnt + 1 < af) (hcn : σ.cnt < 1400000000000) :
    Calls Try.prog 60 #[.pointer (some ⟨b, 0, none⟩)] w fun e w' => e = .returned (.int .i64 0) ∧ DevL w' b L { σ with ops := σ.ops + 1, cnt := σ.cnt + 1 } ∧ Gr (fun k => k = b) w w' := by
  obtain ⟨g, cap, kv, hav, hn1, cur, hgc, hc0, hc1, hke⟩ := arm_first (rest := []) h harm
  have hal : σ.arms.length = 1 := by rw [harm]; rfl
  rw [hal] at hav hn1
  have hgb : g ≠ b := ne_ty hgc h.dev (by decide)
  have c4 := h.c4
  have c5 := h.c5
  rw [hav] at c5
  have c6 := h.c6
  have f4 := h.fz 4
  have f6 := h.fz 6
  have f5 := h.fz 5
  have hb1 : (w.setCell ⟨b, 4, none⟩ (.int .i64 ((σ.ops : Int) + 1))).heap[b]? = _ := heap_set1 w b 4 _ _ _ h.dev
  have d5 : (w.setCell ⟨b, 4, none⟩ (.int .i64 ((σ.ops : Int) + 1))).cell? ⟨b, 5, none⟩ = some (.slice (some ⟨g, 0, none⟩) 1 cap) := by rw [cell8 hb1, ← hav]; rfl
  have d6 : (w.setCell ⟨b, 4, none⟩ (.int .i64 ((σ.ops : Int) + 1))).cell? ⟨b, 6, none⟩ = some (.int .i64 (σ.cnt : Int)) := by rw [cell8 hb1]; rfl
  have g6 : (w.setCell ⟨b, 4, none⟩ (.int .i64 ((σ.ops : Int) + 1))).frozen? ⟨b, 6, none⟩ = false := froz8 hb1 6
  have hb2 := heap_set1 (w.setCell ⟨b, 4, none⟩ (.int .i64 ((σ.ops : Int) + 1))) b 6 _ _ (.int .i64 ((σ.cnt : Int) + 1)) hb1
  have i5 : ((w.setCell ⟨b, 4, none⟩ (.int .i64 ((σ.ops : Int) + 1))).setCell ⟨b, 6, none⟩ (.int .i64 ((σ.cnt : Int) + 1))).cell? ⟨b, 5, none⟩ = some (.slice (some ⟨g, 0, none⟩) 1 cap) := by rw [cell8 hb2, ← hav]; rfl
  have hg2 : ((w.setCell ⟨b, 4, none⟩ (.int .i64 ((σ.ops : Int) + 1))).setCell ⟨b, 6, none⟩ (.int .i64 ((σ.cnt : Int) + 1))).heap[g]? = some (.cells cur 35 (0, 0)) := ((heap_set_ne _ b 6 g _ hgb).trans (heap_set_ne w b 4 g _ hgb)).trans hgc
  have j0 : ((w.setCell ⟨b, 4, none⟩ (.int .i64 ((σ.ops : Int) + 1))).setCell ⟨b, 6, none⟩ (.int .i64 ((σ.cnt : Int) + 1))).cell? ⟨g, 0, none⟩ = some (.int .i64 (af : Int)) := (cell8 hg2 0).trans hc0
  have j1 : ((w.setCell ⟨b, 4, none⟩ (.int .i64 ((σ.ops : Int) + 1))).setCell ⟨b, 6, none⟩ (.int .i64 ((σ.cnt : Int) + 1))).cell? ⟨g, 1, none⟩ = some kv := (cell8 hg2 1).trans hc1
  have hsz : ((w.setCell ⟨b, 4, none⟩ (.int .i64 ((σ.ops : Int) + 1))).setCell ⟨b, 6, none⟩ (.int .i64 ((σ.cnt : Int) + 1))).heap.size = w.heap.size := by simp
  have hAX : Below ((w.setCell ⟨b, 4, none⟩ (.int .i64 ((σ.ops : Int) + 1))).setCell ⟨b, 6, none⟩ (.int .i64 ((σ.cnt : Int) + 1))).heap.size ((w.setCell ⟨b, 4, none⟩ (.int .i64 ((σ.ops : Int) + 1))).setCell ⟨b, 6, none⟩ (.int .i64 ((σ.cnt : Int) + 1))) (((w.setCell ⟨b, 4, none⟩ (.int .i64 ((σ.ops : Int) + 1))).setCell ⟨b, 6, none⟩ (.int .i64 ((σ.cnt : Int) + 1))).alloc (.cells #[.int .i64 (af : Int), kv] 35)) := (Below.refl _ _).alloc (Nat.le_refl _) _
  have hbX : (((w.setCell ⟨b, 4, none⟩ (.int .i64 ((σ.ops : Int) + 1))).setCell ⟨b, 6, none⟩ (.int .i64 ((σ.cnt : Int) + 1))).alloc (.cells #[.int .i64 (af : Int), kv] 35)).heap[b]? = _ := (hAX.block b (by rw [hsz]; exact h.lt)).trans hb2
  have hgX : (((w.setCell ⟨b, 4, none⟩ (.int .i64 ((σ.ops : Int) + 1))).setCell ⟨b, 6, none⟩ (.int .i64 ((σ.cnt : Int) + 1))).alloc (.cells #[.int .i64 (af : Int), kv] 35)).heap[g]? = some (.cells cur 35 (0, 0)) := (hAX.block g (by rw [hsz]; exact lt_of_heap hgc)).trans hg2
  have hfX : (((w.setCell ⟨b, 4, none⟩ (.int .i64 ((σ.ops : Int) + 1))).setCell ⟨b, 6, none⟩ (.int .i64 ((σ.cnt : Int) + 1))).alloc (.cells #[.int .i64 (af : Int), kv] 35)).heap[w.heap.size]? = some (.cells #[.int .i64 (af : Int), kv] 35 (0, 0)) := by
    have := heap_alloc_new ((w.setCell ⟨b, 4, none⟩ (.int .i64 ((σ.ops : Int) + 1))).setCell ⟨b, 6, none⟩ (.int .i64 ((σ.cnt : Int) + 1))) (.cells #[.int .i64 (af : Int), kv] 35)
    rwa [hsz] at this
  have sx : (((w.setCell ⟨b, 4, none⟩ (.int .i64 ((σ.ops : Int) + 1))).setCell ⟨b, 6, none⟩ (.int .i64 ((σ.cnt : Int) + 1))).alloc (.cells #[.int .i64 (af : Int), kv] 35)).drew.cell? ⟨b, 6, none⟩ = some (.int .i64 ((σ.cnt : Int) + 1)) ∧ (((w.setCell ⟨b, 4, none⟩ (.int .i64 ((σ.ops : Int) + 1))).setCell ⟨b, 6, none⟩ (.int .i64 ((σ.cnt : Int) + 1))).alloc (.cells #[.int .i64 (af : Int), kv] 35)).drew.cell? ⟨w.heap.size, 0, none⟩ = some (.int .i64 (af : Int)) := ⟨by rw [cell8 (w := (((w.setCell ⟨b, 4, none⟩ (.int .i64 ((σ.ops : Int) + 1))).setCell ⟨b, 6, none⟩ (.int .i64 ((σ.cnt : Int) + 1))).alloc (.cells #[.int .i64 (af : Int), kv] 35)).drew) hbX]; rfl, cell8 (w := (((w.setCell ⟨b, 4, none⟩ (.int .i64 ((σ.ops : Int) + 1))).setCell ⟨b, 6, none⟩ (.int .i64 ((σ.cnt : Int) + 1))).alloc (.cells #[.int .i64 (af : Int), kv] 35)).drew) hfX 0⟩
  have SX := hide sx
  have ix := fun Y => index_arm g 1 cap hn1 Y
  obtain ⟨kp0, kl0, kc0, hkv⟩ : ∃ p l c, kv = .slice p l c := by obtain ⟨p, c, e, _⟩ := hke; exact ⟨p, _, c, e⟩
  have hre : DevL (((w.setCell ⟨b, 4, none⟩ (.int .i64 ((σ.ops : Int) + 1))).setCell ⟨b, 6, none⟩ (.int .i64 ((σ.cnt : Int) + 1))).alloc (.cells #[.int .i64 (af : Int), kv] 35)).drew b L { σ with ops := σ.ops + 1, cnt := σ.cnt + 1 } := h.re (ops := σ.ops + 1) (cnt := σ.cnt + 1) (off := σ.off) (by show (((w.setCell ⟨b, 4, none⟩ (.int .i64 ((σ.ops : Int) + 1))).setCell ⟨b, 6, none⟩ (.int .i64 ((σ.cnt : Int) + 1))).alloc (.cells #[.int .i64 (af : Int), kv] 35)).heap[b]? = _; rw [hbX]; rfl) (fun k hk hlt => (hAX.block k (by rw [hsz]; exact hlt)).trans ((heap_set_ne _ b 6 k _ hk).trans (heap_set_ne w b 4 k _ hk)))
  have hgr : Gr (fun k => k = b) w (((w.setCell ⟨b, 4, none⟩ (.int .i64 ((σ.ops : Int) + 1))).setCell ⟨b, 6, none⟩ (.int .i64 ((σ.cnt : Int) + 1))).alloc (.cells #[.int .i64 (af : Int), kv] 35)).drew := ((Gr.set w b 4 _ (X := fun k => k = b) rfl).trans (Gr.set _ b 6 _ (X := fun k => k = b) rfl) (fun i h => .inl h)).trans (Gr.of_below hAX : Gr (fun k => k = b) _ (((w.setCell ⟨b, 4, none⟩ (.int .i64 ((σ.ops : Int) + 1))).setCell ⟨b, 6, none⟩ (.int .i64 ((σ.cnt : Int) + 1))).alloc (.cells #[.int .i64 (af : Int), kv] 35))) (fun i h => .inl h)
  have HR := hide hre
  have HG := hide hgr
  have opI : (σ.ops : Int) < 1400000000000 := by omega
  have cnI : (σ.cnt : Int) + 1 < (af : Int) := by omega
  have ncI : (σ.cnt : Int) < 1400000000000 := by omega
  subst hkv
  clear h harm hre hgr hke hgc hc0 hc1 hbX hgX hfX sx hAX hsz hb1 hb2 hg2 hops hc hcn hav hgb f5 hn1 hal
  generalize σ.ops = no at *
  generalize σ.cnt = nc at *
  go_enter Try.func60, Try.ntmps60
  go_wp2_with (fail)
  refine wp_region_held_drew (S := fun Y => Y.cell? ⟨b, 6, none⟩ = some (.int .i64 ((nc : Int) + 1)) ∧ Y.cell? ⟨w.heap.size, 0, none⟩ = some (.int .i64 (af : Int))) (by kernel_rfl) SX.out (fun hS => ?_)
  refine wpAnyH_take (i := 0) (v := (.pointer (some ⟨b, 0, none⟩))) rfl (by kernel_rfl) (by kernel_rfl) (by kernel_rfl) (fun _ _ _ h => h) (Or.inl ⟨by kernel_rfl, fun w' hw => by (go_simp)⟩) hS ?_
  refine wpAnyH_take (i := 1) (v := (.pointer (some ⟨b, 0, none⟩))) rfl (by kernel_rfl) (by kernel_rfl) (by kernel_rfl) (fun _ _ _ h => h) (Or.inl ⟨by kernel_rfl, fun w' hw => by (go_simp)⟩) hS ?_
  refine wpAnyH_take (i := 2) (v := (.pointer (some ⟨b, 6, none⟩))) rfl (by kernel_rfl) (by kernel_rfl) (by kernel_rfl) (fun _ _ _ h => h) (Or.inl ⟨by kernel_rfl, fun w' hw => by (go_simp)⟩) hS ?_
  refine wpAnyH_take (i := 3) (v := (.int .i64 ((nc : Int) + 1))) rfl (by kernel_rfl) (by kernel_rfl) (by kernel_rfl) (fun _ _ _ h => h) (Or.inl ⟨by kernel_rfl, fun w' hw => by (obtain ⟨z0, z1⟩ := hw; go_simp)⟩) hS ?_
  refine wpAnyH_take (i := 4) (v := (.pointer (some ⟨w.heap.size, 0, none⟩))) rfl (by kernel_rfl) (by kernel_rfl) (by kernel_rfl) (fun _ _ _ h => h) (Or.inl ⟨by kernel_rfl, fun w' hw => by (go_simp)⟩) hS ?_
  refine wpAnyH_take (i := 5) (v := (.int .i64 (af : Int))) rfl (by kernel_rfl) (by kernel_rfl) (by kernel_rfl) (fun _ _ _ h => h) (Or.inl ⟨by kernel_rfl, fun w' hw => by (obtain ⟨z0, z1⟩ := hw; go_simp)⟩) hS ?_
  refine wpAnyH_take (i := 6) (v := (.bool true)) rfl (by kernel_rfl) (by kernel_rfl) (by kernel_rfl) (fun _ _ _ h => h) (Or.inl ⟨by kernel_rfl, fun w' hw => by (go_simp)⟩) hS ?_
  refine wpAnyH_done (by kernel_rfl) ?_ _
  simp only [Act.put, List.getElem_toArray, List.getElem_cons_zero, List.getElem_cons_succ, List.setIfInBounds_toArray, List.set_cons_zero, List.set_cons_succ]
  go_wp2_with (fail)
  go_ret
  exact ⟨rfl, HR.out, HG.out⟩
/-- The losses that wait are gone. -/
theorem DevL.disarm {w' : World} {g cap o : Nat} (h : DevL w b L σ) (hav : L.av = .slice (some ⟨g, 0, none⟩) 1 cap) (hb : w'.heap[b]? = some (.cells (devC b { L with av := .slice (some ⟨g, 0, none⟩) 0 cap } { σ with ops := o, arms := [], cnt := 0 }) 57 (0, 0)))
    (hg : ∃ cur : Array Value, w.heap[g]? = some (.cells cur 35 (0, 0)) ∧ cur.size = cap * 2 ∧ cap ≤ maxLen ∧ ∃ cur' : Array Value, w'.heap[g]? = some (.cells cur' 35 (0, 0)) ∧ cur'.size = cur.size) (hk : ∀ k, k ≠ b → k ≠ g → k < w.heap.size → w'.heap[k]? = w.heap[k]?) :
    DevL w' b { L with av := .slice (some ⟨g, 0, none⟩) 0 cap } { σ with ops := o, arms := [], cnt := 0 } := by
  obtain ⟨cur, hg1, hs1, hm1, cur', hg2, hs2⟩ := hg
  have hs : ∀ (k : Nat) (c : Array Value) t fr, w.heap[k]? = some (Obj.cells c t fr) → t ≠ 57 → t ≠ 35 → w'.heap[k]? = w.heap[k]? := fun k c t fr h1 h2 h3 => hk k (ne_ty h1 h.dev h2) (ne_ty h1 hg1 h3) (lt_of_heap h1)
  obtain ⟨e1, k1, hob⟩ := h.old.block
  obtain ⟨e2, k2, hfb⟩ := h.flm.block
  refine ⟨hb, (hs _ _ _ _ h.seen (by decide) (by decide)).trans h.seen, h.old.of_block (hk _ (ne_map h.dev hob).symm (ne_map hg1 hob).symm (lt_of_heap hob)), h.flm.of_block (hk _ (ne_map h.dev hfb).symm (ne_map hg1 hfb).symm (lt_of_heap hfb)),
    fun i hi => (h.pasts i hi).keep (hs _ _ _ _ (h.pasts i hi).1 (by decide) (by decide)) (fun g' hg' => ?_), h.pne, h.rne, h.mne, ⟨[], rfl, ⟨rfl, .inr ⟨g, cap, cur', rfl, Nat.zero_le _, hg2, Nat.zero_le _, hm1, by rw [hs2, hs1], by simp⟩⟩, fun i k a h => by simp at h⟩, fun k hkb => ?_⟩
  · obtain ⟨c, hc⟩ := (h.pasts i hi).row hg'
    exact hs _ _ _ _ hc (by decide) (by decide)
  · obtain ⟨c, hc⟩ := h.kbt k hkb
    exact ⟨c, (hs _ _ _ _ hc (by decide) (by decide)).trans hc⟩
theorem slN_of {W : World} {KB : Nat → Prop} {p : Option Addr} {c : Nat} {kp : List Nat} (h : KeepAt w KB (.slice p kp.length c) kp) (hkb : ∀ k, KB k → ∃ c, w.heap[k]? = some (.cells c 3 (0, 0))) (hW : ∀ k, KB k → W.heap[k]? = w.heap[k]?) (hb : ∀ x ∈ kp, x < 9223372036854775808) : SlN W p kp := by
  obtain ⟨p', c', e, h1⟩ := h
  cases e
  rcases h1 with ⟨h2, h3⟩ | ⟨g, h2, h3, h4⟩
  · exact ⟨hb, .inl ⟨h2, h3⟩⟩
  · obtain ⟨c2, hc2⟩ := hkb g h3
    exact ⟨hb, .inr ⟨g, 0, c2, (0, 0), h2, (hW g h3).trans hc2, fun j k hj => by rw [Nat.zero_add]; exact (World.cell?_of_block (a := ⟨g, j, none⟩) (hW g h3)).trans (h4 j k hj)⟩⟩
set_option maxRecDepth 100000 in
set_option maxHeartbeats 400000 in
/-- One operation more, behind which the power goes. -/
theorem poper_fire {af : Nat} {kp : List Nat} (h : DevL w b L σ) (hok : ({ σ with ops := σ.ops + 1 } : St).Ok) (hops : σ.ops < 1400000000000) (harm : σ.arms = [(af, kp)]) (hc : af ≤ σ.cnt + 1) (hcn : σ.cnt < 1400000000000) (hkb : ∀ x ∈ kp, x < 9223372036854775808) (hkl : kp.length ≤ 1400000000000) :
    Calls Try.prog 60 #[.pointer (some ⟨b, 0, none⟩)] w fun e w' => e = .returned (.int .i64 5) ∧ ∃ L' σ', Lost { σ with ops := σ.ops + 1, arms := [], cnt := 0 } kp σ' ∧ DevL w' b L' σ' ∧ (∀ k, Foot b L' σ' k → Foot b L σ k ∨ w.heap.size ≤ k) ∧ Gr (Foot b L σ) w w' ∧ L'.N ≤ L.N ∧ L'.KB = L.KB := by
  obtain ⟨g, cap, kv, hav, hn1, cur, hgc, hc0, hc1, hke⟩ := arm_first (rest := []) h harm
  have hal : σ.arms.length = 1 := by rw [harm]; rfl
  rw [hal] at hav hn1
  have hgb : g ≠ b := ne_ty hgc h.dev (by decide)
  have c4 := h.c4
  have c5 := h.c5
  rw [hav] at c5
  have c6 := h.c6
  have f4 := h.fz 4
  have f6 := h.fz 6
  have f5 := h.fz 5
  have hb1 : (w.setCell ⟨b, 4, none⟩ (.int .i64 ((σ.ops : Int) + 1))).heap[b]? = _ := heap_set1 w b 4 _ _ _ h.dev
  have d5 : (w.setCell ⟨b, 4, none⟩ (.int .i64 ((σ.ops : Int) + 1))).cell? ⟨b, 5, none⟩ = some (.slice (some ⟨g, 0, none⟩) 1 cap) := by rw [cell8 hb1, ← hav]; rfl
  have d6 : (w.setCell ⟨b, 4, none⟩ (.int .i64 ((σ.ops : Int) + 1))).cell? ⟨b, 6, none⟩ = some (.int .i64 (σ.cnt : Int)) := by rw [cell8 hb1]; rfl
  have g6 : (w.setCell ⟨b, 4, none⟩ (.int .i64 ((σ.ops : Int) + 1))).frozen? ⟨b, 6, none⟩ = false := froz8 hb1 6
  have hb2 := heap_set1 (w.setCell ⟨b, 4, none⟩ (.int .i64 ((σ.ops : Int) + 1))) b 6 _ _ (.int .i64 ((σ.cnt : Int) + 1)) hb1
  have i5 : ((w.setCell ⟨b, 4, none⟩ (.int .i64 ((σ.ops : Int) + 1))).setCell ⟨b, 6, none⟩ (.int .i64 ((σ.cnt : Int) + 1))).cell? ⟨b, 5, none⟩ = some (.slice (some ⟨g, 0, none⟩) 1 cap) := by rw [cell8 hb2, ← hav]; rfl
  have hg2 : ((w.setCell ⟨b, 4, none⟩ (.int .i64 ((σ.ops : Int) + 1))).setCell ⟨b, 6, none⟩ (.int .i64 ((σ.cnt : Int) + 1))).heap[g]? = some (.cells cur 35 (0, 0)) := ((heap_set_ne _ b 6 g _ hgb).trans (heap_set_ne w b 4 g _ hgb)).trans hgc
  have j0 : ((w.setCell ⟨b, 4, none⟩ (.int .i64 ((σ.ops : Int) + 1))).setCell ⟨b, 6, none⟩ (.int .i64 ((σ.cnt : Int) + 1))).cell? ⟨g, 0, none⟩ = some (.int .i64 (af : Int)) := (cell8 hg2 0).trans hc0
  have j1 : ((w.setCell ⟨b, 4, none⟩ (.int .i64 ((σ.ops : Int) + 1))).setCell ⟨b, 6, none⟩ (.int .i64 ((σ.cnt : Int) + 1))).cell? ⟨g, 1, none⟩ = some kv := (cell8 hg2 1).trans hc1
  have hsz : ((w.setCell ⟨b, 4, none⟩ (.int .i64 ((σ.ops : Int) + 1))).setCell ⟨b, 6, none⟩ (.int .i64 ((σ.cnt : Int) + 1))).heap.size = w.heap.size := by simp
  have hAX : Below ((w.setCell ⟨b, 4, none⟩ (.int .i64 ((σ.ops : Int) + 1))).setCell ⟨b, 6, none⟩ (.int .i64 ((σ.cnt : Int) + 1))).heap.size ((w.setCell ⟨b, 4, none⟩ (.int .i64 ((σ.ops : Int) + 1))).setCell ⟨b, 6, none⟩ (.int .i64 ((σ.cnt : Int) + 1))) (((w.setCell ⟨b, 4, none⟩ (.int .i64 ((σ.ops : Int) + 1))).setCell ⟨b, 6, none⟩ (.int .i64 ((σ.cnt : Int) + 1))).alloc (.cells #[.int .i64 (af : Int), kv] 35)) := (Below.refl _ _).alloc (Nat.le_refl _) _
  have hbX : (((w.setCell ⟨b, 4, none⟩ (.int .i64 ((σ.ops : Int) + 1))).setCell ⟨b, 6, none⟩ (.int .i64 ((σ.cnt : Int) + 1))).alloc (.cells #[.int .i64 (af : Int), kv] 35)).heap[b]? = _ := (hAX.block b (by rw [hsz]; exact h.lt)).trans hb2
  have hgX : (((w.setCell ⟨b, 4, none⟩ (.int .i64 ((σ.ops : Int) + 1))).setCell ⟨b, 6, none⟩ (.int .i64 ((σ.cnt : Int) + 1))).alloc (.cells #[.int .i64 (af : Int), kv] 35)).heap[g]? = some (.cells cur 35 (0, 0)) := (hAX.block g (by rw [hsz]; exact lt_of_heap hgc)).trans hg2
  have hfX : (((w.setCell ⟨b, 4, none⟩ (.int .i64 ((σ.ops : Int) + 1))).setCell ⟨b, 6, none⟩ (.int .i64 ((σ.cnt : Int) + 1))).alloc (.cells #[.int .i64 (af : Int), kv] 35)).heap[w.heap.size]? = some (.cells #[.int .i64 (af : Int), kv] 35 (0, 0)) := by
    have := heap_alloc_new ((w.setCell ⟨b, 4, none⟩ (.int .i64 ((σ.ops : Int) + 1))).setCell ⟨b, 6, none⟩ (.int .i64 ((σ.cnt : Int) + 1))) (.cells #[.int .i64 (af : Int), kv] 35)
    rwa [hsz] at this
  have sx : (((w.setCell ⟨b, 4, none⟩ (.int .i64 ((σ.ops : Int) + 1))).setCell ⟨b, 6, none⟩ (.int .i64 ((σ.cnt : Int) + 1))).alloc (.cells #[.int .i64 (af : Int), kv] 35)).drew.cell? ⟨b, 6, none⟩ = some (.int .i64 ((σ.cnt : Int) + 1)) ∧ (((w.setCell ⟨b, 4, none⟩ (.int .i64 ((σ.ops : Int) + 1))).setCell ⟨b, 6, none⟩ (.int .i64 ((σ.cnt : Int) + 1))).alloc (.cells #[.int .i64 (af : Int), kv] 35)).drew.cell? ⟨w.heap.size, 0, none⟩ = some (.int .i64 (af : Int)) := ⟨by rw [cell8 (w := (((w.setCell ⟨b, 4, none⟩ (.int .i64 ((σ.ops : Int) + 1))).setCell ⟨b, 6, none⟩ (.int .i64 ((σ.cnt : Int) + 1))).alloc (.cells #[.int .i64 (af : Int), kv] 35)).drew) hbX]; rfl, cell8 (w := (((w.setCell ⟨b, 4, none⟩ (.int .i64 ((σ.ops : Int) + 1))).setCell ⟨b, 6, none⟩ (.int .i64 ((σ.cnt : Int) + 1))).alloc (.cells #[.int .i64 (af : Int), kv] 35)).drew) hfX 0⟩
  have SX := hide sx
  have ix := fun Y => index_arm g 1 cap hn1 Y
  obtain ⟨kp0, kl0, kc0, hkv⟩ : ∃ p l c, kv = .slice p l c := by obtain ⟨p, c, e, _⟩ := hke; exact ⟨p, _, c, e⟩
  have hcs : cur.size = cap * 2 ∧ cap ≤ maxLen ∧ 1 ≤ cap := by
    obtain ⟨ks, hl, ho, _⟩ := h.arms
    rcases ho.2 with ⟨e, _⟩ | ⟨g', cap', cur', e, q1, q2, q3, q4, q5, q6⟩
    · rw [hav] at e; cases e
    · rw [hav, hal] at e
      cases e
      rw [hgc] at q2
      cases q2
      exact ⟨q5, q4, by rw [harm] at q3; simpa using q3⟩
  have kd := pdel_one (((w.setCell ⟨b, 4, none⟩ (.int .i64 ((σ.ops : Int) + 1))).setCell ⟨b, 6, none⟩ (.int .i64 ((σ.cnt : Int) + 1))).alloc (.cells #[.int .i64 (af : Int), kv] 35)).drew g cap cur hgX (by omega) (by omega)
  have hok5 : St.Ok { σ with ops := σ.ops + 1, arms := [], cnt := 0 } := ⟨hok.pos, hok.max, hok.len, hok.byte, hok.out, hok.clen, hok.cbyte, hok.few, hok.flp, hok.opsm⟩
  subst hkv
  have kf : ∀ W5 : World, Gr (fun k => k = g) (((w.setCell ⟨b, 4, none⟩ (.int .i64 ((σ.ops : Int) + 1))).setCell ⟨b, 6, none⟩ (.int .i64 ((σ.cnt : Int) + 1))).alloc (.cells #[.int .i64 (af : Int), .slice kp0 kl0 kc0] 35)).drew W5 → (∃ cur' : Array Value, W5.heap[g]? = some (.cells cur' 35 (0, 0)) ∧ cur'.size = cur.size) →
      W5.frozen? ⟨b, 5, none⟩ = false ∧ (∃ u, W5.cell? ⟨b, 5, none⟩ = some u) ∧ (W5.setCell ⟨b, 5, none⟩ (.slice (some ⟨g, 0, none⟩) 0 cap)).frozen? ⟨b, 6, none⟩ = false ∧ (∃ u, (W5.setCell ⟨b, 5, none⟩ (.slice (some ⟨g, 0, none⟩) 0 cap)).cell? ⟨b, 6, none⟩ = some u) ∧ ((W5.setCell ⟨b, 5, none⟩ (.slice (some ⟨g, 0, none⟩) 0 cap)).setCell ⟨b, 6, none⟩ (.int .i64 0)).cell? ⟨w.heap.size, 1, none⟩ = some (.slice kp0 kl0 kc0) ∧
      Calls Try.prog 30 #[.pointer (some ⟨b, 0, none⟩), .slice kp0 kl0 kc0] ((W5.setCell ⟨b, 5, none⟩ (.slice (some ⟨g, 0, none⟩) 0 cap)).setCell ⟨b, 6, none⟩ (.int .i64 0)) fun e w' => e = .returned (.tuple #[]) ∧ ∃ L' σ', Lost { σ with ops := σ.ops + 1, arms := [], cnt := 0 } kp σ' ∧ DevL w' b L' σ' ∧ (∀ k, Foot b L' σ' k → Foot b L σ k ∨ w.heap.size ≤ k) ∧ Gr (Foot b L σ) w w' ∧ L'.N ≤ L.N ∧ L'.KB = L.KB := fun W5 hg5 hc5 => by
    have q1 : W5.heap[b]? = _ := (hg5.block (k := b) (by show b < (((w.setCell ⟨b, 4, none⟩ (.int .i64 ((σ.ops : Int) + 1))).setCell ⟨b, 6, none⟩ (.int .i64 ((σ.cnt : Int) + 1))).alloc (.cells #[.int .i64 (af : Int), .slice kp0 kl0 kc0] 35)).heap.size; exact lt_of_heap hbX) (fun e => hgb e.symm)).trans hbX
    have q2 := heap_set1 W5 b 5 _ _ (.slice (some ⟨g, 0, none⟩) 0 cap) q1
    have q3 := heap_set1 _ b 6 _ _ (.int .i64 0) q2
    have hwg : w.heap.size ≠ g := fun e => by have := lt_of_heap hgc; omega
    have hwb : w.heap.size ≠ b := fun e => by have := h.lt; omega
    have q4 : ((W5.setCell ⟨b, 5, none⟩ (.slice (some ⟨g, 0, none⟩) 0 cap)).setCell ⟨b, 6, none⟩ (.int .i64 0)).heap[w.heap.size]? = some (.cells #[.int .i64 (af : Int), .slice kp0 kl0 kc0] 35 (0, 0)) := (heap_set_ne _ b 6 _ _ hwb).trans ((heap_set_ne _ b 5 _ _ hwb).trans ((hg5.block (k := w.heap.size) (lt_of_heap hfX) hwg).trans hfX))
    have q5 : ∀ k, k ≠ b → k ≠ g → k < w.heap.size → ((W5.setCell ⟨b, 5, none⟩ (.slice (some ⟨g, 0, none⟩) 0 cap)).setCell ⟨b, 6, none⟩ (.int .i64 0)).heap[k]? = w.heap[k]? := fun k k1 k2 k3 =>
      (heap_set_ne _ b 6 k _ k1).trans ((heap_set_ne _ b 5 k _ k1).trans ((hg5.block (k := k) (by show k < (((w.setCell ⟨b, 4, none⟩ (.int .i64 ((σ.ops : Int) + 1))).setCell ⟨b, 6, none⟩ (.int .i64 ((σ.cnt : Int) + 1))).alloc (.cells #[.int .i64 (af : Int), .slice kp0 kl0 kc0] 35)).heap.size; have := hAX.size; omega) k2).trans ((hAX.block k (by rw [hsz]; exact k3)).trans ((heap_set_ne _ b 6 k _ k1).trans (heap_set_ne w b 4 k _ k1)))))
    obtain ⟨cur', hq, hq2⟩ := hc5
    have q6 : ((W5.setCell ⟨b, 5, none⟩ (.slice (some ⟨g, 0, none⟩) 0 cap)).setCell ⟨b, 6, none⟩ (.int .i64 0)).heap[g]? = some (.cells cur' 35 (0, 0)) := (heap_set_ne _ b 6 g _ hgb).trans ((heap_set_ne _ b 5 g _ hgb).trans hq)
    have hd6 := h.disarm (w' := (W5.setCell ⟨b, 5, none⟩ (.slice (some ⟨g, 0, none⟩) 0 cap)).setCell ⟨b, 6, none⟩ (.int .i64 0)) (o := σ.ops + 1) hav (by rw [q3]; rfl) ⟨cur, hgc, hcs.1, hcs.2.1, cur', q6, hq2⟩ q5
    have gX : Gr (Foot b L σ) w (((w.setCell ⟨b, 4, none⟩ (.int .i64 ((σ.ops : Int) + 1))).setCell ⟨b, 6, none⟩ (.int .i64 ((σ.cnt : Int) + 1))).alloc (.cells #[.int .i64 (af : Int), .slice kp0 kl0 kc0] 35)) := ((Gr.set w b 4 _ (X := Foot b L σ) (.inl rfl)).trans (Gr.set _ b 6 _ (X := Foot b L σ) (.inl rfl)) (fun i h => .inl h)).trans (Gr.of_below hAX : Gr (Foot b L σ) _ (((w.setCell ⟨b, 4, none⟩ (.int .i64 ((σ.ops : Int) + 1))).setCell ⟨b, 6, none⟩ (.int .i64 ((σ.cnt : Int) + 1))).alloc (.cells #[.int .i64 (af : Int), .slice kp0 kl0 kc0] 35))) (fun i h => .inl h)
    have g5 : Gr (Foot b L σ) w W5 := (show Gr (Foot b L σ) w (((w.setCell ⟨b, 4, none⟩ (.int .i64 ((σ.ops : Int) + 1))).setCell ⟨b, 6, none⟩ (.int .i64 ((σ.cnt : Int) + 1))).alloc (.cells #[.int .i64 (af : Int), .slice kp0 kl0 kc0] 35)).drew from gX).trans hg5 (fun i hi => .inl (by rw [hi]; exact .inr (.inr (.inr (.inr (.inr (.inl (by rw [hav]; rfl))))))))
    have g6 : Gr (Foot b L σ) w ((W5.setCell ⟨b, 5, none⟩ (.slice (some ⟨g, 0, none⟩) 0 cap)).setCell ⟨b, 6, none⟩ (.int .i64 0)) := (g5.trans (Gr.set _ b 5 _ (X := Foot b L σ) (.inl rfl)) (fun i h => .inl h)).trans (Gr.set _ b 6 _ (X := Foot b L σ) (.inl rfl)) (fun i h => .inl h)
    have hfo : ∀ k, Foot b { L with av := .slice (some ⟨g, 0, none⟩) 0 cap } { σ with ops := σ.ops + 1, arms := [], cnt := 0 } k → Foot b L σ k := fun k hk => by
      rcases hk with r | r | r | r | r | r | r
      · exact .inl r
      · exact .inr (.inl r)
      · exact .inr (.inr (.inl r))
      · exact .inr (.inr (.inr (.inl r)))
      · exact .inr (.inr (.inr (.inr (.inl r))))
      · exact .inr (.inr (.inr (.inr (.inr (.inl (by rw [hav]; exact r))))))
      · exact .inr (.inr (.inr (.inr (.inr (.inr r)))))
    obtain ⟨p', c', e', _⟩ := id hke
    cases e'
    have hsn : SlN ((W5.setCell ⟨b, 5, none⟩ (.slice (some ⟨g, 0, none⟩) 0 cap)).setCell ⟨b, 6, none⟩ (.int .i64 0)) kp0 kp := slN_of hke h.kbt (fun k hk => by obtain ⟨c2, hc2⟩ := h.kbt k hk; exact q5 k (ne_ty hc2 h.dev (by decide)) (ne_ty hc2 hgc (by decide)) (lt_of_heap hc2)) hkb
    refine ⟨froz8 q1 5, ⟨_, cell8 q1 5⟩, froz8 q2 6, ⟨_, cell8 q2 6⟩, cell8 q4 1, (plose_kb kc0 hd6 hok5 hsn (by omega)).mono ?_⟩
    rintro e w' ⟨rfl, L', σ', l1, l2, l3, l4, l5⟩
    exact ⟨rfl, L', σ', l1, l2, fun k hk => (l3 k hk).imp (hfo k) (fun h5 => Nat.le_trans g6.size h5), g6.trans l4 (fun i hi => .inl (hi.elim (fun e => .inl e) (fun e => .inr (.inl e)))), l5⟩
  have KF := hide kf
  have KD := hide kd
  have opI : (σ.ops : Int) < 1400000000000 := by omega
  have cnI : ¬ (σ.cnt : Int) + 1 < (af : Int) := by omega
  have ncI : (σ.cnt : Int) < 1400000000000 := by omega
  have i5d : (((w.setCell ⟨b, 4, none⟩ (.int .i64 ((σ.ops : Int) + 1))).setCell ⟨b, 6, none⟩ (.int .i64 ((σ.cnt : Int) + 1))).alloc (.cells #[.int .i64 (af : Int), .slice kp0 kl0 kc0] 35)).drew.cell? ⟨b, 5, none⟩ = some (.slice (some ⟨g, 0, none⟩) 1 cap) := by rw [cell8 (w := (((w.setCell ⟨b, 4, none⟩ (.int .i64 ((σ.ops : Int) + 1))).setCell ⟨b, 6, none⟩ (.int .i64 ((σ.cnt : Int) + 1))).alloc (.cells #[.int .i64 (af : Int), .slice kp0 kl0 kc0] 35)).drew) hbX, ← hav]; rfl
  clear h harm hke hgc hc0 hc1 hbX hgX hfX sx hAX hsz hb1 hb2 hg2 hops hc hcn hav hgb f5 hn1 hal hok hok5 hkb hkl kf kd hcs
  generalize hno : σ.ops = no at *
  generalize hnc : σ.cnt = nc at *
  clear hnc
  go_enter Try.func60, Try.ntmps60
  go_wp2_with (fail)
  refine wp_region_held_drew (S := fun Y => Y.cell? ⟨b, 6, none⟩ = some (.int .i64 ((nc : Int) + 1)) ∧ Y.cell? ⟨w.heap.size, 0, none⟩ = some (.int .i64 (af : Int))) (by kernel_rfl) SX.out (fun hS => ?_)
  refine wpAnyH_take (i := 0) (v := (.pointer (some ⟨b, 0, none⟩))) rfl (by kernel_rfl) (by kernel_rfl) (by kernel_rfl) (fun _ _ _ h => h) (Or.inl ⟨by kernel_rfl, fun w' hw => by (go_simp)⟩) hS ?_
  refine wpAnyH_take (i := 1) (v := (.pointer (some ⟨b, 0, none⟩))) rfl (by kernel_rfl) (by kernel_rfl) (by kernel_rfl) (fun _ _ _ h => h) (Or.inl ⟨by kernel_rfl, fun w' hw => by (go_simp)⟩) hS ?_
  refine wpAnyH_take (i := 2) (v := (.pointer (some ⟨b, 6, none⟩))) rfl (by kernel_rfl) (by kernel_rfl) (by kernel_rfl) (fun _ _ _ h => h) (Or.inl ⟨by kernel_rfl, fun w' hw => by (go_simp)⟩) hS ?_
  refine wpAnyH_take (i := 3) (v := (.int .i64 ((nc : Int) + 1))) rfl (by kernel_rfl) (by kernel_rfl) (by kernel_rfl) (fun _ _ _ h => h) (Or.inl ⟨by kernel_rfl, fun w' hw => by (obtain ⟨z0, z1⟩ := hw; go_simp)⟩) hS ?_
  refine wpAnyH_take (i := 4) (v := (.pointer (some ⟨w.heap.size, 0, none⟩))) rfl (by kernel_rfl) (by kernel_rfl) (by kernel_rfl) (fun _ _ _ h => h) (Or.inl ⟨by kernel_rfl, fun w' hw => by (go_simp)⟩) hS ?_
  refine wpAnyH_take (i := 5) (v := (.int .i64 (af : Int))) rfl (by kernel_rfl) (by kernel_rfl) (by kernel_rfl) (fun _ _ _ h => h) (Or.inl ⟨by kernel_rfl, fun w' hw => by (obtain ⟨z0, z1⟩ := hw; go_simp)⟩) hS ?_
  refine wpAnyH_take (i := 6) (v := (.bool false)) rfl (by kernel_rfl) (by kernel_rfl) (by kernel_rfl) (fun _ _ _ h => h) (Or.inl ⟨by kernel_rfl, fun w' hw => by (go_simp)⟩) hS ?_
  refine wpAnyH_done (by kernel_rfl) ?_ _
  simp only [Act.put, List.getElem_toArray, List.getElem_cons_zero, List.getElem_cons_succ, List.setIfInBounds_toArray, List.set_cons_zero, List.set_cons_succ]
  go_wp2_with (first
    | (go_at_call 67; refine (KD.out).mono ?_; rintro e W5 ⟨rfl, hg5, hc5⟩; obtain ⟨x1, ⟨u1, x2⟩, x3, ⟨u2, x4⟩, x5, kl⟩ := KF.out W5 hg5 hc5; have KL := hide kl; clear hg5 hc5 kl)
    | (go_at_call 30; refine (KL.out).mono ?_; rintro e W7 ⟨rfl, hr⟩; have HR := hide hr; clear hr))
  go_ret
  exact ⟨rfl, HR.out⟩
end
end Go.Proofs.Ytmljacjbpcgijaa
namespace Go.Proofs.Ytmljacjbpcgijaa
open Go.RowKit Go.Shelf
set_option linter.unusedVariables false

/-- What one operation more leaves, and what is answered. -/
def Opd (σ : St) (c : Int) (σ' : St) : Prop :=
  (σ.arms = [] ∧ c = 0 ∧ σ' = { σ with ops := σ.ops + 1 }) ∨
  (∃ af kp, σ.arms = [(af, kp)] ∧ ((σ.cnt + 1 < af ∧ c = 0 ∧ σ' = { σ with ops := σ.ops + 1, cnt := σ.cnt + 1 }) ∨ (af ≤ σ.cnt + 1 ∧ c = 5 ∧ Lost { σ with ops := σ.ops + 1, arms := [], cnt := 0 } kp σ')))
/-- At most one loss of power waits. -/
structure Few (σ : St) : Prop where
  one : σ.arms = [] ∨ ∃ af kp, σ.arms = [(af, kp)] ∧ (∀ x ∈ kp, x < 9223372036854775808) ∧ kp.length ≤ 1400000000000
  cnt : σ.cnt < 1400000000000
theorem Opd.code {σ σ' : St} {c : Int} (h : Opd σ c σ') : c = 0 ∨ c = 5 := by
  rcases h with ⟨_, h, _⟩ | ⟨_, _, _, ⟨_, h, _⟩ | ⟨_, h, _⟩⟩
  · exact .inl h
  · exact .inl h
  · exact .inr h
/-- One operation more, behind which the power stays. -/
def tick (σ : St) : St := { σ with ops := σ.ops + 1, cnt := if σ.arms = [] then σ.cnt else σ.cnt + 1 }
/-- The next operation is the last one ahead of the loss. -/
def fires (σ : St) : Prop := ∃ af kp, σ.arms = [(af, kp)] ∧ af ≤ σ.cnt + 1
theorem Opd.no {σ σ' : St} {c : Int} (h : Opd σ c σ') (hf : ¬ fires σ) : c = 0 ∧ σ' = tick σ := by
  rcases h with ⟨h1, h2, h3⟩ | ⟨af, kp, h1, ⟨h0, h2, h3⟩ | ⟨h0, h2, h3⟩⟩
  · exact ⟨h2, by rw [h3]; unfold tick; rw [if_pos h1]⟩
  · exact ⟨h2, by rw [h3]; unfold tick; rw [if_neg (by rw [h1]; simp)]⟩
  · exact absurd ⟨af, kp, h1, h0⟩ hf
theorem Opd.yes {σ σ' : St} {c : Int} (h : Opd σ c σ') (hf : fires σ) : c = 5 := by
  obtain ⟨af', kp', e1, e2⟩ := hf
  rcases h with ⟨h1, h2, h3⟩ | ⟨af, kp, h1, ⟨h0, h2, h3⟩ | ⟨h0, h2, h3⟩⟩
  · rw [h1] at e1; cases e1
  · rw [h1] at e1; cases e1; omega
  · exact h2
theorem tick_ok {σ : St} (h : ({ σ with ops := σ.ops + 1 } : St).Ok) : (tick σ).Ok := ⟨h.pos, h.max, h.len, h.byte, h.out, h.clen, h.cbyte, h.few, h.flp, h.opsm⟩
theorem ok_more {σ : St} (h : σ.Ok) (hops : σ.ops < 1400000000000) : ({ σ with ops := σ.ops + 1 } : St).Ok := ⟨h.pos, h.max, h.len, h.byte, h.out, h.clen, h.cbyte, fun i => Nat.le_trans (h.few i) (Nat.le_succ _), h.flp, by show σ.ops + 1 ≤ _; omega⟩
section
variable {w : World} {b : Nat} {L : Lay} {σ : St}
theorem poper_gen (h : DevL w b L σ) (hok : ({ σ with ops := σ.ops + 1 } : St).Ok) (hf : Few σ) (hops : σ.ops < 1400000000000) :
    Calls Try.prog 60 #[.pointer (some ⟨b, 0, none⟩)] w fun e w' => ∃ c σ' L', e = .returned (.int .i64 c) ∧ Opd σ c σ' ∧ DevL w' b L' σ' ∧ (∀ k, Foot b L' σ' k → Foot b L σ k ∨ w.heap.size ≤ k) ∧ Gr (Foot b L σ) w w' ∧ L'.N ≤ L.N ∧ L'.KB = L.KB ∧ (c = 0 → L' = L) := by
  rcases hf.one with ha | ⟨af, kp, ha, hk, hl⟩
  · refine (poper_any h hops ha).mono ?_
    rintro e w' ⟨rfl, hw, hd⟩
    exact ⟨0, _, L, rfl, .inl ⟨ha, rfl, rfl⟩, hd, fun k hk => .inl hk, by rw [hw]; exact Gr.set w b 4 _ (.inl rfl), Nat.le_refl _, rfl, fun _ => rfl⟩
  · by_cases hc : σ.cnt + 1 < af
    · refine (poper_wait h hops ha hc hf.cnt).mono ?_
      rintro e w' ⟨rfl, hd, hg⟩
      exact ⟨0, _, L, rfl, .inr ⟨af, kp, ha, .inl ⟨hc, rfl, rfl⟩⟩, hd, fun k hk => .inl hk, hg.mono (fun k h => .inl h), Nat.le_refl _, rfl, fun _ => rfl⟩
    · refine (poper_fire h hok hops ha (by omega) hf.cnt hk hl).mono ?_
      rintro e w' ⟨rfl, L', σ', h1, h2, h3, h4, h5, h6⟩
      exact ⟨5, σ', L', rfl, .inr ⟨af, kp, ha, .inr ⟨by omega, rfl, h1⟩⟩, h2, h3, h4, h5, h6, fun h => by cases h⟩
theorem poper_no (h : DevL w b L σ) (hok : ({ σ with ops := σ.ops + 1 } : St).Ok) (hf : Few σ) (hops : σ.ops < 1400000000000) (hn : ¬ fires σ) :
    Calls Try.prog 60 #[.pointer (some ⟨b, 0, none⟩)] w fun e w' => e = .returned (.int .i64 0) ∧ DevL w' b L (tick σ) ∧ Gr (Foot b L σ) w w' := by
  refine (poper_gen h hok hf hops).mono ?_
  rintro e w' ⟨c, σ', L', rfl, h1, h2, h3, h4, h5, h6, h7⟩
  obtain ⟨rfl, rfl⟩ := h1.no hn
  obtain rfl := h7 rfl
  exact ⟨rfl, h2, h4⟩
theorem poper_yes (h : DevL w b L σ) (hok : ({ σ with ops := σ.ops + 1 } : St).Ok) (hf : Few σ) (hops : σ.ops < 1400000000000) (hn : fires σ) :
    Calls Try.prog 60 #[.pointer (some ⟨b, 0, none⟩)] w fun e w' => e = .returned (.int .i64 5) ∧ ∃ σ' L', Opd σ 5 σ' ∧ DevL w' b L' σ' ∧ (∀ k, Foot b L' σ' k → Foot b L σ k ∨ w.heap.size ≤ k) ∧ Gr (Foot b L σ) w w' ∧ L'.N ≤ L.N ∧ L'.KB = L.KB := by
  refine (poper_gen h hok hf hops).mono ?_
  rintro e w' ⟨c, σ', L', rfl, h1, h2, h3, h4, h5, h6, h7⟩
  obtain rfl := h1.yes hn
  exact ⟨rfl, σ', L', h1, h2, h3, h4, h5, h6⟩
end
end Go.Proofs.Ytmljacjbpcgijaa
namespace Go.Proofs.Ytmljacjbpcgijaa
open Go.RowKit Go.Shelf
set_option linter.unusedVariables false
attribute [local go_sem] Oper.semAt_some

/-- A word is written; the operation is not yet counted. -/
def wordA (bs : List Nat) (at_ : Nat) (σ : St) (no : Nat) : St := { wordDo bs at_ σ no with ops := σ.ops }
def wordG (bs : List Nat) (at_ : Nat) (σ : St) (no : Nat) : St := tick (wordA bs at_ σ no)
def writeG (bs : List Nat) (at_ : Nat) (σ : St) (nos : List Nat) : St := nos.foldl (wordG bs at_) σ
theorem writeG_snoc (bs : List Nat) (at_ : Nat) (σ : St) (nos : List Nat) (no : Nat) : writeG bs at_ σ (nos ++ [no]) = wordG bs at_ (writeG bs at_ σ nos) no := by simp [writeG, List.foldl_append]
/-- What stays as it is while words are written. -/
structure LikeG (σ σ' : St) (k : Nat) : Prop where
  ok : σ'.Ok
  n : σ'.n = σ.n
  ops : σ'.ops = σ.ops + k
  arms : σ'.arms = σ.arms
  off : σ'.off = σ.off
  cnt : σ'.cnt = if σ.arms = [] then σ.cnt else σ.cnt + k
theorem writeG_like {bs : List Nat} {at_ : Nat} (hbs : ∀ x ∈ bs, x < 256) : ∀ (nos : List Nat) (σ : St), σ.Ok → (∀ no ∈ nos, no / 8 < σ.n) → σ.ops + nos.length ≤ 1400000000000 → LikeG σ (writeG bs at_ σ nos) nos.length
  | [], σ, hok, _, _ => ⟨hok, rfl, rfl, rfl, rfl, by show σ.cnt = if σ.arms = [] then σ.cnt else σ.cnt + 0; split <;> rfl⟩
  | no :: nos, σ, hok, hn, hb => by
    rw [List.length_cons] at hb
    have hi := hn no (by simp)
    obtain ⟨h1, h2⟩ := word_part (at_ := at_) hbs hok hi
    have hok' : (wordG bs at_ σ no).Ok := tick_ok (put_ok hok hi h1 h2 (by omega))
    have ih := writeG_like (at_ := at_) hbs nos (wordG bs at_ σ no) hok' (fun x hx => hn x (by simp [hx])) (by show σ.ops + 1 + nos.length ≤ _; omega)
    refine ⟨ih.ok, ih.n, by rw [List.length_cons]; have h := ih.ops; have h2 : (wordG bs at_ σ no).ops = σ.ops + 1 := rfl; show (writeG bs at_ (wordG bs at_ σ no) nos).ops = _; rw [h, h2]; omega, ih.arms, ih.off, ?_⟩
    have h := ih.cnt
    have h2 : (wordG bs at_ σ no).cnt = if σ.arms = [] then σ.cnt else σ.cnt + 1 := rfl
    have h3 : (wordG bs at_ σ no).arms = σ.arms := rfl
    rw [h3, h2] at h
    show (writeG bs at_ (wordG bs at_ σ no) nos).cnt = _
    rw [h, List.length_cons]
    by_cases e : σ.arms = []
    · simp only [if_pos e]
    · simp only [if_neg e]; omega
/-- What a write leaves, and what is answered. -/
def WrD (bs : List Nat) (at_ : Nat) (σ : St) (nos : List Nat) (c : Int) (σ' : St) : Prop :=
  (c = 0 ∧ σ' = writeG bs at_ σ nos ∧ ∀ af kp, σ.arms = [(af, kp)] → nos ≠ [] → σ.cnt + nos.length < af) ∨
  (c = 5 ∧ ∃ pre no, pre ++ [no] <+: nos ∧ Opd (wordA bs at_ (writeG bs at_ σ pre) no) 5 σ')

set_option maxRecDepth 100000 in
set_option maxHeartbeats 2000000 in
theorem pwriteG_in {w : World} {b at_ cap : Nat} {L : Lay} {σ : St} {a : Option Addr} {bs : List Nat} (h : DevL w b L σ) (hok : σ.Ok) (hN : L.N ≤ σ.ops) (hfw : Few σ) (hcn : σ.cnt + 600000 ≤ 1400000000000) (hsl : Sl w a bs) (hcap : bs.length ≤ cap) (hlen : at_ + bs.length ≤ 64 * σ.n) (hops : σ.ops + 600000 ≤ 1400000000000)
    (haf : ∀ ad, a = some ad → ad.block < w.heap.size ∧ ¬ Foot b L σ ad.block) :
    CallsIn Fence.wide 3 Try.prog 65 #[.pointer (some ⟨b, 0, none⟩), .int .i64 (at_ : Int), .slice a bs.length cap] w fun e w' => ∃ c σ' L', e = .returned (.int .i64 c) ∧ WrD bs at_ σ (wordsOf at_ bs.length) c σ' ∧ DevL w' b L' σ' ∧ (∀ k, Foot b L' σ' k → Foot b L σ k ∨ w.heap.size ≤ k) ∧ Gr (Foot b L σ) w w' ∧ L'.N ≤ L.N + (wordsOf at_ bs.length).length ∧ L'.KB = L.KB ∧ (c = 0 → SameL L L') := by
  have hbs := hsl.lt
  have hnm := hok.max
  have hlen2 : at_ + bs.length ≤ 4194304 := by omega
  have hwl := wordsOf_len hlen2
  have hO := h.old_
  refine callsIn_of_wp_marks Try.func65 rfl trivial ?_ rfl
  simp only [Try.ntmps65, List.size_toArray, List.length_cons, List.length_nil, Nat.reduceAdd, Nat.reduceSub, Array.replicate_succ, Array.replicate_zero, List.push_toArray, List.append_toArray, List.nil_append, List.cons_append]
  gi_wp2_with (refine ⟨trivial, ?_⟩; gi_at_call 40; refine (inW (words_in (at_ : Int) (bs.length : Int) _)).mono ?_; rintro e w' ⟨rfl, rfl⟩)
  have hB0 : Below w.heap.size w ((((((w.alloc (.cells #[.pointer (some ⟨b, 0, none⟩)] 27)).alloc (.cells #[.int .i64 (at_ : Int)] 3)).alloc (.cells #[.slice a bs.length cap] 22)).alloc (.cells #[.int .i64 0] 28)).alloc (.cells #[.int .i64 (at_ : Int)] 3)).alloc (.cells #[.int .i64 (bs.length : Int)] 3)) := ((((((Below.refl _ w).alloc (Nat.le_refl _) _).alloc (by simp) _).alloc (by simp; omega) _).alloc (by simp; omega) _).alloc (by simp; omega) _).alloc (by simp; omega) _
  have hsz : ((((((w.alloc (.cells #[.pointer (some ⟨b, 0, none⟩)] 27)).alloc (.cells #[.int .i64 (at_ : Int)] 3)).alloc (.cells #[.slice a bs.length cap] 22)).alloc (.cells #[.int .i64 0] 28)).alloc (.cells #[.int .i64 (at_ : Int)] 3)).alloc (.cells #[.int .i64 (bs.length : Int)] 3)).heap.size = w.heap.size + 6 := by simp
  have b3 : Boxed ((((((w.alloc (.cells #[.pointer (some ⟨b, 0, none⟩)] 27)).alloc (.cells #[.int .i64 (at_ : Int)] 3)).alloc (.cells #[.slice a bs.length cap] 22)).alloc (.cells #[.int .i64 0] 28)).alloc (.cells #[.int .i64 (at_ : Int)] 3)).alloc (.cells #[.int .i64 (bs.length : Int)] 3)) w.heap.size 27 (.pointer (some ⟨b, 0, none⟩)) := (((((Boxed.new w 27 (.pointer (some ⟨b, 0, none⟩))).alloc _).alloc _).alloc _).alloc _).alloc _
  have b4 := ((((Boxed.new (w.alloc (.cells #[.pointer (some ⟨b, 0, none⟩)] 27)) 3 (.int .i64 (at_ : Int))).alloc (.cells #[.slice a bs.length cap] 22)).alloc (.cells #[.int .i64 0] 28)).alloc (.cells #[.int .i64 (at_ : Int)] 3)).alloc (.cells #[.int .i64 (bs.length : Int)] 3)
  have b5 := (((Boxed.new ((w.alloc (.cells #[.pointer (some ⟨b, 0, none⟩)] 27)).alloc (.cells #[.int .i64 (at_ : Int)] 3)) 22 (.slice a bs.length cap)).alloc (.cells #[.int .i64 0] 28)).alloc (.cells #[.int .i64 (at_ : Int)] 3)).alloc (.cells #[.int .i64 (bs.length : Int)] 3)
  have b6 := ((Boxed.new (((w.alloc (.cells #[.pointer (some ⟨b, 0, none⟩)] 27)).alloc (.cells #[.int .i64 (at_ : Int)] 3)).alloc (.cells #[.slice a bs.length cap] 22)) 28 (.int .i64 0)).alloc (.cells #[.int .i64 (at_ : Int)] 3)).alloc (.cells #[.int .i64 (bs.length : Int)] 3)
  have b7 := (Boxed.new ((((w.alloc (.cells #[.pointer (some ⟨b, 0, none⟩)] 27)).alloc (.cells #[.int .i64 (at_ : Int)] 3)).alloc (.cells #[.slice a bs.length cap] 22)).alloc (.cells #[.int .i64 0] 28)) 3 (.int .i64 (at_ : Int))).alloc (.cells #[.int .i64 (bs.length : Int)] 3)
  have b8 := Boxed.new (((((w.alloc (.cells #[.pointer (some ⟨b, 0, none⟩)] 27)).alloc (.cells #[.int .i64 (at_ : Int)] 3)).alloc (.cells #[.slice a bs.length cap] 22)).alloc (.cells #[.int .i64 0] 28)).alloc (.cells #[.int .i64 (at_ : Int)] 3)) 3 (.int .i64 (bs.length : Int))
  simp only [World.size_alloc] at b4 b5 b6 b7 b8
  obtain ⟨W0, hW0⟩ : ∃ W0, ((((((w.alloc (.cells #[.pointer (some ⟨b, 0, none⟩)] 27)).alloc (.cells #[.int .i64 (at_ : Int)] 3)).alloc (.cells #[.slice a bs.length cap] 22)).alloc (.cells #[.int .i64 0] 28)).alloc (.cells #[.int .i64 (at_ : Int)] 3)).alloc (.cells #[.int .i64 (bs.length : Int)] 3)) = W0 := ⟨_, rfl⟩
  rw [hW0] at b3 b4 b5 b6 b7 b8 hB0 hsz ⊢
  clear hW0
  have hd0 := h.below hB0
  have hsl0 := hsl.below hB0
  apply rangeX (gf := 52) (lb := #[.pointer (some ⟨w.heap.size + 1 + 1 + 1 + 1, 0, none⟩), .pointer (some ⟨w.heap.size + 1 + 1 + 1 + 1 + 1, 0, none⟩)]) (encs := encI) rfl (enters_of Try.func52 (by kernel_rfl) rfl)
    (words_x HP (fun k => k = w.heap.size + 1 + 1 + 1 + 1 ∨ k = w.heap.size + 1 + 1 + 1 + 1 + 1) (w.heap.size + 1 + 1 + 1 + 1) (w.heap.size + 1 + 1 + 1 + 1 + 1) (at_ : Int) (bs.length : Int) W0 (fun k hk => by omega) (.inl rfl) (.inr rfl) (by unfold HP; decide) b7.cell b8.cell (by omega) (by omega)) (Below.refl _ _) (fun k hk => by omega) (fun _ => rfl)
    (fun pre W' => ((Boxed W' w.heap.size 27 (.pointer (some ⟨b, 0, none⟩)) ∧ Boxed W' (w.heap.size + 1) 3 (.int .i64 (at_ : Int))) ∧ (Boxed W' (w.heap.size + 1 + 1) 22 (.slice a bs.length cap) ∧ Boxed W' (w.heap.size + 1 + 1 + 1) 28 (.int .i64 0) ∧ (Boxed W' (w.heap.size + 1 + 1 + 1 + 1) 3 (.int .i64 (at_ : Int)) ∧ Boxed W' (w.heap.size + 1 + 1 + 1 + 1 + 1) 3 (.int .i64 (bs.length : Int))))) ∧ ((Sl W' a bs ∧ Gr (Foot b L σ) W0 W') ∧ ∃ L', DevL W' b L' (writeG bs at_ σ (pre.map Int.toNat)) ∧ (SameL L L' ∧ L'.N ≤ L.N + pre.length ∧ (∀ k, Foot b L' (writeG bs at_ σ (pre.map Int.toNat)) k → Foot b L σ k ∨ w.heap.size ≤ k) ∧ ∀ af kp, σ.arms = [(af, kp)] → pre ≠ [] → σ.cnt + pre.length < af)))
    (fun c pre W' => (c = .ret ∧ Boxed W' (w.heap.size + 1 + 1 + 1) 28 (.int .i64 5)) ∧ (Gr (Foot b L σ) w W' ∧ ∃ L' σ', DevL W' b L' σ' ∧ ((L'.KB = L.KB ∧ L'.N ≤ L.N + pre.length) ∧ (∃ pr no, pre.map Int.toNat = pr ++ [no] ∧ Opd (wordA bs at_ (writeG bs at_ σ pr) no) 5 σ') ∧ ∀ k, Foot b L' σ' k → Foot b L σ k ∨ w.heap.size ≤ k)))
    (Stab.and (Stab.and (Stab.and (Stab.box _ _ (by omega)) (Stab.box _ _ (by omega))) (Stab.and (Stab.box _ _ (by omega)) (Stab.and (Stab.box _ _ (by omega)) (Stab.and (Stab.box _ _ (by omega)) (Stab.box _ _ (by omega)))))) (Stab.and (Stab.and (stab_sl a bs (by omega) (fun ad he => (haf ad he).1)) (stab_gr (Nat.le_refl _))) (fun s W W' hJ hs => by obtain ⟨L', h1, h2, h3⟩ := hJ; exact ⟨L', stab_dev (σ := fun _ : Unit => writeG bs at_ σ (s.map Int.toNat)) (hO.same h2) (by omega) () W W' h1 hs, h2, h3⟩)))
    (fun c => Stab.and (Stab.and (Stab.pure _) (Stab.box _ _ (by omega))) (Stab.and (stab_gr (by omega)) (fun s W W' hJ hs => by obtain ⟨L', σ', h1, h2⟩ := hJ; exact ⟨L', σ', dev_sub h1 (fun k hk => by rw [h2.1.1] at hk; have := hO.kb k hk; omega) hs, h2⟩)))
    ⟨⟨⟨b3, b4⟩, b5, b6, b7, b8⟩, ⟨hsl0, Gr.refl _ _⟩, L, hd0, SameL.refl L, by simp, fun k hk => .inl hk, fun _ _ _ h => absurd rfl h⟩
  case hassign =>
    intro l' x W' K hK
    simp only [encI]
    gi_wp2
    exact hK
  case hbody =>
    rintro l' pre x W ⟨⟨⟨h3, h4⟩, h5, h6, h7, h8⟩, ⟨hslW, hgW⟩, L', hdW, hsame, hNL, hfoot, _⟩ hpx
    obtain ⟨no, rfl, hno, hno2, hn1, hmem, hpl⟩ := word_told hlen2 hpx
    have hsub : ∀ y ∈ pre.map Int.toNat, y / 8 < σ.n := fun y hy => wordsOf_lt hlen hnm y (by
      obtain ⟨z, hz, rfl⟩ := List.mem_map.1 hy
      exact List.mem_map.2 ⟨z, hpx.subset (List.mem_append_left _ hz), rfl⟩)
    have hlike := writeG_like (at_ := at_) hbs (pre.map Int.toNat) σ hok hsub (by rw [List.length_map]; omega)
    rw [List.length_map] at hlike
    have hsn : writeG bs at_ σ ((pre ++ [(no : Int)]).map Int.toNat) = wordG bs at_ (writeG bs at_ σ (pre.map Int.toNat)) no := by rw [List.map_append, List.map_cons, List.map_nil, writeG_snoc]; rfl
    generalize hgk : writeG bs at_ σ (pre.map Int.toNat) = σk at *
    have HGK := hide hgk
    clear hgk
    have hi : no / 8 < σk.n := by rw [hlike.n]; omega
    obtain ⟨ab, ao, ha, hab, hseg⟩ : ∃ ab ao, a = some ⟨ab, ao, none⟩ ∧ ab < w.heap.size ∧ Seg W ab ao bs := by
      rcases hslW with h1 | ⟨ab, ao, h1, h2, h3⟩
      · rw [h1] at hn1; simp at hn1
      · exact ⟨ab, ao, h1, (haf _ h1).1, h3⟩
    obtain ⟨fr, hfr⟩ : ∃ fr, fr = max at_ (no * 8) := ⟨_, rfl⟩
    have f1 : at_ ≤ fr := by omega
    have f2 : fr < at_ + bs.length := by omega
    have f3 : no * 8 ≤ fr ∧ fr < no * 8 + 8 := by omega
    obtain ⟨hpt1, hpt2⟩ := word_part (at_ := at_) (no := no) hbs hlike.ok hi
    rw [← hfr] at hpt1 hpt2
    obtain ⟨part, hpart⟩ : ∃ part, part = (bs.drop (fr - at_)).take (8 - fr % 8) := ⟨_, rfl⟩
    rw [← hpart] at hpt1 hpt2
    have hword : wordA bs at_ σk no = σk.put (no / 8) (splice (σk.line (no / 8)) (fr % 64) part) := by subst hpart; subst hfr; rfl
    have hpl2 : part.length = min (bs.length - (fr - at_)) (8 - fr % 8) := by rw [hpart, List.length_take, List.length_drop]; omega
    have hsrc : ∀ X : World, X.heap[ab]? = W.heap[ab]? → ∀ j v, (part.map B8)[j]? = some v → X.cell? ((⟨ab, ao + (fr - at_), none⟩ : Addr).add j) = some v := fun X hX j v hv => by
      rw [List.getElem?_map] at hv
      obtain ⟨x, hx, rfl⟩ := Option.map_eq_some_iff.1 hv
      have hj : j < part.length := (List.getElem?_eq_some_iff.1 hx).1
      rw [hpart, List.getElem?_take, if_pos (by omega), List.getElem?_drop] at hx
      rw [Addr.add_mid, Nat.add_assoc]
      exact (World.cell?_of_block (a := ⟨ab, ao + (fr - at_ + j), none⟩) hX).trans (hseg _ _ hx).1
    have off64 : no % 8 * 8 + fr % 8 = fr % 64 := by omega
    have e0 : ((no % 8 : Nat) : Int) = (no : Int) % 8 := by omega
    have e1 : ((fr % 8 : Nat) : Int) = (fr : Int) % 8 := by omega
    have e2 : ((fr - at_ : Nat) : Int) = (fr : Int) - (at_ : Int) := by omega
    have hll := line_len hlike.ok hi
    have hlr := line_range hdW hlike.ok hi
    have c3 := h3.cell
    have c4 := h4.cell
    have c5 := h5.cell
    have c1 := hdW.c1
    have l0 := fun X => index_line L'.sb (no / 8) σk.n L'.cp hi X
    have hl64 : ((σk.line (no / 8)).map B8).length = 64 := by rw [List.length_map, hll]
    have si : (Try.prog.info? 61).map (·.size) = some ((σk.line (no / 8)).map B8).toArray.size := by rw [List.size_toArray, hl64]; kernel_rfl
    have S1 := hide (all_oneCell_toArray (B8_cell (σk.line (no / 8))))
    have HL64 := hide hl64
    have SI := hide si
    clear hl64
    obtain ⟨Z, hzl, hz⟩ := zero_content
    have HZ := hide hz
    have HZL := hide hzl
    have TH : Hid (∀ X : World, (X.alloc (.cells Z.toArray 61)).there X.heap.size 0 ((σk.line (no / 8)).map B8).toArray.size) := fun X => there_row (heapNew X _) 0 _ (by rw [List.size_toArray, HL64.out, hzl]; omega)
    clear hz hzl
    have kp := fun X => part_any no at_ X (by omega) (by omega)
    rw [← hfr] at kp
    have KP := hide kp
    clear kp
    have HLR := hide hlr
    have HLL := hide hll
    have HD := hide hdW
    have HG := hide hgW
    have HSL := hide hslW
    have HF := hide hfoot
    have HS := hide hsame
    have HK := hide hlike
    have H3 := hide h3
    have H4 := hide h4
    have H5 := hide h5
    have H6 := hide h6
    have H7 := hide h7
    have H8 := hide h8
    have HSN := hide hsn
    have HSRC := hide hsrc
    have HPL2 := hide hpl2
    have HOFF := hide off64
    have HPT1 := hide hpt1
    have HPT2 := hide hpt2
    have HWORD := hide hword
    have HA := hide ha
    have HAB := hide hab
    have HHI := hide hi
    have F1 := hide f1
    have F2 := hide f2
    have F3 := hide f3
    have E0 := hide e0
    have E1 := hide e1
    have E2 := hide e2
    have HC1 := hide c1
    have frI : (fr : Int) ≤ 4194304 := by omega
    have atI : (at_ : Int) ≤ (fr : Int) := by omega
    clear hsrc hpl2 off64 hpt1 hpt2 hword hab hfr hpart f1 f2 f3 e0 e1 e2 hseg
    rw [ha] at c5
    clear ha
    have HNO := hide hno
    have HNO2 := hide hno2
    clear si hlr hll hdW hgW hslW hfoot hsame hlike hpx hsub h3 h4 h5 h6 h7 h8 hsn hmem hno hno2
    gi_wp2_with (first | (refine ⟨trivial, ?_⟩; gi_at_call 41; refine (inR (KP.out _)).mono ?_; rintro e W1 ⟨rfl, rfl⟩) | (refine wpListIn_load_mid rfl 61 (.tmp 30) rfl L'.sb (no / 8 * 64) (by kernel_rfl) ((σk.line (no / 8)).map B8) (.array 8 59) HLR.out (by kernel_rfl) rfl (by rw [List.length_map, HLL.out]; kernel_rfl) ?_) | (refine wpListIn_alloc_row rfl 61 rfl Z (HZ.out _) ?_) | (refine wpListIn_store_mid rfl 61 (.tmp 11) (.tmp 31) rfl W1.heap.size 0 ((σk.line (no / 8)).map B8).toArray (by kernel_rfl) (by kernel_rfl) (TH.out W1) SI.out S1.out ?_; have hnew := new_row (W := W1) (cur := Z) (vs := (σk.line (no / 8)).map B8) (t := 61) (HL64.out.trans HZL.out.symm); have HNEW := hide hnew; clear hnew))
    go_frame
    generalize hX : (W1.alloc (.cells Z.toArray 61)).setCells W1.heap.size 0 ((σk.line (no / 8)).map B8) = X at *
    obtain ⟨hx1, hx2, hx3⟩ := HNEW.out
    clear hX HNEW
    have TM : Hid ((fr : Int).tmod 8 = (fr : Int) % 8) := Int.tmod_eq_emod_of_nonneg (by omega)
    have WR : Hid (IntKind.i64.wrap ((fr : Int) - (at_ : Int)) = (fr : Int) - (at_ : Int)) := by show IntKind.i64.wrap _ = _; rw [IntKind.wrap_i64]; omega
    have SB1 : Hid (fr - at_ < bs.length) := by have := F1.out; have := F2.out; show _ < _; omega
    have x3 := below_boxedP hx2 H3.out
    have x4 := below_boxedP hx2 H4.out
    have x5 := below_boxedP hx2 H5.out
    rw [HA.out] at x5
    have hs1 : w.heap.size + 6 ≤ W1.heap.size := by have h2 := HG.out.size; omega
    have hxb : X.heap[ab]? = W1.heap[ab]? := hx2.block ab (by have := HAB.out; omega)
    have yg : Gr (fun k => k = W1.heap.size) X (X.drew.setRow W1.heap.size (splice ((σk.line (no / 8)).map B8) (no % 8 * 8 + fr % 8) (part.map B8)).toArray) := Gr.setRow X.drew W1.heap.size _ rfl
    have ne1 : w.heap.size + 1 ≠ W1.heap.size := by omega
    have ne2 : w.heap.size + 1 + 1 ≠ W1.heap.size := by omega
    have ne0 : w.heap.size ≠ W1.heap.size := by omega
    have y3 := yg.box x3 ne0
    have y4 := yg.box x4 ne1
    have y5 := yg.box x5 ne2
    have yn : (X.drew.setRow W1.heap.size (splice ((σk.line (no / 8)).map B8) (no % 8 * 8 + fr % 8) (part.map B8)).toArray).heap[W1.heap.size]? = some (.cells ((splice (σk.line (no / 8)) (fr % 64) part).map B8).toArray 61 (0, 0)) := by rw [heap_setRow X.drew W1.heap.size _ _ _ _ hx1, HOFF.out, splice_map]
    have s0 : X.drew.cell? ⟨w.heap.size + 1, 0, none⟩ = some (.int .i64 (at_ : Int)) ∧ X.drew.cell? ⟨w.heap.size + 1 + 1, 0, none⟩ = some (.slice (some ⟨ab, ao, none⟩) bs.length cap) := ⟨x4.cell, x5.cell⟩
    have s9 : (X.drew.setRow W1.heap.size (splice ((σk.line (no / 8)).map B8) (no % 8 * 8 + fr % 8) (part.map B8)).toArray).cell? ⟨w.heap.size + 1, 0, none⟩ = some (.int .i64 (at_ : Int)) ∧ (X.drew.setRow W1.heap.size (splice ((σk.line (no / 8)).map B8) (no % 8 * 8 + fr % 8) (part.map B8)).toArray).cell? ⟨w.heap.size + 1 + 1, 0, none⟩ = some (.slice (some ⟨ab, ao, none⟩) bs.length cap) := ⟨y4.cell, y5.cell⟩
    have hsr := HSRC.out X.drew hxb
    have hpl3 := HPL2.out
    have hfit : no % 8 * 8 + fr % 8 + (part.map B8).length ≤ ((σk.line (no / 8)).map B8).length := by rw [List.length_map, List.length_map, HLL.out]; omega
    have hcl : (part.map B8).length = Nat.min (bs.length - (fr - at_)) (8 - fr % 8) := by rw [List.length_map, hpl3]
    have HSR := hide hsr
    have HFIT := hide hfit
    have HCL := hide hcl
    have HX1 := hide hx1
    have S9 := hide s9
    have HYN := hide yn
    have HYG := hide yg
    have HX2 := hide hx2
    have Y3 := hide y3
    have HS1 := hide hs1
    clear hsr hfit hcl hx1 s9 yn yg hx2 x3 x4 x5 y3 y4 y5 hpl3 hxb hx3 ne0 ne1 ne2 hs1
    refine region_heldR (fun X => X.cell? ⟨w.heap.size + 1, 0, none⟩ = some (.int .i64 (at_ : Int)) ∧ X.cell? ⟨w.heap.size + 1 + 1, 0, none⟩ = some (.slice (some ⟨ab, ao, none⟩) bs.length cap)) (by kernel_rfl) (by kernel_rfl) (fun _ _ h => h) s0 (fun hS => ?_)
    refine wpAnyH_take (i := 0) (v := (.int .i64 ((no : Int) % 8))) rfl (by kernel_rfl) (by kernel_rfl) (by kernel_rfl) (fun _ _ _ h => h) (Or.inl ⟨by kernel_rfl, fun w' hw => by (go_simp)⟩) hS ?_
    refine wpAnyH_take (i := 1) (v := (.pointer (some ⟨W1.heap.size, no % 8 * 8, none⟩))) rfl (by kernel_rfl) (by kernel_rfl) (by kernel_rfl) (fun _ _ _ h => h) (Or.inl ⟨by kernel_rfl, fun w' hw => by (have e := index_word W1.heap.size 0 (no % 8) (by omega) w'; rw [E0.out, Nat.zero_add] at e; go_simp)⟩) hS ?_
    refine wpAnyH_take (i := 2) (v := (.int .i64 (fr : Int))) rfl (by kernel_rfl) (by kernel_rfl) (by kernel_rfl) (fun _ _ _ h => h) (Or.inl ⟨by kernel_rfl, fun w' hw => by (go_simp)⟩) hS ?_
    refine wpAnyH_take (i := 3) (v := (.int .i64 ((fr : Int) % 8))) rfl (by kernel_rfl) (by kernel_rfl) (by kernel_rfl) (fun _ _ _ h => h) (Or.inl ⟨by kernel_rfl, fun w' hw => by (have tm := TM.out; go_simp)⟩) hS ?_
    refine wpAnyH_take (i := 4) (v := (.slice (some ⟨W1.heap.size, no % 8 * 8 + fr % 8, none⟩) (8 - fr % 8) (8 - fr % 8))) rfl (by kernel_rfl) (by kernel_rfl) (by kernel_rfl) (fun _ _ _ h => h) (Or.inl ⟨by kernel_rfl, fun w' hw => by (have e := slice_word W1.heap.size (no % 8 * 8) (fr % 8) (by omega) w'; rw [E1.out] at e; go_simp)⟩) hS ?_
    refine wpAnyH_take (i := 5) (v := (.slice (some ⟨ab, ao, none⟩) bs.length cap)) rfl (by kernel_rfl) (by kernel_rfl) (by kernel_rfl) (fun _ _ _ h => h) (Or.inl ⟨by kernel_rfl, fun w' hw => by (obtain ⟨z0, z1⟩ := hw; go_simp)⟩) hS ?_
    refine wpAnyH_take (i := 6) (v := (.int .i64 (fr : Int))) rfl (by kernel_rfl) (by kernel_rfl) (by kernel_rfl) (fun _ _ _ h => h) (Or.inl ⟨by kernel_rfl, fun w' hw => by (go_simp)⟩) hS ?_
    refine wpAnyH_take (i := 7) (v := (.int .i64 (at_ : Int))) rfl (by kernel_rfl) (by kernel_rfl) (by kernel_rfl) (fun _ _ _ h => h) (Or.inl ⟨by kernel_rfl, fun w' hw => by (obtain ⟨z0, z1⟩ := hw; go_simp)⟩) hS ?_
    refine wpAnyH_take (i := 8) (v := (.int .i64 ((fr : Int) - (at_ : Int)))) rfl (by kernel_rfl) (by kernel_rfl) (by kernel_rfl) (fun _ _ _ h => h) (Or.inl ⟨by kernel_rfl, fun w' hw => by (have wr := WR.out; go_simp)⟩) hS ?_
    refine wpAnyH_take (i := 9) (v := (.slice (some ⟨ab, ao + (fr - at_), none⟩) (bs.length - (fr - at_)) (cap - (fr - at_)))) rfl (by kernel_rfl) (by kernel_rfl) (by kernel_rfl) (fun _ _ _ h => h) (Or.inl ⟨by kernel_rfl, fun w' hw => by (have e := slice_bytes ab ao (fr - at_) bs.length cap SB1.out hcap w'; rw [E2.out] at e; go_simp)⟩) hS ?_
    refine wpAnyH_op (i := 10) (by kernel_rfl) rfl (by kernel_rfl) (by kernel_rfl) (wp_copy (.tmp 36) (.tmp 41) 22 22 (by kernel_rfl) 5 Try.underlying22 (by kernel_rfl) W1.heap.size (no % 8 * 8 + fr % 8) (8 - fr % 8) (8 - fr % 8) ⟨ab, ao + (fr - at_), none⟩ (bs.length - (fr - at_)) (cap - (fr - at_)) (by kernel_rfl) (by kernel_rfl) ((σk.line (no / 8)).map B8) 61 HX1.out (part.map B8) HCL.out HSR.out HFIT.out (B8_cell part) ⟨S9.out, ?_⟩)
    simp only [Act.put, List.getElem_toArray, List.getElem_cons_zero, List.getElem_cons_succ, List.setIfInBounds_toArray, List.set_cons_zero, List.set_cons_succ]
    generalize hY : (X.drew.setRow W1.heap.size (splice ((σk.line (no / 8)).map B8) (no % 8 * 8 + fr % 8) (part.map B8)).toArray) = Y at *
    clear hY
    obtain ⟨nx, hnx⟩ : ∃ nx, nx = splice (σk.line (no / 8)) (fr % 64) part := ⟨_, rfl⟩
    rw [← hnx] at HYN HPT1 HPT2 HWORD
    have HNX := hide hnx
    clear hnx
    have hdX := HD.out.below HX2.out
    have hdY : DevL Y b L' σk := hdX.keep (fun k hk => HYG.out.block (hdX.foot_is hk) (fun e => by have := HD.out.foot_is hk; omega))
    have hOL := hO.same HS.out
    have hnl := HK.out
    have kc := pchg_any hdY hnl.ok HHI.out HPT1.out (by omega)
    have e3 : ((no / 8 : Nat) : Int) = (no : Int) / 8 := by omega
    rw [e3] at kc
    have hrn := range_all HYN.out
    have cy3 := Y3.out.cell
    have hfk : Few (σk.put (no / 8) nx) := ⟨by show σk.arms = [] ∨ _; rw [show (σk.put (no / 8) nx).arms = σ.arms from hnl.arms, hnl.arms]; exact hfw.one, by show σk.cnt < _; rw [hnl.cnt]; split <;> omega⟩
    have hpk := put_ok hnl.ok HHI.out HPT1.out HPT2.out (by rw [hnl.ops]; omega)
    have hok2 : σk.ops < 1400000000000 := by rw [hnl.ops]; omega
    have HFK := hide hfk
    have HPK := hide hpk
    have HOP2 := hide hok2
    clear hfk hpk hok2
    have KC := hide kc
    have HRN := hide hrn
    have HDY := hide hdY
    have HOL := hide hOL
    have nf : ∀ (g : Nat) (t : TypeId) (v : Value), Boxed Y g t v → w.heap.size ≤ g → ¬ HP t → ¬ Foot b L' σk g := fun g t v hb hg ht => box_foot hdY hOL hb hg ht
    have NF := hide nf
    clear kc hrn hdY hdX hOL hnl e3 nf
    have N6 := hide (box_foot HD.out HOL.out H6.out (by omega) (by unfold HP; decide))
    have HFI := Classical.em (fires (σk.put (no / 8) nx))
    rcases HFI with hF | hF
    · have HF0 := hide hF
      clear hF
      gi_wp2_with (first | (refine wpListIn_load_mid rfl 61 (.tmp 11) rfl W1.heap.size 0 (by kernel_rfl) (nx.map B8) (.array 8 59) HRN.out (by kernel_rfl) rfl (by rw [List.length_map, HPT1.out]; kernel_rfl) ?_) | (refine ⟨trivial, ?_⟩; gi_at_call 68; refine (inR (KC.out)).mono ?_; rintro e Y2 ⟨rfl, L2, hd2, hf2, hg2, hN2, hs2⟩; have y32 := hg2.box Y3.out (NF.out _ _ _ Y3.out (Nat.le_refl _) (by unfold HP; decide)); have cy32 := y32.cell; have KO := hide (poper_yes hd2 HPK.out HFK.out HOP2.out HF0.out); have HD2 := hide hd2; have HF2 := hide hf2; have HG2 := hide hg2; have HN2 := hide hN2; have HS2 := hide hs2; clear hd2 hf2 hg2 hN2 hs2 cy3) | (refine ⟨trivial, ?_⟩; gi_at_call 60; refine (inR (KO.out)).mono ?_; rintro e Y4 ⟨rfl, σ4, L4, ho4, hd4, hf4, hg4, hn4, hk4⟩; have g1 : Gr (Foot b L' σk) W1 Y4 := ((((Gr.of_below HX2.out : Gr (Foot b L' σk) W1 X).trans HYG.out (fun i e => .inr (by omega))).trans HG2.out (fun i h => .inl h)).trans hg4 (fun i h => (HF2.out i h).imp id (fun h5 => by have h6 := HYG.out.size; have h7 := HX2.out.size; omega))); have y6 := g1.box H6.out N6.out; have cy6 := y6.cell; have zy6 := y6.frozen; have Y6 := hide y6; have G1 := hide g1; have HO4 := hide ho4; have HD4 := hide hd4; have HF4 := hide hf4; have HN4 := hide hn4; have HK4 := hide hk4; have HG4 := hide hg4; clear ho4 hd4 hf4 hg4 hn4 hk4 g1 y6))
      have hdW := HD.out
      have hOL := HOL.out
      have n3 := box_foot hdW hOL H3.out (by omega) (by unfold HP; decide)
      have n4 := box_foot hdW hOL H4.out (by omega) (by unfold HP; decide)
      have n5 := box_foot hdW hOL H5.out (by omega) (by unfold HP; decide)
      have n6 := box_foot hdW hOL H6.out (by omega) (by unfold HP; decide)
      have n7 := box_foot hdW hOL H7.out (by omega) (by unfold HP; decide)
      have n8 := box_foot hdW hOL H8.out (by omega) (by unfold HP; decide)
      have hnew : ∀ i, Foot b L' σk i → i < w.heap.size ∨ w.heap.size + 6 ≤ i := fun i hi => by
        have q3 : i ≠ w.heap.size := fun e => n3 (e ▸ hi)
        have q4 : i ≠ w.heap.size + 1 := fun e => n4 (e ▸ hi)
        have q5 : i ≠ w.heap.size + 1 + 1 := fun e => n5 (e ▸ hi)
        have q6 : i ≠ w.heap.size + 1 + 1 + 1 := fun e => n6 (e ▸ hi)
        have q7 : i ≠ w.heap.size + 1 + 1 + 1 + 1 := fun e => n7 (e ▸ hi)
        have q8 : i ≠ w.heap.size + 1 + 1 + 1 + 1 + 1 := fun e => n8 (e ▸ hi)
        omega
      have g1 := G1.out
      have hz1 := HYG.out.size
      have hz2 := HX2.out.size
      have hz3 := HS1.out
      have hz4 := HG2.out.size
      have hft : ∀ k, Foot b L4 σ4 k → Foot b L' σk k ∨ w.heap.size + 6 ≤ k := fun k hk => by
        rcases HF4.out k hk with h3 | h3
        · rcases HF2.out k h3 with h4 | h4
          · exact .inl h4
          · exact .inr (by omega)
        · exact .inr (by omega)
      have hd5 : DevL (Y4.setCell ⟨w.heap.size + 1 + 1 + 1, 0, none⟩ (.int .i64 5)) b L4 σ4 := HD4.out.keep (fun k hk => heap_set_ne Y4 _ 0 k _ (fun e => by
        rcases hft k hk with h3 | h3
        · exact n6 (e ▸ h3)
        · omega))
      have g0 : Gr (Foot b L σ) w W1 := (Gr.of_below hB0).trans HG.out (fun i h => .inl h)
      have hfo : ∀ i, Foot b L' σk i → Foot b L σ i ∨ w.heap.size ≤ i := HF.out
      refine ⟨(g1.kp (fun k o hk hf => ⟨fun hn => by rcases hn with e | e; exact n7 (e ▸ hf); exact n8 (e ▸ hf), ?_⟩)).trans (Kp.set _ (fun h => by omega) (by omega)), ⟨rfl, Y6.out.set _⟩, (g0.trans g1 hfo).trans (Gr.set Y4 _ 0 _ (X := fun k => k = w.heap.size + 1 + 1 + 1) rfl) (fun i h => .inr (by omega)), L4, σ4, hd5, ⟨HK4.out.trans (HS2.out.2.2.2.2.trans HS.out.2.2.2.2), ?_⟩, ⟨pre.map Int.toNat, no, by simp, ?_⟩, fun k hk => ?_⟩
      · rcases foot_cases hdW hOL hf with h1 | ⟨o', h1, h2⟩
        · exact .inl (by omega)
        · rw [hk] at h1; cases h1; exact .inr h2
      · have h2 := HN2.out; have h3 := HN4.out; rw [List.length_append, List.length_singleton]; omega
      · rw [HGK.out, HWORD.out]; exact HO4.out
      · rcases hft k hk with h3 | h3
        · exact HF.out k h3
        · exact .inr (by omega)
    · have HF0 := hide hF
      clear hF
      gi_wp2_with (first | (refine wpListIn_load_mid rfl 61 (.tmp 11) rfl W1.heap.size 0 (by kernel_rfl) (nx.map B8) (.array 8 59) HRN.out (by kernel_rfl) rfl (by rw [List.length_map, HPT1.out]; kernel_rfl) ?_) | (refine ⟨trivial, ?_⟩; gi_at_call 68; refine (inR (KC.out)).mono ?_; rintro e Y2 ⟨rfl, L2, hd2, hf2, hg2, hN2, hs2⟩; have y32 := hg2.box Y3.out (NF.out _ _ _ Y3.out (Nat.le_refl _) (by unfold HP; decide)); have cy32 := y32.cell; have KO := hide (poper_no hd2 HPK.out HFK.out HOP2.out HF0.out); have HD2 := hide hd2; have HF2 := hide hf2; have HG2 := hide hg2; have HN2 := hide hN2; have HS2 := hide hs2; clear hd2 hf2 hg2 hN2 hs2 cy3) | (refine ⟨trivial, ?_⟩; gi_at_call 60; refine (inR (KO.out)).mono ?_; rintro e Y4 ⟨rfl, hd4, hg4⟩; have HG4 := hide hg4; have HD4 := hide hd4; clear hg4 hd4))
      have hdW := HD.out
      have hOL := HOL.out
      have n3 := box_foot hdW hOL H3.out (by omega) (by unfold HP; decide)
      have n4 := box_foot hdW hOL H4.out (by omega) (by unfold HP; decide)
      have n5 := box_foot hdW hOL H5.out (by omega) (by unfold HP; decide)
      have n6 := box_foot hdW hOL H6.out (by omega) (by unfold HP; decide)
      have n7 := box_foot hdW hOL H7.out (by omega) (by unfold HP; decide)
      have n8 := box_foot hdW hOL H8.out (by omega) (by unfold HP; decide)
      have hnew : ∀ i, Foot b L' σk i → i < w.heap.size ∨ w.heap.size + 6 ≤ i := fun i hi => by
        have q3 : i ≠ w.heap.size := fun e => n3 (e ▸ hi)
        have q4 : i ≠ w.heap.size + 1 := fun e => n4 (e ▸ hi)
        have q5 : i ≠ w.heap.size + 1 + 1 := fun e => n5 (e ▸ hi)
        have q6 : i ≠ w.heap.size + 1 + 1 + 1 := fun e => n6 (e ▸ hi)
        have q7 : i ≠ w.heap.size + 1 + 1 + 1 + 1 := fun e => n7 (e ▸ hi)
        have q8 : i ≠ w.heap.size + 1 + 1 + 1 + 1 + 1 := fun e => n8 (e ▸ hi)
        omega
      have hg4 := HG4.out
      have g1 : Gr (Foot b L' σk) W1 Y4 := (((Gr.of_below HX2.out : Gr (Foot b L' σk) W1 X).trans HYG.out (fun i e => .inr (by omega))).trans HG2.out (fun i h => .inl h)).trans hg4 (fun i h => (HF2.out i h).imp id (fun h5 => by have h6 := HYG.out.size; have h7 := HX2.out.size; omega))
      refine ⟨g1.kp (fun k o hk hf => ⟨fun hn => by rcases hn with e | e; exact n7 (e ▸ hf); exact n8 (e ▸ hf), ?_⟩), ⟨⟨g1.box H3.out n3, g1.box H4.out n4⟩, g1.box H5.out n5, g1.box H6.out n6, g1.box H7.out n7, g1.box H8.out n8⟩, ⟨g1.sl HSL.out (fun ad he hf => ?_), HG.out.trans g1 (fun i hi => ?_)⟩, L2, ?_, HS.out.trans HS2.out, ?_, fun k hk => ?_, fun af kp e _ => ?_⟩
      · rcases foot_cases hdW hOL hf with h1 | ⟨o', h1, h2⟩
        · exact .inl (by omega)
        · rw [hk] at h1; cases h1; exact .inr h2
      · obtain ⟨h1, h2⟩ := haf ad he
        rcases HF.out _ hf with h3 | h3
        · exact h2 h3
        · omega
      · rcases HF.out i hi with h3 | h3
        · exact .inl h3
        · rcases hnew i hi with h4 | h4
          · omega
          · exact .inr (by omega)
      · rw [HSN.out]; show DevL Y4 b L2 (tick (wordA bs at_ σk no)); rw [HWORD.out]; exact HD4.out
      · have h2 := HN2.out; rw [List.length_append, List.length_singleton]; omega
      · rw [HSN.out] at hk
        have hk : Foot b L2 (tick (wordA bs at_ σk no)) k := hk
        rw [HWORD.out] at hk
        rcases HF2.out k hk with h3 | h3
        · exact HF.out k h3
        · have h4 := HYG.out.size; have h5 := HX2.out.size; have h6 := HS1.out; exact .inr (by omega)
      · refine Classical.byContradiction fun hc => HF0.out ⟨af, kp, HK.out.arms.trans e, ?_⟩
        show af ≤ σk.cnt + 1
        rw [HK.out.cnt, if_neg (by rw [e]; simp)]
        rw [List.length_append, List.length_singleton] at hc
        omega
  case hdone =>
    rintro D W hD ⟨⟨⟨h3, h4⟩, h5, h6, h7, h8⟩, ⟨hslW, hgW⟩, L', hdW, hsame, hNL, hfoot, hpu⟩ hK
    have hOL := hO.same hsame
    have n6 := box_foot hdW hOL h6 (by omega) (by unfold HP; decide)
    have c6 := h6.cell
    have z6 := h6.frozen
    have hw : (unitsV 8 (at_ : Int) (bs.length : Int)).map Int.toNat = wordsOf at_ bs.length := rfl
    rw [hw] at hdW hfoot
    have hl : (unitsV 8 (at_ : Int) (bs.length : Int)).length = (wordsOf at_ bs.length).length := by unfold wordsOf; rw [List.length_map]
    rw [hl] at hNL
    have HD := hide hdW
    have HG := hide hgW
    have HF := hide hfoot
    have HS := hide hsame
    rw [hl] at hpu
    have HPU := hide hpu
    have HK := hide hK
    have H6 := hide h6
    clear hpu h3 h4 h5 h6 h7 h8 hslW hgW hdW hsame hfoot hK hw hl
    gi_wp2
    have hne : D ≠ w.heap.size + 1 + 1 + 1 := by omega
    have hK' : (W.setCell ⟨w.heap.size + 1 + 1 + 1, 0, none⟩ (.int .i64 0)).heap[D]? = some (.deferred (some [])) := (heap_set_ne W _ 0 D _ hne).trans HK.out
    refine ⟨by simp, .inl ⟨_, _, rfl, run_takeDeferred hK', ?_⟩⟩
    have hd1 : DevL (W.setCell ⟨w.heap.size + 1 + 1 + 1, 0, none⟩ (.int .i64 0)) b L' (writeG bs at_ σ (wordsOf at_ bs.length)) := HD.out.keep (fun k hk => heap_set_ne W _ 0 k _ (fun e => n6 (e ▸ hk)))
    have hgr : Gr (Foot b L σ) w ((W.setCell ⟨w.heap.size + 1 + 1 + 1, 0, none⟩ (.int .i64 0)).putObj D (.deferred none)) := by
      have g1 : Gr (Foot b L σ) w W := (Gr.of_below hB0).trans HG.out (fun i h => .inl h)
      have g2 : Gr (fun k => k = w.heap.size + 1 + 1 + 1) W (W.setCell ⟨w.heap.size + 1 + 1 + 1, 0, none⟩ (.int .i64 0)) := Gr.set W _ 0 _ rfl
      have g3 : Gr (fun k => k = D) (W.setCell ⟨w.heap.size + 1 + 1 + 1, 0, none⟩ (.int .i64 0)) ((W.setCell ⟨w.heap.size + 1 + 1 + 1, 0, none⟩ (.int .i64 0)).putObj D (.deferred none)) := Gr.of_grown (grownBy_putObj' _ D _) (fun k hk => .inl (by cases hk; rfl))
      exact (g1.trans g2 (fun i h => .inr (by omega))).trans g3 (fun i h => .inr (by omega))
    refine ⟨_, results_boxP rfl _ _ (w.heap.size + 1 + 1 + 1) _ _ rfl ((World.putObj_heap_other (Ne.symm hne)).trans (H6.out.set _)) (fun _ h => loadE h), 0, _, L', rfl, .inl ⟨rfl, rfl, fun af kp e h => HPU.out af kp e (fun e2 => h (by unfold wordsOf; rw [e2]; rfl))⟩, hd1.put_ hK' _, HF.out, hgr, hNL, HS.out.2.2.2.2, fun _ => HS.out⟩
  case hstop =>
    rintro D c pre W2 hD hpre ⟨⟨rfl, h6⟩, hgW, L', σ', hdW, ⟨hkb, hNL⟩, ⟨pr, no, hpn, hop⟩, hfoot⟩ hK
    have HD := hide hdW
    have HG := hide hgW
    have HF := hide hfoot
    have HOP := hide hop
    have HPN := hide hpn
    have HPR := hide hpre
    have HNL := hide hNL
    have HKB := hide hkb
    have H6 := hide h6
    clear h6 hgW hdW hfoot hop hpn hpre hNL hkb
    gi_wp2
    have hne : D ≠ w.heap.size + 1 + 1 + 1 := by omega
    refine ⟨by simp, .inl ⟨_, _, rfl, run_takeDeferred hK, ?_⟩⟩
    have hgr : Gr (Foot b L σ) w (W2.putObj D (.deferred none)) := HG.out.trans (Gr.of_grown (X := fun k => k = D) (grownBy_putObj' _ D _) (fun k hk => .inl (by cases hk; rfl))) (fun i h => .inr (by omega))
    have hpl := HPR.out.length_le
    have hl : (unitsV 8 (at_ : Int) (bs.length : Int)).length = (wordsOf at_ bs.length).length := by unfold wordsOf; rw [List.length_map]
    have h9 := HNL.out
    refine ⟨_, results_boxP rfl _ _ (w.heap.size + 1 + 1 + 1) _ _ rfl ((World.putObj_heap_other (Ne.symm hne)).trans H6.out) (fun _ h => loadE h), 5, σ', L', rfl, .inr ⟨rfl, pr, no, ?_, HOP.out⟩, HD.out.put_ hK _, HF.out, hgr, by omega, HKB.out, fun h => by cases h⟩
    have := HPR.out.map Int.toNat
    rw [HPN.out] at this
    exact this
end Go.Proofs.Ytmljacjbpcgijaa
namespace Go.Proofs.Ytmljacjbpcgijaa
open Go.RowKit Go.Shelf
set_option linter.unusedVariables false

section
variable {w : World} {b at_ : Nat} {L : Lay} {σ : St}
end
end Go.Proofs.Ytmljacjbpcgijaa
namespace Go.Proofs.Ytmljacjbpcgijaa
open Go.RowKit Go.Shelf
set_option linter.unusedVariables false

/-- A line is flushed; the operation is not yet counted. -/
def flA (σ : St) (i : Nat) : St := { flushDo σ i with ops := σ.ops }
theorem flA_ok {σ : St} (h : σ.Ok) (i : Nat) (hops : σ.ops < 1400000000000) : (flA σ i).Ok :=
  ⟨h.pos, h.max, h.len, h.byte, h.out, h.clen, h.cbyte, h.few, (flush_ok h i hops).flp, h.opsm⟩
section
variable {w : World} {b : Nat} {L : Lay} {σ : St}
set_option maxRecDepth 100000 in
set_option maxHeartbeats 300000 in
theorem pflush_gen (h : DevL w b L σ) (hok : σ.Ok) (ho : σ.off = false) (hfw : Few σ) (at_ : Nat) (hat : at_ < 64 * σ.n) (hops : σ.ops < 1400000000000) (hN : L.N ≤ σ.ops) : Calls Try.prog 58 #[.pointer (some ⟨b, 0, none⟩), .int .i64 (at_ : Int)] w fun e w' =>
    ∃ c σ' L', e = .returned (.int .i64 c) ∧ Opd (flA σ (at_ / 64)) c σ' ∧ DevL w' b L' σ' ∧ (∀ k, Foot b L' σ' k → Foot b L σ k ∨ w.heap.size ≤ k) ∧ Gr (Foot b L σ) w w' ∧ L'.N ≤ L.N + 1 ∧ L'.KB = L.KB ∧ (c = 0 → SameL L L') := by
  have hmx := hok.max
  have ks := pstate_any h
  rw [ho] at ks
  simp only [Bool.false_eq_true, if_false] at ks
  have kh := pholds_any h hok.max (at_ : Int) 1 (by omega) (by omega)
  have hb : hasB σ (at_ : Int) 1 = true := by unfold hasB; simp; omega
  rw [hb] at kh
  obtain ⟨i, hi⟩ : ∃ i, i = at_ / 64 := ⟨_, rfl⟩
  have hin : i < σ.n := by omega
  have hiI : (at_ : Int) / 64 = (i : Int) := by omega
  have htd : (at_ : Int).tdiv 64 = (i : Int) := by rw [Int.tdiv_eq_ediv_of_nonneg (by omega)]; omega
  have hwf := wfI (i := i) (by omega)
  have c2 := h.c2
  have c3 := h.c3
  rw [← hi]
  have KS := hide ks
  have KH := hide kh
  have HOLD := hide h.old
  have HFL := hide h.flm
  have HD := hide h
  have HOK := hide hok
  have HT := hide htd
  have atI : (at_ : Int) ≤ 4194304 := by omega
  by_cases hp : σ.past i = []
  · have hof : oldF L σ (i : Int) = none := by unfold oldF; rw [if_neg (fun h => h.2 (by simpa using hp))]
    have HOF := hide hof
    have hfd : flushDo σ i = { σ with ops := σ.ops + 1 } := by
      unfold flushDo
      congr 1
      funext j
      rw [if_neg (fun e => e.2 hp)]
    have hfa : flA σ i = σ := by unfold flA; rw [hfd]
    have ko := poper_gen h (ok_more hok hops) hfw hops
    have KO := hide ko
    rw [hfa]
    clear h hok ks kh hp hof hi hb htd ko hfd hfa hfw
    go_enter Try.func58, Try.ntmps58
    go_wp2_with (first | (go_at_call 23; refine (KS.out).mono ?_; rintro e w' ⟨rfl, hw⟩; obtain rfl := hw.symm) | (go_at_call 39; refine (KH.out).mono ?_; rintro e w' ⟨rfl, hw⟩; obtain rfl := hw.symm) | (at_lookup; refine wpList_look_none rfl (.tmp 24) (.tmp 25) rfl L.ob L.N (oldF L σ) (by kernel_rfl) HOLD.out i (by simp [Act.eval]) hwf HOF.out ?_) | (go_at_call 60; refine (KO.out).mono ?_; rintro e w' ⟨c, σ', L', rfl, hr⟩; have HR := hide hr; clear hr))
    go_ret
    obtain ⟨r1, r2, r3, r4, r5, r6⟩ := HR.out
    exact ⟨c, σ', L', rfl, r1, r2, r3, r4, by omega, r6.1, fun h0 => by rw [r6.2 h0]; exact SameL.refl L⟩
  · have hof : oldF L σ (i : Int) = some (L.pb i) := by unfold oldF; rw [if_pos ⟨by omega, by simpa using hp⟩]; simp
    obtain ⟨n, hn⟩ : ∃ n, n = (σ.past i).length := ⟨_, rfl⟩
    have hp1 := (h.pasts i hp).1
    rw [← hn] at hp1
    have hfew := hok.few i
    have hnf := wfI (i := n) (by omega)
    obtain ⟨e2, q2, hfb⟩ := h.flm.block
    have hfd : flushDo σ i = { ({ σ with fl := fun j => if j = i then some n else σ.fl j } : St) with ops := σ.ops + 1 } := by
      unfold flushDo
      congr 1
      funext j
      show _ = (if j = i then some n else σ.fl j)
      by_cases e : j = i
      · rw [if_pos ⟨e, hp⟩, if_pos e, hn]
      · rw [if_neg (fun h => e h.1), if_neg e]
    have hf : ∀ x, (fun y : Int => if y = (i : Int) then some n else flF σ y) x = flF { σ with fl := fun j => if j = i then some n else σ.fl j } x := fun x => by
      unfold flF
      simp only
      by_cases e : x = (i : Int)
      · subst e; simp
      · rw [if_neg e]
        by_cases h0 : 0 ≤ x
        · rw [if_pos h0, if_pos h0, if_neg (by omega)]
        · rw [if_neg h0, if_neg h0]
    have hfa : flA σ i = { σ with fl := fun j => if j = i then some n else σ.fl j } := by unfold flA; rw [hfd]
    have ko : ∀ W9 : World, w.drew.grownBy W9 (some L.fb) → MapG (plainElem Try.prog 3) numD W9 L.fb (L.N + 1) (fun y => if y = (i : Int) then some n else flF σ y) → Calls Try.prog 60 #[.pointer (some ⟨b, 0, none⟩)] W9 fun e w' => ∃ c σ' L', e = .returned (.int .i64 c) ∧ Opd (flA σ i) c σ' ∧ DevL w' b L' σ' ∧ (∀ k, Foot b L' σ' k → Foot b L σ k ∨ W9.heap.size ≤ k) ∧ Gr (Foot b L σ) W9 w' ∧ L'.N ≤ L.N + 1 ∧ L'.KB = L.KB ∧ (c = 0 → L' = { L with N := L.N + 1 }) := fun W9 hg hm => by
      have hg' : w.grownBy W9 (some L.fb) := ⟨hg.os, hg.tape, hg.output, hg.size, hg.block⟩
      have hd9 := dev_fl h hg' (hm.congr hf)
      rw [← hfa] at hd9
      exact poper_gen hd9 (flush_ok hok i hops) ⟨hfw.one, hfw.cnt⟩ hops
    have s0 : w.drew.cell? ⟨b, 3, none⟩ = some (.map (some L.fb)) ∧ w.drew.cell? ⟨L.pb i, 1, none⟩ = some (.int .i64 (n : Int)) := ⟨h.c3, cell8 hp1 1⟩
    have s9 : ∀ W9 : World, w.drew.grownBy W9 (some L.fb) → W9.cell? ⟨b, 3, none⟩ = some (.map (some L.fb)) ∧ W9.cell? ⟨L.pb i, 1, none⟩ = some (.int .i64 (n : Int)) := fun W9 hg =>
      ⟨cell8 ((hg.block b (lt_of_heap h.dev) (fun e => ne_map h.dev hfb (Option.some.inj e))).trans h.dev) 3, cell8 ((hg.block _ (lt_of_heap hp1) (fun e => ne_map hp1 hfb (Option.some.inj e))).trans hp1) 1⟩
    have hfl2 : MapG (plainElem Try.prog 3) numD w.drew L.fb L.N (flF σ) := h.flm.of_block rfl
    have HFL2 := hide hfl2
    clear hfl2
    have KO := hide ko
    have S9 := hide s9
    have HOF := hide hof
    have hNm : L.N < maxLen := by unfold maxLen; omega
    have HNM := hide hNm
    have HNF := hide hnf
    clear h hok ks kh hp hof hi hb htd ko hfd hfa hfw s9 hp1 hn hfb hf hnf hNm hfew
    go_enter Try.func58, Try.ntmps58
    go_wp2_with (first | (go_at_call 23; refine (KS.out).mono ?_; rintro e w' ⟨rfl, hw⟩; obtain rfl := hw.symm) | (go_at_call 39; refine (KH.out).mono ?_; rintro e w' ⟨rfl, hw⟩; obtain rfl := hw.symm) | (at_lookup; refine wpList_look_some rfl (.tmp 24) (.tmp 25) rfl L.ob L.N (oldF L σ) (by kernel_rfl) HOLD.out i (by simp [Act.eval]) hwf (L.pb i) HOF.out ?_))
    refine wp_region_held_drew (S := fun X => X.cell? ⟨b, 3, none⟩ = some (.map (some L.fb)) ∧ X.cell? ⟨L.pb i, 1, none⟩ = some (.int .i64 (n : Int))) (by kernel_rfl) s0 (fun hS => ?_)
    refine wpAnyH_take (i := 0) (v := (.pointer (some ⟨b, 0, none⟩))) rfl (by kernel_rfl) (by kernel_rfl) (by kernel_rfl) (fun _ _ _ h => h) (Or.inl ⟨by kernel_rfl, fun w' hw => by (go_simp)⟩) hS ?_
    refine wpAnyH_take (i := 1) (v := (.pointer (some ⟨b, 0, none⟩))) rfl (by kernel_rfl) (by kernel_rfl) (by kernel_rfl) (fun _ _ _ h => h) (Or.inl ⟨by kernel_rfl, fun w' hw => by (go_simp)⟩) hS ?_
    refine wpAnyH_take (i := 2) (v := (.pointer (some ⟨b, 3, none⟩))) rfl (by kernel_rfl) (by kernel_rfl) (by kernel_rfl) (fun _ _ _ h => h) (Or.inl ⟨by kernel_rfl, fun w' hw => by (go_simp)⟩) hS ?_
    refine wpAnyH_take (i := 3) (v := (.map (some L.fb))) rfl (by kernel_rfl) (by kernel_rfl) (by kernel_rfl) (fun _ _ _ h => h) (Or.inl ⟨by kernel_rfl, fun w' hw => by (obtain ⟨z0, z1⟩ := hw; go_simp)⟩) hS ?_
    refine wpAnyH_take (i := 4) (v := (.int .i64 (i : Int))) rfl (by kernel_rfl) (by kernel_rfl) (by kernel_rfl) (fun _ _ _ h => h) (Or.inl ⟨by kernel_rfl, fun w' hw => by (go_simp)⟩) hS ?_
    refine wpAnyH_take (i := 5) (v := (.pointer (some ⟨L.pb i, 0, none⟩))) rfl (by kernel_rfl) (by kernel_rfl) (by kernel_rfl) (fun _ _ _ h => h) (Or.inl ⟨by kernel_rfl, fun w' hw => by (go_simp)⟩) hS ?_
    refine wpAnyH_take (i := 6) (v := (.pointer (some ⟨L.pb i, 0, none⟩))) rfl (by kernel_rfl) (by kernel_rfl) (by kernel_rfl) (fun _ _ _ h => h) (Or.inl ⟨by kernel_rfl, fun w' hw => by (go_simp)⟩) hS ?_
    refine wpAnyH_take (i := 7) (v := (.pointer (some ⟨L.pb i, 1, none⟩))) rfl (by kernel_rfl) (by kernel_rfl) (by kernel_rfl) (fun _ _ _ h => h) (Or.inl ⟨by kernel_rfl, fun w' hw => by (go_simp)⟩) hS ?_
    refine wpAnyH_take (i := 8) (v := (.int .i64 (n : Int))) rfl (by kernel_rfl) (by kernel_rfl) (by kernel_rfl) (fun _ _ _ h => h) (Or.inl ⟨by kernel_rfl, fun w' hw => by (obtain ⟨z0, z1⟩ := hw; go_simp)⟩) hS ?_
    refine wpAnyH_put_num (z := 9) (.tmp 33) (.tmp 34) (.tmp 38) L.fb L.N (flF σ) i n (by kernel_rfl) rfl (by kernel_rfl) (by kernel_rfl) (by kernel_rfl) (by kernel_rfl) (by kernel_rfl) (by kernel_rfl) HFL2.out HNM.out hwf HNF.out (fun W9 hm9 hg9 => ⟨S9.out W9 hg9, ?_⟩)
    have K9 := hide (KO.out W9 hg9 hm9)
    have HG9 := hide hg9
    clear hg9 hm9
    simp only [Act.put, List.getElem_toArray, List.getElem_cons_zero, List.getElem_cons_succ, List.setIfInBounds_toArray, List.set_cons_zero, List.set_cons_succ]
    go_wp2_with (go_at_call 60; refine (K9.out).mono ?_; rintro e w' ⟨c, σ', L', rfl, hr⟩; have HR := hide hr; clear hr)
    go_ret
    obtain ⟨r1, r2, r3, r4, r5⟩ := HR.out
    have hg : w.grownBy W9 (some L.fb) := ⟨HG9.out.os, HG9.out.tape, HG9.out.output, HG9.out.size, HG9.out.block⟩
    exact ⟨c, σ', L', rfl, r1, r2, fun k hk => (r3 k hk).imp id (fun h => Nat.le_trans hg.size h), (Gr.of_grown (w := w) (X := Foot b L σ) hg (fun k hk => .inl (by cases hk; exact .inr (.inr (.inr (.inl rfl)))))).trans r4 (fun k h => .inl h), r5.1, r5.2.1, fun h0 => by rw [r5.2.2 h0]; exact ⟨rfl, rfl, rfl, rfl, rfl⟩⟩
end
end Go.Proofs.Ytmljacjbpcgijaa
namespace Go.Proofs.Ytmljacjbpcgijaa
open Go.RowKit Go.Shelf
set_option linter.unusedVariables false
attribute [local go_sem] Oper.semAt_some

def linesG (σ : St) (ls : List Nat) : St := ls.foldl (fun s i => tick (flA s i)) σ
theorem linesG_snoc (σ : St) (ls : List Nat) (i : Nat) : linesG σ (ls ++ [i]) = tick (flA (linesG σ ls) i) := by simp [linesG]
theorem linesG_like : ∀ (ls : List Nat) (σ : St), σ.Ok → σ.ops + ls.length ≤ 1400000000000 → (linesG σ ls).Ok ∧ (linesG σ ls).n = σ.n ∧ (linesG σ ls).ops = σ.ops + ls.length ∧ (linesG σ ls).arms = σ.arms ∧ (linesG σ ls).off = σ.off ∧ (linesG σ ls).cnt = if σ.arms = [] then σ.cnt else σ.cnt + ls.length
  | [], σ, hok, _ => ⟨hok, rfl, rfl, rfl, rfl, by show σ.cnt = if σ.arms = [] then σ.cnt else σ.cnt + 0; split <;> rfl⟩
  | i :: ls, σ, hok, h => by
    rw [List.length_cons] at h
    obtain ⟨h1, h2, h3, h4, h5, h6⟩ := linesG_like ls (tick (flA σ i)) (tick_ok (flush_ok hok i (by omega))) (by show σ.ops + 1 + _ ≤ _; omega)
    refine ⟨h1, h2, h3.trans (by show σ.ops + 1 + _ = _; rw [List.length_cons]; omega), h4, h5, h6.trans ?_⟩
    show (if σ.arms = [] then (if σ.arms = [] then σ.cnt else σ.cnt + 1) else (if σ.arms = [] then σ.cnt else σ.cnt + 1) + ls.length) = _
    rw [List.length_cons]
    by_cases e : σ.arms = []
    · simp only [if_pos e]
    · simp only [if_neg e]; omega
/-- What the flushes leave, and what is answered. -/
def FlD (σ : St) (ls : List Nat) (c : Int) (σ' : St) : Prop :=
  (c = 0 ∧ σ' = linesG σ ls ∧ ∀ af kp, σ.arms = [(af, kp)] → ls ≠ [] → σ.cnt + ls.length < af) ∨
  (c = 5 ∧ ∃ pre no, pre ++ [no] <+: ls ∧ Opd (flA (linesG σ pre) no) 5 σ')
set_option maxRecDepth 100000 in
set_option maxHeartbeats 1000000 in
theorem qflushG_in {w : World} {b at_ n : Nat} {L : Lay} {σ : St} (h : DevL w b L σ) (hok : σ.Ok) (ho : σ.off = false) (hN : L.N ≤ σ.ops) (hfw : Few σ) (hcn : σ.cnt + 600000 ≤ 1400000000000) (hlen : at_ + n ≤ 64 * σ.n) (hops : σ.ops + 600000 ≤ 1400000000000) :
    CallsIn Fence.wide 3 Try.prog 46 #[.agg #[.pointer (some ⟨b, 0, none⟩), .int .i64 (at_ : Int), .int .i64 (n : Int)]] w fun e w' => ∃ c σ' L', e = .returned (.int .i64 c) ∧ FlD σ (linesOf at_ n) c σ' ∧ DevL w' b L' σ' ∧ (∀ k, Foot b L' σ' k → Foot b L σ k ∨ w.heap.size ≤ k) ∧ Gr (Foot b L σ) w w' ∧ L'.N ≤ L.N + (linesOf at_ n).length ∧ L'.KB = L.KB ∧ (c = 0 → SameL L L') := by
  have hnm := hok.max
  have hO := h.old_
  refine callsIn_of_wp_marks Try.func46 rfl trivial ?_ rfl
  simp only [Try.ntmps46, List.size_toArray, List.length_cons, List.length_nil, Nat.reduceAdd, Nat.reduceSub, Array.replicate_succ, Array.replicate_zero, List.push_toArray, List.append_toArray, List.nil_append, List.cons_append]
  gi_wp2_with (refine ⟨trivial, ?_⟩; gi_at_call 53; refine (lines_in _ _ trivial rfl (at_ : Int) (n : Int) _).mono ?_; rintro e w' ⟨rfl, rfl⟩)
  have hB0 : Below w.heap.size w ((((w.alloc (.cells #[.pointer (some ⟨b, 0, none⟩), .int .i64 (at_ : Int), .int .i64 (n : Int)] 91)).alloc (.cells #[.int .i64 0] 28)).alloc (.cells #[.int .i64 (at_ : Int)] 3)).alloc (.cells #[.int .i64 (n : Int)] 3)) := ((((Below.refl _ w).alloc (Nat.le_refl _) _).alloc (by simp) _).alloc (by simp; omega) _).alloc (by simp; omega) _
  have hsz : ((((w.alloc (.cells #[.pointer (some ⟨b, 0, none⟩), .int .i64 (at_ : Int), .int .i64 (n : Int)] 91)).alloc (.cells #[.int .i64 0] 28)).alloc (.cells #[.int .i64 (at_ : Int)] 3)).alloc (.cells #[.int .i64 (n : Int)] 3)).heap.size = w.heap.size + 4 := by simp
  have b3 : ((((w.alloc (.cells #[.pointer (some ⟨b, 0, none⟩), .int .i64 (at_ : Int), .int .i64 (n : Int)] 91)).alloc (.cells #[.int .i64 0] 28)).alloc (.cells #[.int .i64 (at_ : Int)] 3)).alloc (.cells #[.int .i64 (n : Int)] 3)).heap[w.heap.size]? = some (.cells #[.pointer (some ⟨b, 0, none⟩), .int .i64 (at_ : Int), .int .i64 (n : Int)] 91 (0, 0)) := by
    rw [Below.heap_alloc _ _ _ (by simp; omega), Below.heap_alloc _ _ _ (by simp; omega), Below.heap_alloc _ _ _ (by simp)]
    exact heap_alloc_new w _
  have b6 := ((Boxed.new (w.alloc (.cells #[.pointer (some ⟨b, 0, none⟩), .int .i64 (at_ : Int), .int .i64 (n : Int)] 91)) 28 (.int .i64 0)).alloc (.cells #[.int .i64 (at_ : Int)] 3)).alloc (.cells #[.int .i64 (n : Int)] 3)
  have b7 := (Boxed.new ((w.alloc (.cells #[.pointer (some ⟨b, 0, none⟩), .int .i64 (at_ : Int), .int .i64 (n : Int)] 91)).alloc (.cells #[.int .i64 0] 28)) 3 (.int .i64 (at_ : Int))).alloc (.cells #[.int .i64 (n : Int)] 3)
  have b8 := Boxed.new (((w.alloc (.cells #[.pointer (some ⟨b, 0, none⟩), .int .i64 (at_ : Int), .int .i64 (n : Int)] 91)).alloc (.cells #[.int .i64 0] 28)).alloc (.cells #[.int .i64 (at_ : Int)] 3)) 3 (.int .i64 (n : Int))
  simp only [World.size_alloc] at b6 b7 b8
  obtain ⟨W0, hW0⟩ : ∃ W0, ((((w.alloc (.cells #[.pointer (some ⟨b, 0, none⟩), .int .i64 (at_ : Int), .int .i64 (n : Int)] 91)).alloc (.cells #[.int .i64 0] 28)).alloc (.cells #[.int .i64 (at_ : Int)] 3)).alloc (.cells #[.int .i64 (n : Int)] 3)) = W0 := ⟨_, rfl⟩
  rw [hW0] at b3 b6 b7 b8 hB0 hsz ⊢
  clear hW0
  have hd0 := h.below hB0
  apply rangeX (gf := 64) (lb := #[.pointer (some ⟨w.heap.size + 1 + 1, 0, none⟩), .pointer (some ⟨w.heap.size + 1 + 1 + 1, 0, none⟩)]) (encs := encI) rfl (enters_of Try.func64 (by kernel_rfl) rfl)
    (lines_x HP (fun k => k = w.heap.size + 1 + 1 ∨ k = w.heap.size + 1 + 1 + 1) (w.heap.size + 1 + 1) (w.heap.size + 1 + 1 + 1) (at_ : Int) (n : Int) W0 (by omega) (by omega) b7.cell b8.cell (by omega) (by omega)) (Below.refl _ _) (fun k hk => by omega) (fun _ => rfl)
    (fun pre W' => (W'.heap[w.heap.size]? = some (.cells #[.pointer (some ⟨b, 0, none⟩), .int .i64 (at_ : Int), .int .i64 (n : Int)] 91 (0, 0)) ∧ (Boxed W' (w.heap.size + 1) 28 (.int .i64 0) ∧ (Boxed W' (w.heap.size + 1 + 1) 3 (.int .i64 (at_ : Int)) ∧ Boxed W' (w.heap.size + 1 + 1 + 1) 3 (.int .i64 (n : Int))))) ∧ (Gr (Foot b L σ) W0 W' ∧ ∃ L', DevL W' b L' (linesG σ (pre.map Int.toNat)) ∧ (SameL L L' ∧ L'.N ≤ L.N + pre.length ∧ (∀ k, Foot b L' (linesG σ (pre.map Int.toNat)) k → Foot b L σ k ∨ w.heap.size ≤ k) ∧ ∀ af kp, σ.arms = [(af, kp)] → pre ≠ [] → σ.cnt + pre.length < af)))
    (fun c pre W' => (c = .ret ∧ Boxed W' (w.heap.size + 1) 28 (.int .i64 5)) ∧ (Gr (Foot b L σ) w W' ∧ ∃ L' σ', DevL W' b L' σ' ∧ ((L'.KB = L.KB ∧ L'.N ≤ L.N + pre.length) ∧ (∃ pr no, pre.map Int.toNat = pr ++ [no] ∧ Opd (flA (linesG σ pr) no) 5 σ') ∧ ∀ k, Foot b L' σ' k → Foot b L σ k ∨ w.heap.size ≤ k)))
    (Stab.and (Stab.and (Stab.blk _ (by omega)) (Stab.and (Stab.box _ _ (by omega)) (Stab.and (Stab.box _ _ (by omega)) (Stab.box _ _ (by omega))))) (Stab.and (stab_gr (Nat.le_refl _)) (fun s W W' hJ hs => by obtain ⟨L', h1, h2, h3⟩ := hJ; exact ⟨L', stab_dev (σ := fun _ : Unit => linesG σ (s.map Int.toNat)) (hO.same h2) (by omega) () W W' h1 hs, h2, h3⟩)))
    (fun c => Stab.and (Stab.and (Stab.pure _) (Stab.box _ _ (by omega))) (Stab.and (stab_gr (by omega)) (fun s W W' hJ hs => by obtain ⟨L', σ', h1, h2⟩ := hJ; exact ⟨L', σ', dev_sub h1 (fun k hk => by rw [h2.1.1] at hk; have := hO.kb k hk; omega) hs, h2⟩)))
    ⟨⟨b3, b6, b7, b8⟩, Gr.refl _ _, L, hd0, SameL.refl L, by simp, fun k hk => .inl hk, fun _ _ _ h => absurd rfl h⟩
  case hassign =>
    intro l' x W' K hK
    simp only [encI]
    gi_wp2
    exact hK
  case hbody =>
    rintro l' pre x W ⟨⟨h3, h6, h7, h8⟩, hgW, L', hdW, hsame, hNL, hfoot, _⟩ hpx
    obtain ⟨no, rfl, hno, hpl⟩ := unit_told hlen hnm hpx
    obtain ⟨k1, k2, k3, k4, k5, k6⟩ := linesG_like (pre.map Int.toNat) σ hok (by rw [List.length_map]; omega)
    rw [List.length_map] at k3
    have hsn : linesG σ ((pre ++ [(no : Int)]).map Int.toNat) = tick (flA (linesG σ (pre.map Int.toNat)) no) := by rw [List.map_append, List.map_cons, List.map_nil, linesG_snoc]; rfl
    generalize hgk : linesG σ (pre.map Int.toNat) = σk at *
    have HGK := hide hgk
    clear hgk
    rw [List.length_map] at k6
    have HCT := hide k6
    have HAR := hide k4
    have hfk : Few σk := ⟨by rw [k4]; exact hfw.one, by rw [k6]; split <;> omega⟩
    have kf := pflush_gen hdW k1 (k5.trans ho) hfk (no * 64) (by omega) (by omega) (by omega)
    rw [show no * 64 / 64 = no by omega] at kf
    have e3 : ((no * 64 : Nat) : Int) = (no : Int) * 64 := by omega
    rw [e3] at kf
    have c3 := cell8 h3 0
    have noI : (no : Int) ≤ 65536 := by omega
    have hOL := hO.same hsame
    have n3 := blk_foot hdW hOL h3 (by omega) (by unfold HP; decide)
    have n6 := box_foot hdW hOL h6 (by omega) (by unfold HP; decide)
    have n7 := box_foot hdW hOL h7 (by omega) (by unfold HP; decide)
    have n8 := box_foot hdW hOL h8 (by omega) (by unfold HP; decide)
    have KF := hide kf
    have HD := hide hdW
    have HG := hide hgW
    have HF := hide hfoot
    have HS := hide hsame
    have H3 := hide h3
    have H6 := hide h6
    have H7 := hide h7
    have H8 := hide h8
    have HSN := hide hsn
    have HOL := hide hOL
    have HNL := hide hNL
    clear kf hdW hgW hfoot hsame h3 h6 h7 h8 hsn hpx k1 k2 k3 k4 k5 k6 hNL hOL hfk
    have N6 := hide n6
    rcases Classical.em (fires (flA σk no)) with hF | hF
    · have HF0 := hide hF
      clear hF
      gi_wp2_with (refine ⟨trivial, ?_⟩; gi_at_call 58; refine (inR (KF.out)).mono ?_; rintro e W1 ⟨c, σ2, L2, rfl, ho2, hd2, hf2, hg2, hN2, hk2, hs2⟩; obtain rfl := ho2.yes HF0.out; have y6 := hg2.box H6.out N6.out; have cy6 := y6.cell; have zy6 := y6.frozen; have Y6 := hide y6; have HO2 := hide ho2; have HD2 := hide hd2; have HF2 := hide hf2; have HG2 := hide hg2; have HN2 := hide hN2; have HK2 := hide hk2; clear ho2 hd2 hf2 hg2 hN2 hk2 hs2 y6)
      have hdW := HD.out
      have hOL := HOL.out
      have g1 := HG2.out
      have h2 := HN2.out
      have h3 := HNL.out
      have h4 := HG.out.size
      have hd5 : DevL (W1.setCell ⟨w.heap.size + 1, 0, none⟩ (.int .i64 5)) b L2 σ2 := HD2.out.keep (fun k hk => heap_set_ne W1 _ 0 k _ (fun e => by
        rcases HF2.out k hk with h5 | h5
        · exact N6.out (e ▸ h5)
        · omega))
      have g0 : Gr (Foot b L σ) w W := (Gr.of_below hB0).trans HG.out (fun i h => .inl h)
      refine ⟨(g1.kp (fun k o hk hf => ⟨fun hn => by rcases hn with e | e; exact n7 (e ▸ hf); exact n8 (e ▸ hf), ?_⟩)).trans (Kp.set _ (fun h => by omega) (by omega)), ⟨rfl, Y6.out.set _⟩, (g0.trans g1 HF.out).trans (Gr.set W1 _ 0 _ (X := fun k => k = w.heap.size + 1) rfl) (fun i h => .inr (by omega)), L2, σ2, hd5, ⟨HK2.out.trans HS.out.2.2.2.2, ?_⟩, ⟨pre.map Int.toNat, no, by simp, ?_⟩, fun k hk => ?_⟩
      · rcases foot_cases hdW hOL hf with h1 | ⟨o', h1, h2⟩
        · exact .inl (by omega)
        · rw [hk] at h1; cases h1; exact .inr h2
      · rw [List.length_append, List.length_singleton]; omega
      · rw [HGK.out]; exact HO2.out
      · rcases HF2.out k hk with h5 | h5
        · exact HF.out k h5
        · exact .inr (by omega)
    · have HF0 := hide hF
      clear hF
      gi_wp2_with (refine ⟨trivial, ?_⟩; gi_at_call 58; refine (inR (KF.out)).mono ?_; rintro e W1 ⟨c, σ2, L2, rfl, ho2, hd2, hf2, hg2, hN2, hk2, hs2⟩; obtain ⟨rfl, rfl⟩ := ho2.no HF0.out; have HS2 := hide (hs2 rfl); have HD2 := hide hd2; have HF2 := hide hf2; have HG2 := hide hg2; have HN2 := hide hN2; have HK2 := hide hk2; clear ho2 hd2 hf2 hg2 hN2 hk2 hs2)
      have hdW := HD.out
      have hOL := HOL.out
      have g1 := HG2.out
      have h2 := HN2.out
      have h3 := HNL.out
      have h4 := HG.out.size
      refine ⟨g1.kp (fun k o hk hf => ⟨fun hn => by rcases hn with e | e; exact n7 (e ▸ hf); exact n8 (e ▸ hf), ?_⟩), ⟨(g1.block (lt_of_heap H3.out) n3).trans H3.out, g1.box H6.out n6, g1.box H7.out n7, g1.box H8.out n8⟩, HG.out.trans g1 (fun i hi => ?_), L2, ?_, HS.out.trans HS2.out, ?_, fun k hk => ?_, fun af kp e _ => ?_⟩
      · rcases foot_cases hdW hOL hf with h1 | ⟨o', h1, h2⟩
        · exact .inl (by omega)
        · rw [hk] at h1; cases h1; exact .inr h2
      · rcases HF.out i hi with h5 | h5
        · exact .inl h5
        · have q3 : i ≠ w.heap.size := fun e => n3 (e ▸ hi)
          have q6 : i ≠ w.heap.size + 1 := fun e => n6 (e ▸ hi)
          have q7 : i ≠ w.heap.size + 1 + 1 := fun e => n7 (e ▸ hi)
          have q8 : i ≠ w.heap.size + 1 + 1 + 1 := fun e => n8 (e ▸ hi)
          exact .inr (by omega)
      · rw [HSN.out]; exact HD2.out
      · rw [List.length_append, List.length_singleton]; omega
      · rw [HSN.out] at hk
        rcases HF2.out k hk with h5 | h5
        · exact HF.out k h5
        · exact .inr (by omega)
      · refine Classical.byContradiction fun hc => HF0.out ⟨af, kp, HAR.out.trans e, ?_⟩
        show af ≤ σk.cnt + 1
        rw [HCT.out, if_neg (by rw [e]; simp)]
        rw [List.length_append, List.length_singleton] at hc
        omega
  case hdone =>
    rintro D W hD ⟨⟨h3, h6, h7, h8⟩, hgW, L', hdW, hsame, hNL, hfoot, hpu⟩ hK
    have hOL := hO.same hsame
    have n6 := box_foot hdW hOL h6 (by omega) (by unfold HP; decide)
    have c6 := h6.cell
    have z6 := h6.frozen
    have hl : (unitsV 64 (at_ : Int) (n : Int)).length = (linesOf at_ n).length := by unfold linesOf; rw [List.length_map]
    rw [hl] at hNL hpu
    have HPU := hide hpu
    clear hpu
    have hd' : DevL W b L' (linesG σ (linesOf at_ n)) := hdW
    have hf' : ∀ k, Foot b L' (linesG σ (linesOf at_ n)) k → Foot b L σ k ∨ w.heap.size ≤ k := hfoot
    have HD := hide hd'
    have HG := hide hgW
    have HF := hide hf'
    have HS := hide hsame
    have HK := hide hK
    have H6 := hide h6
    clear h3 h6 h7 h8 hgW hdW hsame hfoot hK hl hd' hf'
    gi_wp2
    have hne : D ≠ w.heap.size + 1 := by omega
    have hK' : (W.setCell ⟨w.heap.size + 1, 0, none⟩ (.int .i64 0)).heap[D]? = some (.deferred (some [])) := (heap_set_ne W _ 0 D _ hne).trans HK.out
    refine ⟨by simp, .inl ⟨_, _, rfl, run_takeDeferred hK', ?_⟩⟩
    have hd1 : DevL (W.setCell ⟨w.heap.size + 1, 0, none⟩ (.int .i64 0)) b L' (linesG σ (linesOf at_ n)) := HD.out.keep (fun k hk => heap_set_ne W _ 0 k _ (fun e => n6 (e ▸ hk)))
    have hgr : Gr (Foot b L σ) w ((W.setCell ⟨w.heap.size + 1, 0, none⟩ (.int .i64 0)).putObj D (.deferred none)) := by
      have g1 : Gr (Foot b L σ) w W := (Gr.of_below hB0).trans HG.out (fun i h => .inl h)
      have g2 : Gr (fun k => k = w.heap.size + 1) W (W.setCell ⟨w.heap.size + 1, 0, none⟩ (.int .i64 0)) := Gr.set W _ 0 _ rfl
      have g3 : Gr (fun k => k = D) (W.setCell ⟨w.heap.size + 1, 0, none⟩ (.int .i64 0)) ((W.setCell ⟨w.heap.size + 1, 0, none⟩ (.int .i64 0)).putObj D (.deferred none)) := Gr.of_grown (grownBy_putObj' _ D _) (fun k hk => .inl (by cases hk; rfl))
      exact (g1.trans g2 (fun i h => .inr (by omega))).trans g3 (fun i h => .inr (by omega))
    refine ⟨_, results_boxP rfl _ _ (w.heap.size + 1) _ _ rfl ((World.putObj_heap_other (Ne.symm hne)).trans (H6.out.set _)) (fun _ h => loadE h), 0, _, L', rfl, .inl ⟨rfl, rfl, fun af kp e h => HPU.out af kp e (fun e2 => h (by unfold linesOf; rw [e2]; rfl))⟩, hd1.put_ hK' _, HF.out, hgr, hNL, HS.out.2.2.2.2, fun _ => HS.out⟩
  case hstop =>
    rintro D c pre W2 hD hpre ⟨⟨rfl, h6⟩, hgW, L', σ', hdW, ⟨hkb, hNL⟩, ⟨pr, no, hpn, hop⟩, hfoot⟩ hK
    have HD := hide hdW
    have HG := hide hgW
    have HF := hide hfoot
    have HOP := hide hop
    have HPN := hide hpn
    have HPR := hide hpre
    have HNL := hide hNL
    have HKB := hide hkb
    have H6 := hide h6
    clear h6 hgW hdW hfoot hop hpn hpre hNL hkb
    gi_wp2
    have hne : D ≠ w.heap.size + 1 := by omega
    refine ⟨by simp, .inl ⟨_, _, rfl, run_takeDeferred hK, ?_⟩⟩
    have hgr : Gr (Foot b L σ) w (W2.putObj D (.deferred none)) := HG.out.trans (Gr.of_grown (X := fun k => k = D) (grownBy_putObj' _ D _) (fun k hk => .inl (by cases hk; rfl))) (fun i h => .inr (by omega))
    have hpl := HPR.out.length_le
    have hl : (unitsV 64 (at_ : Int) (n : Int)).length = (linesOf at_ n).length := by unfold linesOf; rw [List.length_map]
    have h9 := HNL.out
    refine ⟨_, results_boxP rfl _ _ (w.heap.size + 1) _ _ rfl ((World.putObj_heap_other (Ne.symm hne)).trans H6.out) (fun _ h => loadE h), 5, σ', L', rfl, .inr ⟨rfl, pr, no, ?_, HOP.out⟩, HD.out.put_ hK _, HF.out, hgr, by omega, HKB.out, fun h => by cases h⟩
    have := HPR.out.map Int.toNat
    rw [HPN.out] at this
    exact this
end Go.Proofs.Ytmljacjbpcgijaa
namespace Go.Proofs.Ytmljacjbpcgijaa
open Go.RowKit Go.Shelf
set_option linter.unusedVariables false

/-- A fence is made; the operation is not yet counted. -/
def fnA (σ : St) : St := { fenceDo σ with ops := σ.ops }
theorem fnA_ok {σ : St} (h : σ.Ok) : (fnA σ).Ok := by
  have hp : ∀ i, ∃ k, (fnA σ).past i = (σ.past i).drop k := fun i => by
    show ∃ k, fenP σ false i = _
    unfold fenP
    cases h1 : σ.fl i with
    | none => exact ⟨0, by simp⟩
    | some p => exact ⟨p, by simp⟩
  refine ⟨h.pos, h.max, h.len, h.byte, fun i hi => ?_, fun i c hc => ?_, fun i c hc => ?_, fun i => ?_, fun i k hk => (by cases hk), h.opsm⟩
  · obtain ⟨k, hk⟩ := hp i
    rw [hk, h.out i hi]; simp
  · obtain ⟨k, hk⟩ := hp i
    rw [hk] at hc
    exact h.clen i c (List.mem_of_mem_drop hc)
  · obtain ⟨k, hk⟩ := hp i
    rw [hk] at hc
    exact h.cbyte i c (List.mem_of_mem_drop hc)
  · obtain ⟨k, hk⟩ := hp i
    rw [hk, List.length_drop]
    have := h.few i
    show _ ≤ σ.ops
    omega
section
variable {w : World} {b : Nat} {L : Lay} {σ : St}
set_option maxRecDepth 100000 in
set_option maxHeartbeats 1000000 in
theorem pfence_gen (h : DevL w b L σ) (hok : σ.Ok) (ho : σ.off = false) (hfw : Few σ) (hops : σ.ops < 1400000000000) : Calls Try.prog 47 #[.pointer (some ⟨b, 0, none⟩)] w fun e w' =>
    ∃ c σ' L', e = .returned (.int .i64 c) ∧ Opd (fnA σ) c σ' ∧ DevL w' b L' σ' ∧ (∀ k, Foot b L' σ' k → Foot b L σ k ∨ w.heap.size ≤ k) ∧ Gr (Foot b L σ) w w' ∧ L'.N ≤ L.N ∧ L'.KB = L.KB := by
  have ks := pstate_any h
  rw [ho] at ks
  simp only [Bool.false_eq_true, if_false] at ks
  have c3 := h.c3
  have KS := hide ks
  have HD := hide h
  have HOK := hide hok
  have HFW := hide hfw
  have HOPS := hide hops
  clear h hok ks hfw ho hops
  go_enter Try.func47, Try.ntmps47
  go_wp2_with (first | (go_at_call 23; refine (KS.out).mono ?_; rintro e w' ⟨rfl, hw⟩; obtain rfl := hw.symm) | (at_range; refine wpList_range_num rfl (.tmp 15) rfl L.fb L.N (flF σ) (by kernel_rfl) HD.out.flm ?_; intro W0 hrg0 hg0 hs0; have HRG0 := hide hrg0; have HG0 := hide hg0; have HS0 := hide hs0; clear hrg0 hg0 hs0))
  go_frame
  go_loopw [] (fun wr => ∃ left L', FenR w b L σ w.heap.size wr left L') (fun wr => wr.rangeLeft L.fb w.heap.size)
  case atStart =>
    refine ⟨fun x => (flF σ x).isSome, L, ⟨HRG0.out, ?_, SameL.refl L, rfl, fun k hk => .inl (by rw [fenL_start] at hk; exact hk), Gr.of_grown HG0.out (fun k hk => by cases hk)⟩⟩
    rw [fenL_start]
    exact HD.out.keep fun k hk => HG0.out.block k (by rcases foot_obj2 HD.out hk with ⟨c, t, f, e1⟩ | ⟨c, t, e1⟩ <;> exact lt_of_heap e1) (by simp)
  case round =>
    obtain ⟨left, L', hF⟩ := hrel
    have HF := hide hF
    clear hF
    go_wp2_with (at_next; refine wpList_next_g numL rfl (.tmp 16) rfl L.fb w.heap.size L.N (flF σ) left (by kernel_rfl) HF.out.ran ?_ ?_)
    · intro hl0
      have hne := HF.out.dev
      have hha := (((Below.refl _ wr).alloc (Nat.le_refl _) (.map #[] 0)).block b (lt_of_heap hne.dev)).trans hne.dev
      have c3r : (wr.alloc (.map #[] 0)).cell? ⟨b, 3, none⟩ = some (.map (some L'.fb)) := cell8 hha 3
      have hfz := froz8 hha 3
      have hfa : ({ fenL σ left with fl := fun _ => none } : St) = fnA σ := congrArg (fun s : St => { s with ops := σ.ops }) (fenL_none σ left hl0)
      have hd9 := dev_newfl HF.out.dev
      have hft9 : ∀ k, Foot b { L' with fb := wr.heap.size } (fnA σ) k → Foot b L' (fenL σ left) k ∨ wr.heap.size ≤ k := fun k hk => by
        rw [← hfa] at hk
        rcases hk with h | h | h | h | h | h | h
        · exact .inl (.inl h)
        · exact .inl (.inr (.inl h))
        · exact .inl (.inr (.inr (.inl h)))
        · exact .inr (by rw [h]; exact Nat.le_refl _)
        · exact .inl (.inr (.inr (.inr (.inr (.inl h)))))
        · exact .inl (.inr (.inr (.inr (.inr (.inr (.inl h))))))
        · exact .inl (.inr (.inr (.inr (.inr (.inr (.inr h))))))
      rw [hfa] at hd9
      have ko := poper_gen hd9 (fence_ok (σ := σ) HOK.out HOPS.out) ⟨HFW.out.one, HFW.out.cnt⟩ HOPS.out
      have HFT := hide hft9
      have hmk : (Instr.makeMap 54 none).run Try.prog wr = .ok (.map (some wr.heap.size)) (wr.alloc (.map #[] 0)) := rfl
      have KO := hide ko
      have HL0 := hide hl0
      clear ko hl0 hne c3 hha hfa hd9 hft9
      go_wp2_with (go_at_call 60; refine (KO.out).mono ?_; rintro e w' ⟨c, σ', L9, rfl, hr⟩; have HR := hide hr; clear hr)
      go_ret
      obtain ⟨r1, r2, r3, r4, r5⟩ := HR.out
      have g1 : Gr (Foot b L σ) w ((wr.alloc (.map #[] 0)).setCell ⟨b, 3, none⟩ (.map (some wr.heap.size))) := (HF.out.gr.trans (Gr.of_below ((Below.refl _ wr).alloc (Nat.le_refl _) _) : Gr (Foot b L σ) wr (wr.alloc (.map #[] 0))) (fun i h => .inl h)).trans (Gr.set _ b 3 _ (X := fun k => k = b) rfl) (fun i h => .inl (.inl h))
      have hfo : ∀ k, Foot b { L' with fb := wr.heap.size } (fnA σ) k → Foot b L σ k ∨ w.heap.size ≤ k := fun k hk => (HFT.out k hk).elim (HF.out.foot k) (fun h => .inr (Nat.le_trans HF.out.gr.size h))
      exact ⟨c, σ', L9, rfl, r1, r2, fun k hk => (r3 k hk).elim (hfo k) (fun h => .inr (Nat.le_trans g1.size h)), g1.trans r4 hfo, Nat.le_trans r5.1 (Nat.le_of_eq HF.out.num), r5.2.1.trans HF.out.same.2.2.2.2⟩
    · intro x p w1 hwx hfx hlx hrg1 hlt hg1 hs1 hen
      obtain ⟨hD1, hG1⟩ := HF.out.next hg1 (Nat.le_refl _)
      obtain ⟨i, rfl, hfi⟩ : ∃ i : Nat, x = (i : Int) ∧ σ.fl i = some p := by
        unfold flF at hfx
        split at hfx
        · exact ⟨x.toNat, by omega, hfx⟩
        · cases hfx
      obtain ⟨hpl, hpi⟩ := HOK.out.flp i p hfi
      obtain ⟨hst, hpa⟩ := fenL_step σ left i p hfi hlx
      have hpi' : (fenL σ left).past i ≠ [] := by rw [hpa]; exact hpi
      have hof : oldF L' (fenL σ left) (i : Int) = some (L'.pb i) := by unfold oldF; rw [if_pos ⟨by omega, by simpa using hpi'⟩]; simp
      have hP := hD1.pasts i hpi'
      rw [hpa] at hP
      have hfew := HOK.out.few i
      have hopm := HOK.out.opsm
      have kd := pdrop_any (L'.pb i) p (L'.rv i) (σ.past i) w1 hP hpl hpi (by omega)
      have c2 := hD1.c2
      have hbp : b ≠ L'.pb i := ne_ty hD1.dev hP.1 (by decide)
      obtain ⟨eo, qo, hob⟩ := hD1.old.block
      have hop : L'.ob ≠ L'.pb i := fun e => ne_map hP.1 hob e.symm
      have KD := hide kd
      have HD1 := hide hD1
      have HG1 := hide hG1
      have HRG1 := hide hrg1
      have HFI := hide hfi
      have HLX := hide hlx
      have HPI := hide hpi
      have HPI2 := hide hpi'
      have HOF := hide hof
      have HBP := hide hbp
      have HOP := hide hop
      have HOB := hide hob
      have HLT := hide hlt
      have HFX := hide hfx
      have hpI : (p : Int) ≤ 1400000000000 := by omega
      clear kd hD1 hG1 hrg1 hfi hlx hpi hpi' hof hbp hop hob hlt hg1 hs1 hst hpa hP hfew hopm hpl hfx c3
      by_cases hz : (σ.past i).drop p = []
      · have HZ := hide hz
        clear hz
        go_wp2_with (first | (at_lookup; refine wpList_look_ptr' rfl (.tmp 25) (.tmp 26) rfl L'.ob L'.N (oldF L' (fenL σ left)) (by kernel_rfl) HD1.out.old (i : Int) (by simp [Act.eval]) hwx (L'.pb i) HOF.out ?_) | (go_at_call 59; refine (KD.out).mono ?_; rintro e W2 ⟨rfl, v', hp2, hv2, hg2⟩; have cz : W2.cell? ⟨L'.pb i, 1, none⟩ = some (.int .i64 0) := (by have h5 := cell8 hp2.1 1; rw [HZ.out] at h5; exact h5); have cb : W2.cell? ⟨b, 2, none⟩ = some (.map (some L'.ob)) := cell8 ((hg2.block (lt_of_heap HD1.out.dev) HBP.out).trans HD1.out.dev) 2; have hm2 := HD1.out.old.of_block (hg2.block (lt_of_heap HOB.out) HOP.out); have HP2 := hide hp2; have HV2 := hide hv2; have HG2 := hide hg2; have HM2 := hide hm2; clear hp2 hv2 hg2 hm2) | (at_delete; refine wpList_del_ptr rfl (.tmp 39) (.tmp 40) rfl L'.ob L'.N (oldF L' (fenL σ left)) (by kernel_rfl) HM2.out (i : Int) (by simp [Act.eval]) hwx ?_; intro W3 hm3 hg3; go_frame; have HM3 := hide hm3; have HG3 := hide hg3; clear hm3 hg3))
        go_roundw
        case rel =>
          have hB := HG3.out
          exact ⟨_, _, (FenR.step (v' := v') HD1.out HF.out.same HF.out.num HF.out.foot HG1.out HFI.out HLX.out HPI.out HRG1.out (HG2.out.mono (fun k h => .inl h) |>.trans (Gr.of_grown (X := fun k => k = L'.pb i ∨ k = L'.ob) hB (fun k hk => by cases hk; exact .inl (.inr rfl))) (fun i h => .inl h)) (by rw [HZ.out]; exact HM3.out.congr (fun x => old_less x)) (fun h => absurd HZ.out h) HV2.out).1⟩
        case measure =>
          have hB := HG3.out
          have h9 := (FenR.step (v' := v') HD1.out HF.out.same HF.out.num HF.out.foot HG1.out HFI.out HLX.out HPI.out HRG1.out (HG2.out.mono (fun k h => .inl h) |>.trans (Gr.of_grown (X := fun k => k = L'.pb i ∨ k = L'.ob) hB (fun k hk => by cases hk; exact .inl (.inr rfl))) (fun i h => .inl h)) (by rw [HZ.out]; exact HM3.out.congr (fun x => old_less x)) (fun h => absurd HZ.out h) HV2.out).2
          rw [h9]
          exact HLT.out
      · obtain ⟨q, hq⟩ : ∃ q, q = ((σ.past i).drop p).length := ⟨_, rfl⟩
        have hz2 : (0 : Int) < (q : Int) := by
          have := List.length_pos_iff.2 hz
          omega
        have HZ := hide hz
        have HQ := hide hq
        clear hz hq
        go_wp2_with (first | (at_lookup; refine wpList_look_ptr' rfl (.tmp 25) (.tmp 26) rfl L'.ob L'.N (oldF L' (fenL σ left)) (by kernel_rfl) HD1.out.old (i : Int) (by simp [Act.eval]) hwx (L'.pb i) HOF.out ?_) | (go_at_call 59; refine (KD.out).mono ?_; rintro e W2 ⟨rfl, v', hp2, hv2, hg2⟩; have cz : W2.cell? ⟨L'.pb i, 1, none⟩ = some (.int .i64 (q : Int)) := (by have h5 := cell8 hp2.1 1; rw [← HQ.out] at h5; exact h5); have hm2 := HD1.out.old.of_block (hg2.block (lt_of_heap HOB.out) HOP.out); have HP2 := hide hp2; have HV2 := hide hv2; have HG2 := hide hg2; have HM2 := hide hm2; clear hp2 hv2 hg2 hm2))
        go_roundw
        case rel => exact ⟨_, _, (FenR.step (v' := v') HD1.out HF.out.same HF.out.num HF.out.foot HG1.out HFI.out HLX.out HPI.out HRG1.out (HG2.out.mono (fun k h => .inl h)) (HM2.out.congr (fun x => old_same HPI2.out HZ.out x)) (fun _ => HP2.out) HV2.out).1⟩
        case measure =>
          have h9 := (FenR.step (v' := v') HD1.out HF.out.same HF.out.num HF.out.foot HG1.out HFI.out HLX.out HPI.out HRG1.out (HG2.out.mono (fun k h => .inl h)) (HM2.out.congr (fun x => old_same HPI2.out HZ.out x)) (fun _ => HP2.out) HV2.out).2
          rw [h9]
          exact HLT.out
end
end Go.Proofs.Ytmljacjbpcgijaa
