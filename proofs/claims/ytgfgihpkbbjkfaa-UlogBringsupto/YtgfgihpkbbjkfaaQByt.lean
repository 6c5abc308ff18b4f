/- Package persist: Bytes. -/
import Derived.Test.YtgfgihpkbbjkfaaQTurn
namespace Go.Proofs.Ytgfgihpkbbjkfaa
open Go.RowKit Go.Shelf
set_option linter.unusedVariables false

section
variable {w : World} {b : Nat} {L : Lay} {σ : St}
/-- No steps are taken: the device is none, or is off, or there are no bytes. -/
theorem qturn_early (p : Value) (c : Int) (x y : Int) (sl : Value) (kl : ∀ W, Below w.heap.size w W → Calls Try.prog 21 #[p, .int .i64 0, .int .i64 0] W fun e w' => ∃ v, e = .returned (.tuple #[v, .int .i64 c]) ∧ Below W.heap.size W w') (hc : c ≠ 0 ∨ y < 1) :
    Calls Try.prog 57 #[.agg #[p, .int .i64 x, .int .i64 y], sl] w fun e w' => e = .returned (.int .i64 c) ∧ Below w.heap.size w w' := by
  have hA : Below w.heap.size w (w.alloc (.cells #[p, .int .i64 x, .int .i64 y] 112)) := (Below.refl _ w).alloc (Nat.le_refl _) _
  have KL := hide (kl _ hA)
  have HA := hide hA
  clear kl hA
  by_cases h0 : c = 0
  · have h1 : y < 1 := by omega
    subst h0
    clear hc
    go_enter Try.func57, Try.ntmps57
    go_wp2_with (go_at_call 21; refine (KL.out).mono ?_; rintro e W1 ⟨v, rfl, hb1⟩; obtain ⟨s0, s1, s2⟩ := st3 ((hb1.block _ (by simp)).trans (heap_alloc_new w _)); have HB1 := hide (HA.out.trans (hb1.mono HA.out.size)); clear hb1)
    go_ret
    exact ⟨rfl, HB1.out⟩
  · have h1 : (c != 0) = true := by simpa using h0
    have HC := hide h0
    clear hc h0
    go_enter Try.func57, Try.ntmps57
    go_wp2_with (go_at_call 21; refine (KL.out).mono ?_; rintro e W1 ⟨v, rfl, hb1⟩; obtain ⟨s0, s1, s2⟩ := st3 ((hb1.block _ (by simp)).trans (heap_alloc_new w _)); have HB1 := hide (HA.out.trans (hb1.mono HA.out.size)); clear hb1)
    go_ret
    exact ⟨rfl, HB1.out⟩
/-- A device behind a step: what it is, where it lies. -/
def Atd (W0 : World) (b : Nat) (L : Lay) (σ : St) (W : World) (σ' : St) (m : Nat) : Prop :=
  Gr (Foot b L σ) W0 W ∧ ∃ L', DevL W b L' σ' ∧ (∀ k, Foot b L' σ' k → Foot b L σ k ∨ W0.heap.size ≤ k) ∧ L'.N ≤ L.N + m
theorem Atd.start {W0 W : World} (h : DevL W0 b L σ) (hB : Below W0.heap.size W0 W) : Atd W0 b L σ W σ 0 := ⟨Gr.of_below hB, L, h.below hB, fun k hk => .inl hk, by omega⟩
theorem Atd.go {W0 W W' : World} {L' : Lay} {σ' σ2 : St} {m m2 : Nat} (h : Gr (Foot b L σ) W0 W) (hf : ∀ k, Foot b L' σ' k → Foot b L σ k ∨ W0.heap.size ≤ k) (hN : L'.N ≤ L.N + m) {L2 : Lay} (hd : DevL W' b L2 σ2) (hf2 : ∀ k, Foot b L2 σ2 k → Foot b L' σ' k ∨ W.heap.size ≤ k) (hg : Gr (Foot b L' σ') W W') (hN2 : L2.N ≤ L'.N + m2) : Atd W0 b L σ W' σ2 (m + m2) :=
  ⟨h.trans hg hf, L2, hd, fun k hk => (hf2 k hk).elim (hf k) (fun h1 => .inr (Nat.le_trans h.size h1)), by omega⟩
theorem st4 {W : World} {g : Nat} {p v : Value} {x y : Int} {t : TypeId} (h : W.heap[g]? = some (.cells #[p, .int .i64 x, .int .i64 y, v] t (0, 0))) :
    W.cell? ⟨g, 0, none⟩ = some p ∧ W.cell? ⟨g, 1, none⟩ = some (.int .i64 x) ∧ W.cell? ⟨g, 2, none⟩ = some (.int .i64 y) ∧ W.cell? ⟨g, 3, none⟩ = some v := ⟨cell8 h 0, cell8 h 1, cell8 h 2, cell8 h 3⟩
end
end Go.Proofs.Ytgfgihpkbbjkfaa
