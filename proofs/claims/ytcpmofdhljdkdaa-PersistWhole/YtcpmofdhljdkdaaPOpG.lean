/- Package pmem: one operation more, whether a loss of power waits or not. -/
import Derived.Test.YtcpmofdhljdkdaaPOpA
namespace Go.Proofs.Ytcpmofdhljdkdaa
open Go.RowKit Go.Shelf
set_option linter.unusedVariables false

/-- What one operation more leaves, and what is answered. -/
def Opd (σ : St) (c : Int) (σ' : St) : Prop :=
  (σ.arms = [] ∧ c = 0 ∧ σ' = { σ with ops := σ.ops + 1 }) ∨
  (∃ af kp, σ.arms = [(af, kp)] ∧ ((σ.cnt + 1 < af ∧ c = 0 ∧ σ' = { σ with ops := σ.ops + 1, cnt := σ.cnt + 1 }) ∨ (af ≤ σ.cnt + 1 ∧ c = 5 ∧ Lost { σ with ops := σ.ops + 1, arms := [], cnt := 0 } kp σ')))
/-- At most one loss of power waits. -/
structure Few (σ : St) : Prop where
  one : σ.arms = [] ∨ ∃ af kp, σ.arms = [(af, kp)] ∧ (∀ x ∈ kp, x < 4611686018427387904) ∧ kp.length ≤ 274877906944
  cnt : σ.cnt < 274877906944
theorem Opd.code {σ σ' : St} {c : Int} (h : Opd σ c σ') : c = 0 ∨ c = 5 := by
  rcases h with ⟨_, h, _⟩ | ⟨_, _, _, ⟨_, h, _⟩ | ⟨_, h, _⟩⟩
  · exact .inl h
  · exact .inl h
  · exact .inr h
/-- One operation more, behind which the power stays. -/
def tick (σ : St) : St := { σ with ops := σ.ops + 1, cnt := if σ.arms = [] then σ.cnt else σ.cnt + 1 }
/-- The next operation is the last one ahead of the loss. -/
def fires (σ : St) : Prop := ∃ af kp, σ.arms = [(af, kp)] ∧ af ≤ σ.cnt + 1
theorem Opd.no {σ σ' : St} {c : Int} (h : Opd σ c σ') (hf : ¬ fires σ) : c = 0 ∧ σ' = tick σ := by
  rcases h with ⟨h1, h2, h3⟩ | ⟨af, kp, h1, ⟨h0, h2, h3⟩ | ⟨h0, h2, h3⟩⟩
  · exact ⟨h2, by rw [h3]; unfold tick; rw [if_pos h1]⟩
  · exact ⟨h2, by rw [h3]; unfold tick; rw [if_neg (by rw [h1]; simp)]⟩
  · exact absurd ⟨af, kp, h1, h0⟩ hf
theorem Opd.yes {σ σ' : St} {c : Int} (h : Opd σ c σ') (hf : fires σ) : c = 5 := by
  obtain ⟨af', kp', e1, e2⟩ := hf
  rcases h with ⟨h1, h2, h3⟩ | ⟨af, kp, h1, ⟨h0, h2, h3⟩ | ⟨h0, h2, h3⟩⟩
  · rw [h1] at e1; cases e1
  · rw [h1] at e1; cases e1; omega
  · exact h2
theorem tick_ok {σ : St} (h : ({ σ with ops := σ.ops + 1 } : St).Ok) : (tick σ).Ok := ⟨h.pos, h.max, h.len, h.byte, h.out, h.clen, h.cbyte, h.few, h.flp, h.opsm⟩
theorem ok_more {σ : St} (h : σ.Ok) (hops : σ.ops < 274877906944) : ({ σ with ops := σ.ops + 1 } : St).Ok := ⟨h.pos, h.max, h.len, h.byte, h.out, h.clen, h.cbyte, fun i => Nat.le_trans (h.few i) (Nat.le_succ _), h.flp, by show σ.ops + 1 ≤ _; omega⟩
section
variable {w : World} {b : Nat} {L : Lay} {σ : St}
theorem poper_gen (h : DevL w b L σ) (hok : ({ σ with ops := σ.ops + 1 } : St).Ok) (hf : Few σ) (hops : σ.ops < 274877906944) :
    Calls Try.prog 62 #[.pointer (some ⟨b, 0, none⟩)] w fun e w' => ∃ c σ' L', e = .returned (.int .i64 c) ∧ Opd σ c σ' ∧ DevL w' b L' σ' ∧ (∀ k, Foot b L' σ' k → Foot b L σ k ∨ w.heap.size ≤ k) ∧ Gr (Foot b L σ) w w' ∧ L'.N ≤ L.N ∧ L'.KB = L.KB ∧ (c = 0 → L' = L) := by
  rcases hf.one with ha | ⟨af, kp, ha, hk, hl⟩
  · refine (poper_any h hops ha).mono ?_
    rintro e w' ⟨rfl, hw, hd⟩
    exact ⟨0, _, L, rfl, .inl ⟨ha, rfl, rfl⟩, hd, fun k hk => .inl hk, by rw [hw]; exact Gr.set w b 4 _ (.inl rfl), Nat.le_refl _, rfl, fun _ => rfl⟩
  · by_cases hc : σ.cnt + 1 < af
    · refine (poper_wait h hops ha hc hf.cnt).mono ?_
      rintro e w' ⟨rfl, hd, hg⟩
      exact ⟨0, _, L, rfl, .inr ⟨af, kp, ha, .inl ⟨hc, rfl, rfl⟩⟩, hd, fun k hk => .inl hk, hg.mono (fun k h => .inl h), Nat.le_refl _, rfl, fun _ => rfl⟩
    · refine (poper_fire h hok hops ha (by omega) hf.cnt hk hl).mono ?_
      rintro e w' ⟨rfl, L', σ', h1, h2, h3, h4, h5, h6⟩
      exact ⟨5, σ', L', rfl, .inr ⟨af, kp, ha, .inr ⟨by omega, rfl, h1⟩⟩, h2, h3, h4, h5, h6, fun h => by cases h⟩
theorem poper_no (h : DevL w b L σ) (hok : ({ σ with ops := σ.ops + 1 } : St).Ok) (hf : Few σ) (hops : σ.ops < 274877906944) (hn : ¬ fires σ) :
    Calls Try.prog 62 #[.pointer (some ⟨b, 0, none⟩)] w fun e w' => e = .returned (.int .i64 0) ∧ DevL w' b L (tick σ) ∧ Gr (Foot b L σ) w w' := by
  refine (poper_gen h hok hf hops).mono ?_
  rintro e w' ⟨c, σ', L', rfl, h1, h2, h3, h4, h5, h6, h7⟩
  obtain ⟨rfl, rfl⟩ := h1.no hn
  obtain rfl := h7 rfl
  exact ⟨rfl, h2, h4⟩
theorem poper_yes (h : DevL w b L σ) (hok : ({ σ with ops := σ.ops + 1 } : St).Ok) (hf : Few σ) (hops : σ.ops < 274877906944) (hn : fires σ) :
    Calls Try.prog 62 #[.pointer (some ⟨b, 0, none⟩)] w fun e w' => e = .returned (.int .i64 5) ∧ ∃ σ' L', Opd σ 5 σ' ∧ DevL w' b L' σ' ∧ (∀ k, Foot b L' σ' k → Foot b L σ k ∨ w.heap.size ≤ k) ∧ Gr (Foot b L σ) w w' ∧ L'.N ≤ L.N ∧ L'.KB = L.KB := by
  refine (poper_gen h hok hf hops).mono ?_
  rintro e w' ⟨c, σ', L', rfl, h1, h2, h3, h4, h5, h6, h7⟩
  obtain rfl := h1.yes hn
  exact ⟨rfl, σ', L', h1, h2, h3, h4, h5, h6⟩
end
end Go.Proofs.Ytcpmofdhljdkdaa
