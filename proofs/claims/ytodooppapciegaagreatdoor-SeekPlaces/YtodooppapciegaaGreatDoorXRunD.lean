/- Package seek: a run of a pattern: start, step. -/
import Derived.Test.YtodooppapciegaaGreatDoorXRunC
namespace Go.Proofs.YtodooppapciegaaGreatDoor
open Go.RowKit Go.Shelf
set_option linter.unusedVariables false
set_option linter.unusedSimpArgs false

/-- A match begins here, if one may begin. -/
def startF (g : Bool) (its : List Kd) (to_ : Int) (σ : Rs) : Rs := if decide ((σ.loc : Int) ≤ to_) && !worseV g σ σ.loc then come its 0 σ.loc σ else σ
/-- One match goes over a character. -/
def stepF (g : Bool) (its : List Kd) (c : Ch) (t : Nat × Nat) (σ : Rs) : Rs :=
  match its[t.1]? with
  | none => σ
  | some x => if worseV g σ t.2 || !x.2 c then σ else if x.1 = 4 then come its t.1 t.2 σ else come its (t.1 + 1) t.2 σ
/-- All matches go over a character. -/
def stepsF (g : Bool) (its : List Kd) (c : Ch) : List (Nat × Nat) → Rs → Rs
  | [], σ => σ
  | t :: ts, σ => stepsF g its c ts (stepF g its c t σ)
theorem startF_ok {g : Bool} {its : List Kd} {m : Nat} {to_ : Int} {σ : Rs} (h : σ.Ok its m) : (startF g its to_ σ).Ok its m := by
  unfold startF
  split
  · exact comeF_ok h.loc _ _ _ (Nat.zero_le _) h
  · exact h
theorem startF_keeps {g : Bool} {its : List Kd} {to_ : Int} {σ : Rs} : (startF g its to_ σ).now = σ.now ∧ (startF g its to_ σ).round = σ.round ∧ (startF g its to_ σ).loc = σ.loc ∧ (startF g its to_ σ).be = σ.be ∧ (startF g its to_ σ).en = σ.en := by
  unfold startF
  split
  · exact comeF_keeps _ _ _
  · exact ⟨rfl, rfl, rfl, rfl, rfl⟩
theorem stepF_ok {g : Bool} {its : List Kd} {m : Nat} {c : Ch} {t : Nat × Nat} {σ : Rs} (ht : t.2 ≤ m) (h : σ.Ok its m) : (stepF g its c t σ).Ok its m := by
  unfold stepF
  split
  · exact h
  · rename_i x hx
    have hl := (List.getElem?_eq_some_iff.1 hx).1
    split
    · exact h
    · split
      · exact comeF_ok ht _ _ _ (Nat.le_of_lt hl) h
      · exact comeF_ok ht _ _ _ hl h
theorem stepF_keeps {g : Bool} {its : List Kd} {c : Ch} {t : Nat × Nat} {σ : Rs} : (stepF g its c t σ).now = σ.now ∧ (stepF g its c t σ).round = σ.round ∧ (stepF g its c t σ).loc = σ.loc ∧ (stepF g its c t σ).be = σ.be ∧ (stepF g its c t σ).en = σ.en := by
  unfold stepF
  split
  · exact ⟨rfl, rfl, rfl, rfl, rfl⟩
  · split
    · exact ⟨rfl, rfl, rfl, rfl, rfl⟩
    · split
      · exact comeF_keeps _ _ _
      · exact comeF_keeps _ _ _
theorem stepsF_keeps {g : Bool} {its : List Kd} {c : Ch} : ∀ (ts : List (Nat × Nat)) (σ : Rs), (stepsF g its c ts σ).now = σ.now ∧ (stepsF g its c ts σ).round = σ.round ∧ (stepsF g its c ts σ).loc = σ.loc ∧ (stepsF g its c ts σ).be = σ.be ∧ (stepsF g its c ts σ).en = σ.en
  | [], σ => ⟨rfl, rfl, rfl, rfl, rfl⟩
  | t :: ts, σ => by
    obtain ⟨a1, a2, a3, a4, a5⟩ := stepsF_keeps (g := g) (its := its) (c := c) ts (stepF g its c t σ)
    obtain ⟨b1, b2, b3, b4, b5⟩ := stepF_keeps (g := g) (its := its) (c := c) (t := t) (σ := σ)
    exact ⟨a1.trans b1, a2.trans b2, a3.trans b3, a4.trans b4, a5.trans b5⟩
theorem stepsF_ok {g : Bool} {its : List Kd} {m : Nat} {c : Ch} : ∀ (ts : List (Nat × Nat)) (σ : Rs), (∀ t ∈ ts, t.2 ≤ m) → σ.Ok its m → (stepsF g its c ts σ).Ok its m
  | [], σ, _, h => h
  | t :: ts, σ, ht, h => stepsF_ok ts _ (fun u hu => ht u (List.mem_cons_of_mem _ hu)) (stepF_ok (ht t (List.mem_cons_self ..)) h)
theorem stepsF_snoc {g : Bool} {its : List Kd} {c : Ch} (l : List (Nat × Nat)) (t : Nat × Nat) (σ : Rs) : stepsF g its c (l ++ [t]) σ = stepF g its c t (stepsF g its c l σ) := by
  induction l generalizing σ with
  | nil => rfl
  | cons a l ih => exact ih _

set_option maxRecDepth 100000 in
set_option maxHeartbeats 2000000 in
theorem start_any (B : Nat) (D : Nat → Prop) (s : ByteArray) (g : Bool) (its : List Kd) (w : World) (b : Nat) (σ : Rs) (h : RunL B D s g its w b σ) (m : Nat) (ho : σ.Ok its m) (hl : its.length ≤ 65536) (t : Int) (ht : -9223372036854775808 ≤ t ∧ t < 9223372036854775808) :
    Calls Tryz.prog 43 #[.pointer (some ⟨b, 0, none⟩), .int .i64 t] w fun e w' => e = .returned (.tuple #[]) ∧ RunL B D s g its w' b (startF g its t σ) ∧ Kr B w w' := by
  have kw := fun p => worse_any B D s g its w b σ h p
  obtain ⟨nv, hn⟩ := h
  have kc := come_any B D s g its w b σ nv hn m ho hl 0 σ.loc (Nat.zero_le _) ho.loc
  have h : RunL B D s g its w b σ := ⟨nv, hn⟩
  have HL := hide h
  have c7 : w.cell? ⟨b, 7, none⟩ = some (.int .i64 (σ.loc : Int)) := by obtain ⟨_, _, _, hc⟩ := hn; exact hc.c7
  have KC := hide kc
  clear h hn ho kc
  unfold startF
  by_cases h1 : (σ.loc : Int) ≤ t
  · have hd : decide ((σ.loc : Int) ≤ t) = true := by simpa using h1
    cases hw : worseV g σ σ.loc with
    | true =>
      have kw1 := kw σ.loc
      rw [hw] at kw1
      rw [show (if (decide ((σ.loc : Int) ≤ t) && !true) = true then come its 0 σ.loc σ else σ) = σ from by rw [hd]; rfl]
      have KW := hide kw1
      clear kw1 kw
      go_enter Tryz.func43, Tryz.ntmps43
      go_wp2_with (first | (go_at_call 45; refine (KW.out).mono ?_; rintro e x ⟨rfl, rfl⟩))
      go_end0
      exact ⟨rfl, HL.out, Kr.refl _ _⟩
    | false =>
      have kw1 := kw σ.loc
      rw [hw] at kw1
      rw [show (if (decide ((σ.loc : Int) ≤ t) && !false) = true then come its 0 σ.loc σ else σ) = come its 0 σ.loc σ from by rw [hd]; rfl]
      have KW := hide kw1
      clear kw1 kw
      go_enter Tryz.func43, Tryz.ntmps43
      go_wp2_with (first | (go_at_call 45; refine (KW.out).mono ?_; rintro e x ⟨rfl, rfl⟩) | (go_at_call 59; refine (KC.out).mono ?_; rintro e x ⟨rfl, hx, hb⟩))
      go_end0
      exact ⟨rfl, ⟨_, hx⟩, hb⟩
  · have hd : decide ((σ.loc : Int) ≤ t) = false := by simpa using h1
    rw [show (if (decide ((σ.loc : Int) ≤ t) && !worseV g σ σ.loc) = true then come its 0 σ.loc σ else σ) = σ from by rw [hd]; rfl]
    have h1' : t < (σ.loc : Int) := by omega
    go_enter Tryz.func43, Tryz.ntmps43
    go_wp2_with (fail)
    go_end0
    exact ⟨rfl, HL.out, Kr.refl _ _⟩
end Go.Proofs.YtodooppapciegaaGreatDoor
