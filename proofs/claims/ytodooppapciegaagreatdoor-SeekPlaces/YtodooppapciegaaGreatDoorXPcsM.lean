/- Package seek: where a search's piece lies; the pieces, in short. -/
import Derived.Test.YtodooppapciegaaGreatDoorXRunG
namespace Go.Proofs.YtodooppapciegaaGreatDoor
open Go.RowKit Go.Shelf
set_option linter.unusedVariables false
set_option linter.unusedSimpArgs false

/-- All matches begin at a place or behind it. -/
structure Rs.In (f : Nat) (σ : Rs) : Prop where
  now : ∀ t ∈ σ.now, f ≤ t.2 ∧ t.2 ≤ σ.loc
  next : ∀ t ∈ σ.next, f ≤ t.2 ∧ t.2 ≤ σ.loc
  best : σ.fo = true → f ≤ σ.bf ∧ σ.bf ≤ σ.bt
theorem comeF_in {its : List Kd} {f p : Nat} : ∀ (k n : Nat) (σ : Rs), f ≤ p → p ≤ σ.loc → σ.In f → (comeF its p k n σ).In f
  | 0, n, σ, _, _, h => h
  | k + 1, n, σ, hf, hp, h => by
    have hm : ({ σ with seen := σ.seen.set n σ.round } : Rs).In f := ⟨h.now, h.next, h.best⟩
    have hx : ({ σ with seen := σ.seen.set n σ.round, next := σ.next ++ [(n, p)] } : Rs).In f := ⟨h.now, fun t ht => by
      rcases List.mem_append.1 ht with h1 | h1
      · exact h.next t h1
      · rw [List.mem_singleton.1 h1]; exact ⟨hf, hp⟩, h.best⟩
    unfold comeF
    split
    · exact h
    · split
      · exact ⟨h.now, h.next, fun _ => ⟨hf, hp⟩⟩
      · split
        · split
          · exact comeF_in k _ _ hf hp hm
          · exact hm
        · split
          · split
            · exact comeF_in k _ _ hf hp hm
            · exact hm
          · split
            · exact hx
            · exact comeF_in k _ _ hf hp hx
theorem startF_in {g : Bool} {its : List Kd} {f : Nat} {t : Int} {σ : Rs} (hf : f ≤ σ.loc) (h : σ.In f) : (startF g its t σ).In f := by
  unfold startF
  split
  · exact comeF_in _ _ _ hf (Nat.le_refl _) h
  · exact h
theorem stepF_in {g : Bool} {its : List Kd} {c : Ch} {f : Nat} {t : Nat × Nat} {σ : Rs} (h1 : f ≤ t.2) (h2 : t.2 ≤ σ.loc) (h : σ.In f) : (stepF g its c t σ).In f := by
  unfold stepF
  split
  · exact h
  · split
    · exact h
    · split
      · exact comeF_in _ _ _ h1 h2 h
      · exact comeF_in _ _ _ h1 h2 h
theorem stepsF_in {g : Bool} {its : List Kd} {c : Ch} {f : Nat} : ∀ (ts : List (Nat × Nat)) (σ : Rs), (∀ t ∈ ts, f ≤ t.2 ∧ t.2 ≤ σ.loc) → σ.In f → (stepsF g its c ts σ).In f
  | [], σ, _, h => h
  | t :: ts, σ, ht, h => stepsF_in ts _ (fun u hu => by rw [stepF_keeps.2.2.1]; exact ht u (List.mem_cons_of_mem _ hu)) (stepF_in (ht t (List.mem_cons_self ..)).1 (ht t (List.mem_cons_self ..)).2 h)
theorem arriveF_in {n p f : Nat} {a c : Ch} {σ : Rs} (hp : σ.loc ≤ p) (h : ∀ t ∈ σ.now, f ≤ t.2 ∧ t.2 ≤ σ.loc) (hb : σ.fo = true → f ≤ σ.bf ∧ σ.bf ≤ σ.bt) : (arriveF n p a c σ).In f :=
  ⟨fun t ht => ⟨(h t ht).1, Nat.le_trans (h t ht).2 hp⟩, fun t ht => by simp [arriveF] at ht, hb⟩
theorem mid2_in {g : Bool} {its : List Kd} {f : Nat} {t : Int} {σ : Rs} (hf : f ≤ σ.loc) (h : σ.In f) : (mid2 g its t σ).In f ∧ (mid2 g its t σ).loc = σ.loc := by
  unfold mid2
  split
  · exact ⟨startF_in hf h, startF_keeps.2.2.1⟩
  · exact ⟨h, rfl⟩
theorem mid4_in {g : Bool} {its : List Kd} {f : Nat} {t : Int} {σ : Rs} (hf : f ≤ σ.loc) (h : σ.In f) : (mid4 g its t σ).In f ∧ (mid4 g its t σ).loc = σ.loc := by
  unfold mid4
  split
  · exact ⟨h, rfl⟩
  · exact ⟨startF_in hf h, startF_keeps.2.2.1⟩
theorem swapF_in {f : Nat} {σ : Rs} (h : σ.In f) : (swapF σ).In f := ⟨h.next, h.now, h.best⟩
theorem roundF_in {g : Bool} {its : List Kd} {n p f : Nat} {t : Int} {a c : Ch} {σ : Rs} (hf : f ≤ p) (hp : ∀ u ∈ σ.now, u.2 ≤ p) (h : ∀ u ∈ σ.now, f ≤ u.2) (hb : σ.fo = true → f ≤ σ.bf ∧ σ.bf ≤ σ.bt) : (roundF g its n t p a c σ).In f ∧ (roundF g its n t p a c σ).loc = p := by
  rw [roundF_eq]
  have h1 : (arriveF n p a c σ).In f := ⟨fun u hu => ⟨h u hu, hp u hu⟩, fun u hu => by simp [arriveF] at hu, hb⟩
  obtain ⟨h2, l2⟩ := mid2_in (g := g) (its := its) (t := t) (show f ≤ (arriveF n p a c σ).loc from hf) h1
  have l2' : (mid2 g its t (arriveF n p a c σ)).loc = p := l2
  have h3 := stepsF_in (g := g) (its := its) (c := a) _ _ h2.now h2
  have l3 := (stepsF_keeps (g := g) (its := its) (c := a) (mid2 g its t (arriveF n p a c σ)).now (mid2 g its t (arriveF n p a c σ))).2.2.1
  obtain ⟨h4, l4⟩ := mid4_in (g := g) (its := its) (t := t) (by rw [l3, l2']; exact hf) h3
  exact ⟨swapF_in h4, l4.trans (l3.trans l2')⟩
theorem loopF_all {g : Bool} {its : List Kd} {l : List UInt8} {t : Int} {f : Nat} : ∀ (k p : Nat) (a : Ch) (σ : Rs), f ≤ p → p ≤ l.length → (∀ u ∈ σ.now, u.2 ≤ p) → (∀ u ∈ σ.now, f ≤ u.2) → (σ.fo = true → f ≤ σ.bf ∧ σ.bf ≤ σ.bt) → σ.Ok0 its l.length →
    (loopF g its l t k p a σ).Ok0 its l.length ∧ ((loopF g its l t k p a σ).fo = true → f ≤ (loopF g its l t k p a σ).bf ∧ (loopF g its l t k p a σ).bf ≤ (loopF g its l t k p a σ).bt) ∧ (loopF g its l t k p a σ).round ≤ σ.round + k
  | 0, p, a, σ, _, _, _, _, hb, ho => ⟨ho, hb, Nat.le_refl _⟩
  | k + 1, p, a, σ, hf, hp, h1, h2, hb, ho => by
    obtain ⟨hi, hl⟩ := roundF_in (g := g) (its := its) (n := l.length) (t := t) (a := a) (c := ch1 (l.drop p)) hf h1 h2 hb
    have hok := roundF_ok (g := g) (n := l.length) (t := t) (a := a) (c := ch1 (l.drop p)) ho hp
    have hrd := roundF_round (g := g) (its := its) (n := l.length) (t := t) (p := p) (a := a) (c := ch1 (l.drop p)) (σ := σ)
    have hw : p + cw1 (l.drop p) ≤ l.length := by
      unfold cw1
      split
      · exact hp
      · rename_i h0
        have h3 := cw_len _ h0
        rw [List.length_drop] at h3
        have h4 : 0 < (l.drop p).length := List.length_pos_iff.2 h0
        rw [List.length_drop] at h4
        omega
    unfold loopF
    split
    · exact ⟨hok, hi.best, by omega⟩
    · obtain ⟨r1, r2, r3⟩ := loopF_all (g := g) (its := its) (l := l) (t := t) (f := f) k (p + cw1 (l.drop p)) (ch1 (l.drop p)) (roundF g its l.length t p a (ch1 (l.drop p)) σ) (by omega) hw (fun u hu => by have := (hi.now u hu).2; omega) (fun u hu => (hi.now u hu).1) hi.best hok
      exact ⟨r1, r2, by omega⟩
theorem searchF_all {g : Bool} {its : List Kd} {l : List UInt8} {t : Int} {f : Nat} {σ : Rs} (hf : f ≤ l.length) (hl : σ.seen.length = its.length + 1) :
    (searchF g its l f t σ).Ok0 its l.length ∧ ((searchF g its l f t σ).fo = true → f ≤ (searchF g its l f t σ).bf ∧ (searchF g its l f t σ).bf ≤ (searchF g its l f t σ).bt) ∧ (searchF g its l f t σ).round ≤ σ.round + (l.length + 1 - f) :=
  loopF_all (l.length + 1 - f) f (chB l f) { σ with now := [], bf := 0, bt := 0, fo := false } (Nat.le_refl _) hf (fun u hu => by simp at hu) (fun u hu => by simp at hu) (fun h => by simp at h) ⟨fun u hu => by simp at hu, hl, Nat.zero_le _, Nat.zero_le _⟩
/-- The pieces that are found one behind the other. -/
def pcsF (its : List Kd) (l : List UInt8) : Nat → Nat → Rs → List (Nat × Nat)
  | 0, _, _ => []
  | k + 1, p, σ =>
    if (searchF false its l p l.length σ).fo then
      ((searchF false its l p l.length σ).bf, (searchF false its l p l.length σ).bt) ::
        (if (searchF false its l p l.length σ).bf < (searchF false its l p l.length σ).bt then pcsF its l k (searchF false its l p l.length σ).bt (searchF false its l p l.length σ)
         else if cw1 (l.drop (searchF false its l p l.length σ).bt) = 0 then []
         else pcsF its l k ((searchF false its l p l.length σ).bt + cw1 (l.drop (searchF false its l p l.length σ).bt)) (searchF false its l p l.length σ))
    else []
def pcs (its : List Kd) (l : List UInt8) (p : Nat) : List (Nat × Nat) := pcsF its l (l.length + 1 - p) p ⟨[], [], List.replicate (its.length + 1) 0, 0, 0, false, false, 0, 0, false⟩
end Go.Proofs.YtodooppapciegaaGreatDoor
