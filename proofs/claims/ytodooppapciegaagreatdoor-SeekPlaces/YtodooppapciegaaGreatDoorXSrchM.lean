/- Package seek: what a search finds, in short: matches side by side. -/
import Derived.Test.YtodooppapciegaaGreatDoorXPcsM
namespace Go.Proofs.YtodooppapciegaaGreatDoor
open Go.RowKit Go.Shelf
set_option linter.unusedVariables false
set_option linter.unusedSimpArgs false

/-- The places of a search one behind the other, each with the character ahead of it. -/
def stI (l : List UInt8) (f : Nat) : Nat → Nat × Ch
  | 0 => (f, chB l f)
  | i + 1 => ((stI l f i).1 + cw1 (l.drop (stI l f i).1), ch1 (l.drop (stI l f i).1))
def psI (l : List UInt8) (f i : Nat) : Nat := (stI l f i).1
def ahI (l : List UInt8) (f i : Nat) : Ch := (stI l f i).2
def wdI (l : List UInt8) (f i : Nat) : Nat := cw1 (l.drop (psI l f i))
def beI (l : List UInt8) (f i : Nat) : Bool := decide (psI l f i = 0) || (endP (ahI l f i) && !cutV (ahI l f i) (ch1 (l.drop (psI l f i))))
def enI (l : List UInt8) (f i : Nat) : Bool := decide (psI l f i = l.length) || (endP (ch1 (l.drop (psI l f i))) && !cutV (ahI l f i) (ch1 (l.drop (psI l f i))))
/-- An item that is gone over without a character. -/
def zero (be en : Bool) (x : Kd) : Prop := (x.1 = 0 ∧ be = true) ∨ (x.1 = 1 ∧ en = true) ∨ 3 ≤ x.1
/-- At the i-th place a match that begins at q has come to an item. -/
inductive Reach (its : List Kd) (l : List UInt8) (f : Nat) (t : Int) : Nat → Nat → Nat → Prop
  | start (i : Nat) : (∀ j, j < i → wdI l f j ≠ 0) → (psI l f i : Int) ≤ t → Reach its l f t i 0 (psI l f i)
  | pass (i n q : Nat) (x : Kd) : Reach its l f t i n q → its[n]? = some x → zero (beI l f i) (enI l f i) x → Reach its l f t i (n + 1) q
  | one (i n q : Nat) (x : Kd) : Reach its l f t i n q → its[n]? = some x → 2 ≤ x.1 → x.1 ≠ 4 → wdI l f i ≠ 0 → x.2 (ahI l f (i + 1)) = true → Reach its l f t (i + 1) (n + 1) q
  | more (i n q : Nat) (x : Kd) : Reach its l f t i n q → its[n]? = some x → x.1 = 4 → wdI l f i ≠ 0 → x.2 (ahI l f (i + 1)) = true → Reach its l f t (i + 1) n q
section
variable {its : List Kd} {l : List UInt8} {f : Nat} {t : Int}
/-- Within a round: what has been marked, with the beginning that it was marked with, all at most m. Items of e still wait for what follows them. -/
structure Mid (its : List Kd) (l : List UInt8) (f : Nat) (t : Int) (i : Nat) (σ : Rs) (mk : Nat → Nat) (m : Nat) (e : Nat → Prop) : Prop where
  len : σ.seen.length = its.length + 1
  low : ∀ (n r : Nat), σ.seen[n]? = some r → r ≤ σ.round
  loc : σ.loc = psI l f i
  be : σ.be = beI l f i
  en : σ.en = enI l f i
  reach : ∀ n, σ.seen[n]? = some σ.round → mk n ≤ m ∧ Reach its l f t i n (mk n)
  wait : ∀ (n : Nat) (x : Kd), σ.seen[n]? = some σ.round → its[n]? = some x → 2 ≤ x.1 → (n, mk n) ∈ σ.next
  pass : ∀ (n : Nat) (x : Kd), σ.seen[n]? = some σ.round → its[n]? = some x → zero (beI l f i) (enI l f i) x → ¬ e n → σ.seen[n + 1]? = some σ.round ∧ mk (n + 1) ≤ mk n
  done : σ.seen[its.length]? = some σ.round → σ.fo = true ∧ σ.bf = mk its.length ∧ σ.bt = psI l f i
  next : ∀ u ∈ σ.next, u.2 ≤ m ∧ Reach its l f t i u.1 u.2
  rise : σ.next.Pairwise (fun a b => a.2 ≤ b.2)
/-- A match is no worse than another one. -/
def Bet (σ τ : Rs) : Prop := σ.fo = true → τ.fo = true ∧ (τ.bf < σ.bf ∨ (τ.bf = σ.bf ∧ σ.bt ≤ τ.bt))
theorem Bet.refl (σ : Rs) : Bet σ σ := fun h => ⟨h, .inr ⟨rfl, Nat.le_refl _⟩⟩
theorem Bet.trans {a b c : Rs} (h : Bet a b) (k : Bet b c) : Bet a c := fun hf => by
  obtain ⟨h1, h2⟩ := h hf
  obtain ⟨k1, k2⟩ := k h1
  exact ⟨k1, by omega⟩
theorem seen_set {l : List Nat} {n k r : Nat} (hn : n < l.length) : (l.set n r)[k]? = some r ↔ (k = n ∨ l[k]? = some r) := by
  rw [List.getElem?_set]
  by_cases h : n = k
  · subst h; simp [hn]
  · rw [if_neg h]
    constructor
    · exact .inr
    · rintro (h2 | h2)
      · exact absurd h2.symm h
      · exact h2
/-- What come leaves: all that is reached from there without a character is marked. -/
theorem come_mid {i p : Nat} : ∀ (k n : Nat) (σ : Rs) (mk : Nat → Nat) (m : Nat) (e : Nat → Prop), its.length + 1 - n ≤ k → n ≤ its.length → m ≤ p → Mid its l f t i σ mk m e → Reach its l f t i n p → (σ.fo = true → p ≤ σ.bf) → σ.bt ≤ psI l f i →
    (∀ j, e j → j + 1 = n ∧ mk j = p) →
    ∃ mk', Mid its l f t i (comeF its p k n σ) mk' p (fun _ => False) ∧ (comeF its p k n σ).seen[n]? = some σ.round ∧ mk' n ≤ p ∧ (∀ j, σ.seen[j]? = some σ.round → (comeF its p k n σ).seen[j]? = some σ.round ∧ mk' j = mk j) ∧ Bet σ (comeF its p k n σ) ∧ (comeF its p k n σ).bt ≤ psI l f i
  | 0, n, σ, mk, m, e, hk, hn, _, _, _, _, _, _ => by omega
  | k + 1, n, σ, mk, m, e, hk, hn, hmp, h, hr, hb, hbt, he => by
    have hnl : n < σ.seen.length := by rw [h.len]; omega
    unfold comeF
    by_cases hs : σ.seen[n]? = some σ.round
    · rw [if_pos hs]
      refine ⟨mk, ⟨h.len, h.low, h.loc, h.be, h.en, fun j hj => ⟨Nat.le_trans (h.reach j hj).1 hmp, (h.reach j hj).2⟩, h.wait, fun j x hj hx hz _ => ?_, h.done, fun u hu => ⟨Nat.le_trans (h.next u hu).1 hmp, (h.next u hu).2⟩, h.rise⟩, hs, Nat.le_trans (h.reach n hs).1 hmp, fun j hj => ⟨hj, rfl⟩, Bet.refl _, hbt⟩
      by_cases hej : e j
      · obtain ⟨rfl, h2⟩ := he j hej
        exact ⟨hs, by rw [h2]; exact Nat.le_trans (h.reach _ hs).1 hmp⟩
      · exact h.pass j x hj hx hz hej
    · rw [if_neg hs]
      -- the item is marked
      have hmk : ∀ j, σ.seen[j]? = some σ.round → (if j = n then p else mk j) = mk j := fun j hj => if_neg (show ¬ j = n from fun h1 => hs (by rw [← h1]; exact hj))
      have base : ∀ (σ' : Rs), σ'.seen = σ.seen.set n σ.round → σ'.round = σ.round → σ'.loc = σ.loc → σ'.be = σ.be → σ'.en = σ.en →
          (∀ u ∈ σ.next, u ∈ σ'.next) → (∀ u ∈ σ'.next, u.2 ≤ p ∧ Reach its l f t i u.1 u.2) → σ'.next.Pairwise (fun a b => a.2 ≤ b.2) → (∀ x, its[n]? = some x → 2 ≤ x.1 → (n, p) ∈ σ'.next) →
          (n = its.length → σ'.fo = true ∧ σ'.bf = p ∧ σ'.bt = psI l f i) → (n ≠ its.length → σ'.fo = σ.fo ∧ σ'.bf = σ.bf ∧ σ'.bt = σ.bt) →
          Mid its l f t i σ' (fun j => if j = n then p else mk j) p (fun j => j = n) := fun σ' h1 h2 h3 h4 h5 h6 h7 h8 h9 h10 h11 => by
        have hsn : ∀ j, σ'.seen[j]? = some σ'.round ↔ (j = n ∨ σ.seen[j]? = some σ.round) := fun j => by rw [h1, h2]; exact seen_set hnl
        refine ⟨by rw [h1, List.length_set, h.len], fun j r hj => ?_, by rw [h3, h.loc], by rw [h4, h.be], by rw [h5, h.en], fun j hj => ?_, fun j x hj hx hx2 => ?_, fun j x hj hx hz hej => ?_, fun hj => ?_, h7, h8⟩
        · rw [h1, List.getElem?_set] at hj
          rw [h2]
          by_cases e1 : n = j
          · rw [if_pos e1, if_pos hnl] at hj
            obtain rfl := Option.some.inj hj
            exact Nat.le_refl _
          · rw [if_neg e1] at hj
            exact h.low j r hj
        · rcases (hsn j).1 hj with rfl | hj2
          · simp only [if_true]; exact ⟨Nat.le_refl _, hr⟩
          · rw [hmk j hj2]; exact ⟨Nat.le_trans (h.reach j hj2).1 hmp, (h.reach j hj2).2⟩
        · rcases (hsn j).1 hj with rfl | hj2
          · simp only [if_true]; exact h9 x hx hx2
          · rw [hmk j hj2]; exact h6 _ (h.wait j x hj2 hx hx2)
        · have hj2 : σ.seen[j]? = some σ.round := ((hsn j).1 hj).resolve_left hej
          rw [hmk j hj2]
          by_cases he2 : e j
          · obtain ⟨e1, e2⟩ := he j he2
            rw [e1]
            simp only [if_true]
            exact ⟨(hsn n).2 (.inl rfl), by omega⟩
          · obtain ⟨q1, q2⟩ := h.pass j x hj2 hx hz he2
            rw [hmk _ q1]
            exact ⟨(hsn _).2 (.inr q1), q2⟩
        · by_cases hne : n = its.length
          · obtain ⟨q1, q2, q3⟩ := h10 hne
            rw [if_pos hne.symm]
            exact ⟨q1, q2, q3⟩
          · have hj2 := ((hsn _).1 hj).resolve_left (fun h0 => hne h0.symm)
            obtain ⟨q1, q2, q3⟩ := h.done hj2
            obtain ⟨r1, r2, r3⟩ := h11 hne
            rw [if_neg (fun h0 => hne h0.symm)]
            exact ⟨by rw [r1]; exact q1, by rw [r2]; exact q2, by rw [r3]; exact q3⟩
      have hsn0 : (σ.seen.set n σ.round)[n]? = some σ.round := (seen_set hnl).2 (.inl rfl)
      have hkeep : ∀ j, σ.seen[j]? = some σ.round → (σ.seen.set n σ.round)[j]? = some σ.round := fun j hj => (seen_set hnl).2 (.inr hj)
      have hnx : ∀ u ∈ σ.next, u.2 ≤ p ∧ Reach its l f t i u.1 u.2 := fun u hu => ⟨Nat.le_trans (h.next u hu).1 hmp, (h.next u hu).2⟩
      have hnp : ∀ u ∈ σ.next ++ [(n, p)], u.2 ≤ p ∧ Reach its l f t i u.1 u.2 := fun u hu => by
        rcases List.mem_append.1 hu with h1 | h1
        · exact hnx u h1
        · rw [List.mem_singleton.1 h1]; exact ⟨Nat.le_refl _, hr⟩
      have hrp : (σ.next ++ [(n, p)]).Pairwise (fun a b => a.2 ≤ b.2) := by
        rw [List.pairwise_append]
        refine ⟨h.rise, by simp, fun a ha b hb => ?_⟩
        rw [List.mem_singleton.1 hb]
        exact (hnx a ha).1
      have fin : ∀ (σ' : Rs) (x : Kd), its[n]? = some x → ¬ zero (beI l f i) (enI l f i) x → Mid its l f t i σ' (fun j => if j = n then p else mk j) p (fun j => j = n) → Mid its l f t i σ' (fun j => if j = n then p else mk j) p (fun _ => False) := fun σ' x hx hz hM =>
        ⟨hM.len, hM.low, hM.loc, hM.be, hM.en, hM.reach, hM.wait, fun j y hj hy hzy _ => by
          by_cases hjn : j = n
          · subst hjn
            rw [hx] at hy
            obtain rfl := Option.some.inj hy
            exact absurd hzy hz
          · exact hM.pass j y hj hy hzy hjn, hM.done, hM.next, hM.rise⟩
      have on : ∀ (σ' : Rs), σ'.seen = σ.seen.set n σ.round → σ'.round = σ.round → Mid its l f t i σ' (fun j => if j = n then p else mk j) p (fun j => j = n) → Reach its l f t i (n + 1) p → n + 1 ≤ its.length → (σ'.fo = true → p ≤ σ'.bf) → σ'.bt ≤ psI l f i → Bet σ σ' →
          ∃ mk', Mid its l f t i (comeF its p k (n + 1) σ') mk' p (fun _ => False) ∧ (comeF its p k (n + 1) σ').seen[n]? = some σ.round ∧ mk' n ≤ p ∧ (∀ j, σ.seen[j]? = some σ.round → (comeF its p k (n + 1) σ').seen[j]? = some σ.round ∧ mk' j = mk j) ∧ Bet σ (comeF its p k (n + 1) σ') ∧ (comeF its p k (n + 1) σ').bt ≤ psI l f i := fun σ' h1 h2 hM hr2 hn2 hb2 hbt2 hbet => by
        obtain ⟨mk', r1, r2, r3, r4, r5, r6⟩ := come_mid k (n + 1) σ' _ p (fun j => j = n) (by omega) hn2 (Nat.le_refl _) hM hr2 hb2 hbt2 (fun j hj => ⟨by omega, if_pos hj⟩)
        rw [h2] at r2 r4
        rw [h1] at r4
        obtain ⟨s1, s2⟩ := r4 n hsn0
        rw [if_pos rfl] at s2
        refine ⟨mk', r1, s1, by omega, fun j hj => ?_, hbet.trans r5, r6⟩
        obtain ⟨u1, u2⟩ := r4 j (hkeep j hj)
        exact ⟨u1, u2.trans (hmk j hj)⟩
      cases hx : its[n]? with
      | none =>
        have hnl2 : n = its.length := by have := List.getElem?_eq_none_iff.1 hx; omega
        have hM := base { σ with seen := σ.seen.set n σ.round, bf := p, bt := σ.loc, fo := true } rfl rfl rfl rfl rfl (fun u hu => hu) hnx h.rise (fun x hx2 => by rw [hx] at hx2; cases hx2) (fun _ => ⟨rfl, rfl, h.loc⟩) (fun h0 => absurd hnl2 h0)
        refine ⟨_, ⟨hM.len, hM.low, hM.loc, hM.be, hM.en, hM.reach, hM.wait, fun j y hj hy hzy _ => ?_, hM.done, hM.next, hM.rise⟩, hsn0, by rw [if_pos rfl]; exact Nat.le_refl _, fun j hj => ⟨hkeep j hj, hmk j hj⟩, fun hf => ⟨rfl, ?_⟩, Nat.le_of_eq h.loc⟩
        · by_cases hjn : j = n
          · subst hjn; rw [hx] at hy; cases hy
          · exact hM.pass j y hj hy hzy hjn
        · have h1 := hb hf
          have h2 := h.loc
          show p < σ.bf ∨ (p = σ.bf ∧ σ.bt ≤ σ.loc)
          omega
      | some x =>
        have hn2 : n + 1 ≤ its.length := (List.getElem?_eq_some_iff.1 hx).1
        have hnn : n ≠ its.length := by omega
        have hM0 : 2 ≤ x.1 ∨ x.1 < 2 := by omega
        have mark := fun (h2 : x.1 < 2) => base { σ with seen := σ.seen.set n σ.round } rfl rfl rfl rfl rfl (fun u hu => hu) hnx h.rise (fun y hy hy2 => by rw [hx] at hy; obtain rfl := Option.some.inj hy; omega) (fun h0 => absurd h0 hnn) (fun _ => ⟨rfl, rfl, rfl⟩)
        have push := base { σ with seen := σ.seen.set n σ.round, next := σ.next ++ [(n, p)] } rfl rfl rfl rfl rfl (fun u hu => List.mem_append_left _ hu) hnp hrp (fun y hy hy2 => List.mem_append_right _ (List.mem_singleton.2 rfl)) (fun h0 => absurd h0 hnn) (fun _ => ⟨rfl, rfl, rfl⟩)
        have stay : ∀ (σ' : Rs), σ'.seen = σ.seen.set n σ.round → σ'.fo = σ.fo → σ'.bf = σ.bf → σ'.bt = σ.bt → Mid its l f t i σ' (fun j => if j = n then p else mk j) p (fun _ => False) →
            ∃ mk', Mid its l f t i σ' mk' p (fun _ => False) ∧ σ'.seen[n]? = some σ.round ∧ mk' n ≤ p ∧ (∀ j, σ.seen[j]? = some σ.round → σ'.seen[j]? = some σ.round ∧ mk' j = mk j) ∧ Bet σ σ' ∧ σ'.bt ≤ psI l f i := fun σ' h1 h2 h3 h4 hM => by
          refine ⟨_, hM, by rw [h1]; exact hsn0, by rw [if_pos rfl]; exact Nat.le_refl _, fun j hj => ⟨by rw [h1]; exact hkeep j hj, hmk j hj⟩, fun hf => ⟨by rw [h2]; exact hf, .inr ⟨h3, by rw [h4]; exact Nat.le_refl _⟩⟩, by rw [h4]; exact hbt⟩
        simp only
        by_cases h0 : x.1 = 0
        · rw [if_pos h0]
          by_cases hbe : σ.be = true
          · rw [if_pos hbe]
            exact on { σ with seen := σ.seen.set n σ.round } rfl rfl (mark (by omega)) (.pass i n p x hr hx (.inl ⟨h0, by rw [← h.be]; exact hbe⟩)) hn2 hb hbt (Bet.refl _)
          · rw [if_neg hbe]
            refine stay _ rfl rfl rfl rfl (fin _ x hx (fun hz => ?_) (mark (by omega)))
            have h1 := h.be
            rcases hz with ⟨_, h2⟩ | ⟨h2, _⟩ | h2
            · exact hbe (h1.trans h2)
            · omega
            · omega
        · rw [if_neg h0]
          by_cases h1 : x.1 = 1
          · rw [if_pos h1]
            by_cases hen : σ.en = true
            · rw [if_pos hen]
              exact on { σ with seen := σ.seen.set n σ.round } rfl rfl (mark (by omega)) (.pass i n p x hr hx (.inr (.inl ⟨h1, by rw [← h.en]; exact hen⟩))) hn2 hb hbt (Bet.refl _)
            · rw [if_neg hen]
              refine stay _ rfl rfl rfl rfl (fin _ x hx (fun hz => ?_) (mark (by omega)))
              have h3 := h.en
              rcases hz with ⟨h2, _⟩ | ⟨_, h2⟩ | h2
              · omega
              · exact hen (h3.trans h2)
              · omega
          · rw [if_neg h1]
            by_cases h2 : x.1 = 2
            · rw [if_pos h2]
              refine stay _ rfl rfl rfl rfl (fin _ x hx (fun hz => ?_) push)
              rcases hz with ⟨h3, _⟩ | ⟨h3, _⟩ | h3 <;> omega
            · rw [if_neg h2]
              exact on { σ with seen := σ.seen.set n σ.round, next := σ.next ++ [(n, p)] } rfl rfl push (.pass i n p x hr hx (.inr (.inr (by omega)))) hn2 hb hbt (Bet.refl _)
theorem Mid.up {i m M : Nat} {σ : Rs} {mk : Nat → Nat} {e : Nat → Prop} (h : Mid its l f t i σ mk m e) (hm : m ≤ M) : Mid its l f t i σ mk M e :=
  ⟨h.len, h.low, h.loc, h.be, h.en, fun n hn => ⟨Nat.le_trans (h.reach n hn).1 hm, (h.reach n hn).2⟩, h.wait, h.pass, h.done, fun u hu => ⟨Nat.le_trans (h.next u hu).1 hm, (h.next u hu).2⟩, h.rise⟩
/-- Where a match stands behind a character. -/
def tgt (n : Nat) (x : Kd) : Nat := if x.1 = 4 then n else n + 1
/-- A match that is not worse goes on. -/
theorem step_mid {i m : Nat} {σ : Rs} {mk : Nat → Nat} {u : Nat × Nat} {x : Kd} {c : Ch} (h : Mid its l f t i σ mk m (fun _ => False)) (hbt : σ.bt ≤ psI l f i) (hm : m ≤ u.2) (hx : its[u.1]? = some x) (hr : x.2 c = true → Reach its l f t i (tgt u.1 x) u.2) :
    ∃ mk', Mid its l f t i (stepF false its c u σ) mk' u.2 (fun _ => False) ∧ (stepF false its c u σ).bt ≤ psI l f i ∧ Bet σ (stepF false its c u σ) ∧ (∀ j, σ.seen[j]? = some σ.round → (stepF false its c u σ).seen[j]? = some σ.round ∧ mk' j = mk j) ∧
      (x.2 c = true → ((stepF false its c u σ).fo = true ∧ (stepF false its c u σ).bf < u.2) ∨ ((stepF false its c u σ).seen[tgt u.1 x]? = some σ.round ∧ mk' (tgt u.1 x) ≤ u.2)) := by
  have hn : u.1 + 1 ≤ its.length := (List.getElem?_eq_some_iff.1 hx).1
  have hsame : stepF false its c u σ = if (worseV false σ u.2 || !x.2 c) = true then σ else comeF its u.2 (its.length + 1 - tgt u.1 x) (tgt u.1 x) σ := by
    unfold stepF tgt come
    rw [hx]
    simp only
    split
    · rfl
    · split <;> rfl
  rw [hsame]
  by_cases hw : worseV false σ u.2 = true
  · rw [if_pos (by rw [hw]; rfl)]
    refine ⟨mk, h.up hm, hbt, Bet.refl _, fun j hj => ⟨hj, rfl⟩, fun _ => .inl ?_⟩
    unfold worseV at hw
    simp at hw
    exact hw
  · have hw2 : worseV false σ u.2 = false := by simpa using hw
    by_cases hc : x.2 c = true
    · rw [if_neg (by rw [hw2, hc]; decide)]
      have hnw : σ.fo = true → u.2 ≤ σ.bf := fun hf => by
        unfold worseV at hw2
        rw [hf] at hw2
        simp at hw2
        exact hw2
      have ht : tgt u.1 x ≤ its.length := by unfold tgt; split <;> omega
      obtain ⟨mk', r1, r2, r3, r4, r5, r6⟩ := come_mid (its.length + 1 - tgt u.1 x) (tgt u.1 x) σ mk m (fun _ => False) (Nat.le_refl _) ht hm h (hr hc) hnw hbt (fun j hj => hj.elim)
      exact ⟨mk', r1, r6, r5, r4, fun _ => .inr ⟨r2, r3⟩⟩
    · have hc2 : x.2 c = false := by simpa using hc
      rw [if_pos (by rw [hw2, hc2]; rfl)]
      exact ⟨mk, h.up hm, hbt, Bet.refl _, fun j hj => ⟨hj, rfl⟩, fun h1 => absurd h1 hc⟩
theorem steps_mid {i : Nat} {c : Ch} : ∀ (ts : List (Nat × Nat)) (σ : Rs) (mk : Nat → Nat) (m M : Nat), Mid its l f t i σ mk m (fun _ => False) → σ.bt ≤ psI l f i → ts.Pairwise (fun a b => a.2 ≤ b.2) → m ≤ M → (∀ u ∈ ts, m ≤ u.2 ∧ u.2 ≤ M ∧ ∃ x, its[u.1]? = some x ∧ (x.2 c = true → Reach its l f t i (tgt u.1 x) u.2)) →
    ∃ mk', Mid its l f t i (stepsF false its c ts σ) mk' M (fun _ => False) ∧ (stepsF false its c ts σ).bt ≤ psI l f i ∧ Bet σ (stepsF false its c ts σ) ∧ (stepsF false its c ts σ).round = σ.round ∧ (∀ j, σ.seen[j]? = some σ.round → (stepsF false its c ts σ).seen[j]? = some σ.round ∧ mk' j = mk j) ∧
      ∀ u ∈ ts, ∀ x, its[u.1]? = some x → x.2 c = true → ((stepsF false its c ts σ).fo = true ∧ (stepsF false its c ts σ).bf < u.2) ∨ ((stepsF false its c ts σ).seen[tgt u.1 x]? = some σ.round ∧ mk' (tgt u.1 x) ≤ u.2)
  | [], σ, mk, m, M, h, hbt, _, hmM, _ => ⟨mk, h.up hmM, hbt, Bet.refl _, rfl, fun j hj => ⟨hj, rfl⟩, fun u hu => by cases hu⟩
  | u :: ts, σ, mk, m, M, h, hbt, hp, hmM, hu => by
    obtain ⟨h1, h2, x, hx, hr⟩ := hu u (List.mem_cons_self ..)
    obtain ⟨mk1, a1, a2, a3, a4, a5⟩ := step_mid (c := c) h hbt h1 hx hr
    have hrd : (stepF false its c u σ).round = σ.round := stepF_keeps.2.1
    obtain ⟨mk2, b1, b2, b3, b4, b5, b6⟩ := steps_mid (c := c) ts (stepF false its c u σ) mk1 u.2 M a1 a2 (List.pairwise_cons.1 hp).2 h2 (fun v hv => ⟨(List.pairwise_cons.1 hp).1 v hv, (hu v (List.mem_cons_of_mem _ hv)).2⟩)
    rw [hrd] at b4 b5 b6
    refine ⟨mk2, b1, b2, a3.trans b3, b4, fun j hj => ?_, fun v hv y hy hc => ?_⟩
    · obtain ⟨q1, q2⟩ := a4 j hj
      obtain ⟨q3, q4⟩ := b5 j q1
      exact ⟨q3, q4.trans q2⟩
    · rcases List.mem_cons.1 hv with rfl | hv
      · rw [hx] at hy
        obtain rfl := Option.some.inj hy
        rcases a5 hc with ⟨q1, q2⟩ | ⟨q1, q2⟩
        · obtain ⟨q3, q4⟩ := b3 q1
          exact .inl ⟨q3, by show (stepsF false its c ts (stepF false its c v σ)).bf < v.2; omega⟩
        · obtain ⟨q3, q4⟩ := b5 _ q1
          exact .inr ⟨q3, by rw [q4]; exact q2⟩
      · exact b6 v hv y hy hc
theorem comeF_best {p : Nat} : ∀ (k n : Nat) (σ : Rs), n ≤ its.length → σ.seen.length = its.length + 1 → (∀ j : Nat, σ.seen[j]? = some σ.round → (comeF its p k n σ).seen[j]? = some σ.round) ∧ ((comeF its p k n σ).seen[its.length]? = some σ.round ∨ ((comeF its p k n σ).fo = σ.fo ∧ (comeF its p k n σ).bf = σ.bf ∧ (comeF its p k n σ).bt = σ.bt))
  | 0, n, σ, _, _ => ⟨fun j hj => hj, .inr ⟨rfl, rfl, rfl⟩⟩
  | k + 1, n, σ, hn, hl => by
    have hnl : n < σ.seen.length := by omega
    have keep : ∀ j, σ.seen[j]? = some σ.round → (σ.seen.set n σ.round)[j]? = some σ.round := fun j hj => (seen_set hnl).2 (.inr hj)
    have hl2 : (σ.seen.set n σ.round).length = its.length + 1 := by rw [List.length_set, hl]
    unfold comeF
    split
    · exact ⟨fun j hj => hj, .inr ⟨rfl, rfl, rfl⟩⟩
    · split
      · rename_i hx
        have : n = its.length := by have := List.getElem?_eq_none_iff.1 hx; omega
        exact ⟨keep, .inl ((seen_set hnl).2 (.inl this.symm))⟩
      · rename_i x hx
        have hn2 : n + 1 ≤ its.length := (List.getElem?_eq_some_iff.1 hx).1
        split
        · split
          · obtain ⟨h1, h2⟩ := comeF_best (p := p) k (n + 1) { σ with seen := σ.seen.set n σ.round } hn2 hl2
            exact ⟨fun j hj => h1 j (keep j hj), h2⟩
          · exact ⟨keep, .inr ⟨rfl, rfl, rfl⟩⟩
        · split
          · split
            · obtain ⟨h1, h2⟩ := comeF_best (p := p) k (n + 1) { σ with seen := σ.seen.set n σ.round } hn2 hl2
              exact ⟨fun j hj => h1 j (keep j hj), h2⟩
            · exact ⟨keep, .inr ⟨rfl, rfl, rfl⟩⟩
          · split
            · exact ⟨keep, .inr ⟨rfl, rfl, rfl⟩⟩
            · obtain ⟨h1, h2⟩ := comeF_best (p := p) k (n + 1) { σ with seen := σ.seen.set n σ.round, next := σ.next ++ [(n, p)] } hn2 hl2
              exact ⟨fun j hj => h1 j (keep j hj), h2⟩
theorem comeF_len {p : Nat} : ∀ (k n : Nat) (σ : Rs), (comeF its p k n σ).seen.length = σ.seen.length
  | 0, n, σ => rfl
  | k + 1, n, σ => by
    unfold comeF
    split
    · rfl
    · split
      · simp
      · split
        · split
          · rw [comeF_len]; simp
          · simp
        · split
          · split
            · rw [comeF_len]; simp
            · simp
          · split
            · simp
            · rw [comeF_len]; simp
theorem stepF_best {g : Bool} {c : Ch} {u : Nat × Nat} {σ : Rs} (hl : σ.seen.length = its.length + 1) : (stepF g its c u σ).seen.length = its.length + 1 ∧ (∀ j : Nat, σ.seen[j]? = some σ.round → (stepF g its c u σ).seen[j]? = some σ.round) ∧ ((stepF g its c u σ).seen[its.length]? = some σ.round ∨ ((stepF g its c u σ).fo = σ.fo ∧ (stepF g its c u σ).bf = σ.bf ∧ (stepF g its c u σ).bt = σ.bt)) := by
  unfold stepF
  split
  · exact ⟨hl, fun j hj => hj, .inr ⟨rfl, rfl, rfl⟩⟩
  · rename_i x hx
    have hn2 : u.1 + 1 ≤ its.length := (List.getElem?_eq_some_iff.1 hx).1
    split
    · exact ⟨hl, fun j hj => hj, .inr ⟨rfl, rfl, rfl⟩⟩
    · split
      · exact ⟨(comeF_len _ _ _).trans hl, comeF_best _ _ _ (by omega) hl⟩
      · exact ⟨(comeF_len _ _ _).trans hl, comeF_best _ _ _ hn2 hl⟩
theorem stepsF_best {g : Bool} {c : Ch} : ∀ (ts : List (Nat × Nat)) (σ : Rs), σ.seen.length = its.length + 1 → (∀ j : Nat, σ.seen[j]? = some σ.round → (stepsF g its c ts σ).seen[j]? = some σ.round) ∧ ((stepsF g its c ts σ).seen[its.length]? = some σ.round ∨ ((stepsF g its c ts σ).fo = σ.fo ∧ (stepsF g its c ts σ).bf = σ.bf ∧ (stepsF g its c ts σ).bt = σ.bt))
  | [], σ, _ => ⟨fun j hj => hj, .inr ⟨rfl, rfl, rfl⟩⟩
  | u :: ts, σ, hl => by
    obtain ⟨h0, h1, h2⟩ := stepF_best (g := g) (its := its) (c := c) (u := u) hl
    have hrd : (stepF g its c u σ).round = σ.round := stepF_keeps.2.1
    obtain ⟨k1, k2⟩ := stepsF_best (g := g) (c := c) ts (stepF g its c u σ) h0
    rw [hrd] at k1 k2
    refine ⟨fun j hj => k1 j (h1 j hj), ?_⟩
    rcases k2 with k2 | ⟨a, b, d⟩
    · exact .inl k2
    · rcases h2 with h2 | ⟨a2, b2, d2⟩
      · exact .inl (k1 _ h2)
      · exact .inr ⟨a.trans a2, b.trans b2, d.trans d2⟩
theorem Reach.val {i n q : Nat} (h : Reach its l f t i n q) : ∀ j, j < i → wdI l f j ≠ 0 := by
  induction h with
  | start i hv _ => exact hv
  | pass i n q x _ _ _ ih => exact ih
  | one i n q x _ _ _ _ hw _ ih =>
    intro j hj
    by_cases e : j = i
    · rw [e]; exact hw
    · exact ih j (by omega)
  | more i n q x _ _ _ hw _ ih =>
    intro j hj
    by_cases e : j = i
    · rw [e]; exact hw
    · exact ih j (by omega)
/-- What holds ahead of the i-th round. -/
structure Pre (its : List Kd) (l : List UInt8) (f : Nat) (t : Int) (i : Nat) (σ : Rs) : Prop where
  ok : σ.Ok0 its l.length
  low : ∀ (n r : Nat), σ.seen[n]? = some r → r ≤ σ.round
  now : ∀ u ∈ σ.now, u.2 ≤ psI l f i ∧ ∃ x, its[u.1]? = some x ∧ (x.2 (ahI l f i) = true → Reach its l f t i (tgt u.1 x) u.2)
  rise : σ.now.Pairwise (fun a b => a.2 ≤ b.2)
  best : σ.fo = true → ∃ j, Reach its l f t j its.length σ.bf ∧ psI l f j = σ.bt
  cmp : ∀ i' n q x, i = i' + 1 → Reach its l f t i' n q → its[n]? = some x → 2 ≤ x.1 → (σ.fo = true ∧ σ.bf < q) ∨ ∃ q', q' ≤ q ∧ (n, q') ∈ σ.now
  top : ∀ j q, j < i → Reach its l f t j its.length q → σ.fo = true ∧ (σ.bf < q ∨ (σ.bf = q ∧ psI l f j ≤ σ.bt))
  bt : σ.bt ≤ psI l f i
  val : ∀ j, j < i → wdI l f j ≠ 0
/-- What holds behind it. -/
structure Beh (its : List Kd) (l : List UInt8) (f : Nat) (t : Int) (i : Nat) (σ : Rs) : Prop where
  ok : σ.Ok0 its l.length
  low : ∀ (n r : Nat), σ.seen[n]? = some r → r ≤ σ.round
  now : ∀ u ∈ σ.now, u.2 ≤ psI l f i ∧ Reach its l f t i u.1 u.2
  rise : σ.now.Pairwise (fun a b => a.2 ≤ b.2)
  best : σ.fo = true → ∃ j, Reach its l f t j its.length σ.bf ∧ psI l f j = σ.bt
  cmp : ∀ n q x, Reach its l f t i n q → its[n]? = some x → 2 ≤ x.1 → (σ.fo = true ∧ σ.bf < q) ∨ ∃ q', q' ≤ q ∧ (n, q') ∈ σ.now
  top : ∀ j q, j ≤ i → Reach its l f t j its.length q → σ.fo = true ∧ (σ.bf < q ∨ (σ.bf = q ∧ psI l f j ≤ σ.bt))
  bt : σ.bt ≤ psI l f i
theorem round_inv {i : Nat} {σ : Rs} (h : Pre its l f t i σ) (hp : psI l f i ≤ l.length) : Beh its l f t i (roundF false its l.length t (psI l f i) (ahI l f i) (ch1 (l.drop (psI l f i))) σ) := by
  have hok := roundF_ok (g := false) (n := l.length) (t := t) (a := ahI l f i) (c := ch1 (l.drop (psI l f i))) h.ok hp
  rw [roundF_eq] at hok ⊢
  obtain ⟨σ1, hσ1⟩ : ∃ s, s = arriveF l.length (psI l f i) (ahI l f i) (ch1 (l.drop (psI l f i))) σ := ⟨_, rfl⟩
  have e2 : mid2 false its t (arriveF l.length (psI l f i) (ahI l f i) (ch1 (l.drop (psI l f i))) σ) = σ1 := by rw [hσ1]; rfl
  rw [e2] at hok ⊢
  have hno : ∀ n : Nat, ¬ σ1.seen[n]? = some σ1.round := fun n hn => by
    rw [hσ1] at hn
    have h1 := h.low n (σ.round + 1) hn
    omega
  have hM1 : Mid its l f t i σ1 (fun _ => 0) 0 (fun _ => False) := by
    refine ⟨by rw [hσ1]; exact h.ok.len, fun n r hn => ?_, by rw [hσ1]; rfl, by rw [hσ1]; rfl, by rw [hσ1]; rfl, fun n hn => absurd hn (hno n), fun n x hn => absurd hn (hno n), fun n x hn => absurd hn (hno n), fun hn => absurd hn (hno _), fun u hu => ?_, ?_⟩
    · rw [hσ1] at hn ⊢
      have h1 := h.low n r hn
      show r ≤ σ.round + 1
      omega
    · rw [hσ1] at hu; cases hu
    · rw [hσ1]; exact List.Pairwise.nil
  have en : σ1.now = σ.now := by rw [hσ1]; rfl
  have ebf : σ1.bf = σ.bf ∧ σ1.bt = σ.bt ∧ σ1.fo = σ.fo := by rw [hσ1]; exact ⟨rfl, rfl, rfl⟩
  rw [en] at hok ⊢
  obtain ⟨mk3, a1, a2, a3, a4, a5, a6⟩ := steps_mid (c := ahI l f i) σ.now σ1 _ 0 (psI l f i) hM1 (by rw [ebf.2.1]; exact h.bt) h.rise (Nat.zero_le _) (fun u hu => ⟨Nat.zero_le _, h.now u hu⟩)
  obtain ⟨b1, b2⟩ := stepsF_best (g := false) (c := ahI l f i) σ.now σ1 hM1.len
  obtain ⟨σ3, hσ3⟩ : ∃ s, s = stepsF false its (ahI l f i) σ.now σ1 := ⟨_, rfl⟩
  rw [← hσ3] at a1 a2 a3 a4 a5 a6 b1 b2 hok ⊢
  -- a match begins here
  have key : ∃ mk4, Mid its l f t i (mid4 false its t σ3) mk4 (psI l f i) (fun _ => False) ∧ (mid4 false its t σ3).bt ≤ psI l f i ∧ Bet σ3 (mid4 false its t σ3) ∧ (mid4 false its t σ3).round = σ3.round ∧
      (∀ j, σ3.seen[j]? = some σ3.round → (mid4 false its t σ3).seen[j]? = some σ3.round ∧ mk4 j = mk3 j) ∧
      ((psI l f i : Int) ≤ t → ((mid4 false its t σ3).fo = true ∧ (mid4 false its t σ3).bf < psI l f i) ∨ ((mid4 false its t σ3).seen[0]? = some σ3.round ∧ mk4 0 ≤ psI l f i)) ∧
      ((mid4 false its t σ3).seen[its.length]? = some σ3.round ∨ ((mid4 false its t σ3).fo = σ3.fo ∧ (mid4 false its t σ3).bf = σ3.bf ∧ (mid4 false its t σ3).bt = σ3.bt)) := by
    have e4 : mid4 false its t σ3 = if (decide ((psI l f i : Int) ≤ t) && !worseV false σ3 (psI l f i)) = true then comeF its (psI l f i) (its.length + 1 - 0) 0 σ3 else σ3 := by
      show startF false its t σ3 = _
      unfold startF come
      rw [a1.loc]
    rw [e4]
    by_cases hc : (decide ((psI l f i : Int) ≤ t) && !worseV false σ3 (psI l f i)) = true
    · rw [if_pos hc]
      simp only [Bool.and_eq_true, decide_eq_true_eq, Bool.not_eq_true'] at hc
      obtain ⟨hc1, hc2⟩ := hc
      have hnw : σ3.fo = true → psI l f i ≤ σ3.bf := fun hf => by
        unfold worseV at hc2
        rw [hf] at hc2
        simp at hc2
        exact hc2
      obtain ⟨mk4, r1, r2, r3, r4, r5, r6⟩ := come_mid (its.length + 1 - 0) 0 σ3 mk3 (psI l f i) (fun _ => False) (Nat.le_refl _) (Nat.zero_le _) (Nat.le_refl _) a1 (.start i h.val hc1) hnw a2 (fun j hj => hj.elim)
      exact ⟨mk4, r1, r6, r5, (comeF_keeps _ _ _).2.1, r4, fun _ => .inr ⟨r2, r3⟩, (comeF_best _ _ _ (Nat.zero_le _) a1.len).2⟩
    · rw [if_neg hc]
      refine ⟨mk3, a1, a2, Bet.refl _, rfl, fun j hj => ⟨hj, rfl⟩, fun ht => .inl ?_, .inr ⟨rfl, rfl, rfl⟩⟩
      have h1 : worseV false σ3 (psI l f i) = true := by
        simp only [Bool.and_eq_true, decide_eq_true_eq, Bool.not_eq_true'] at hc
        cases hw : worseV false σ3 (psI l f i) with
        | true => rfl
        | false => exact absurd ⟨ht, hw⟩ hc
      unfold worseV at h1
      simp at h1
      exact h1
  obtain ⟨mk4, c1, c2, c3, c4, c5, c6, c7⟩ := key
  obtain ⟨σ4, hσ4⟩ : ∃ s, s = mid4 false its t σ3 := ⟨_, rfl⟩
  rw [← hσ4] at c1 c2 c3 c4 c5 c6 c7 hok ⊢
  have hbet : Bet σ σ4 := fun hf => by
    have h1 := (a3.trans c3) (by rw [ebf.2.2]; exact hf)
    rw [ebf.1, ebf.2.1] at h1
    exact h1
  have r43 : σ4.round = σ3.round := c4
  have r31 : σ3.round = σ1.round := a4
  have claim : ∀ i0 n q, Reach its l f t i0 n q → i0 = i → (σ4.fo = true ∧ σ4.bf < q) ∨ (σ4.seen[n]? = some σ4.round ∧ mk4 n ≤ q) := by
    have go : ∀ (n q : Nat) (x : Kd) (i' : Nat), Reach its l f t i' n q → i' + 1 = i → its[n]? = some x → 2 ≤ x.1 → x.2 (ahI l f i) = true → (σ4.fo = true ∧ σ4.bf < q) ∨ (σ4.seen[tgt n x]? = some σ4.round ∧ mk4 (tgt n x) ≤ q) := fun n q x i' hr hi hx h2 hxa => by
      rcases h.cmp i' n q x hi.symm hr hx h2 with ⟨q1, q2⟩ | ⟨q', q1, q2⟩
      · obtain ⟨s1, s2⟩ := hbet q1
        exact .inl ⟨s1, by omega⟩
      · rcases a6 (n, q') q2 x hx hxa with ⟨s1, s2⟩ | ⟨s1, s2⟩
        · obtain ⟨u1, u2⟩ := c3 s1
          refine .inl ⟨u1, ?_⟩
          have s2' : σ3.bf < q' := s2
          omega
        · rw [← r31] at s1
          obtain ⟨u1, u2⟩ := c5 _ s1
          refine .inr ⟨by rw [r43]; exact u1, ?_⟩
          have s2' : mk3 (tgt n x) ≤ q' := s2
          rw [show mk4 (tgt n x) = mk3 (tgt n x) from u2]
          omega
    intro i0 n q hr
    induction hr with
    | start i0 hv ht =>
      rintro rfl
      rcases c6 ht with h1 | ⟨h1, h2⟩
      · exact .inl h1
      · exact .inr ⟨by rw [r43]; exact h1, h2⟩
    | pass i0 n q x _ hx hz ih =>
      rintro rfl
      rcases ih rfl with h1 | ⟨h1, h2⟩
      · exact .inl h1
      · obtain ⟨k1, k2⟩ := c1.pass n x h1 hx hz (fun h => h)
        exact .inr ⟨k1, by omega⟩
    | one i0 n q x hr hx h2 h4 hw hc ih =>
      intro hi
      have k := go n q x i0 hr hi hx h2 (by rw [← hi]; exact hc)
      unfold tgt at k
      rwa [if_neg h4] at k
    | more i0 n q x hr hx h4 hw hc ih =>
      intro hi
      have k := go n q x i0 hr hi hx (by omega) (by rw [← hi]; exact hc)
      unfold tgt at k
      rwa [if_pos h4] at k
  refine ⟨hok, fun n r hn => c1.low n r hn, fun u hu => c1.next u hu, c1.rise, fun hf => ?_, fun n q x hr hx h2 => ?_, fun j q hj hr => ?_, c2⟩
  · -- what is found is reached
    show ∃ j, Reach its l f t j its.length σ4.bf ∧ psI l f j = σ4.bt
    by_cases hs : σ4.seen[its.length]? = some σ4.round
    · obtain ⟨_, d2, d3⟩ := c1.done hs
      exact ⟨i, by rw [d2]; exact (c1.reach _ hs).2, d3.symm⟩
    · rcases c7 with h1 | ⟨d1, d2, d3⟩
      · exact absurd (by rw [r43]; exact h1) hs
      · rcases b2 with h1 | ⟨g1, g2, g3⟩
        · rw [← r31] at h1
          exact absurd (by rw [r43]; exact (c5 _ h1).1) hs
        · have hf' : σ4.fo = true := hf
          obtain ⟨j, k1, k2⟩ := h.best (by rw [← ebf.2.2, ← g1, ← d1]; exact hf')
          exact ⟨j, by rw [d2, g2, ebf.1]; exact k1, by rw [d3, g3, ebf.2.1]; exact k2⟩
  · rcases claim i n q hr rfl with h1 | ⟨h1, h3⟩
    · exact .inl h1
    · exact .inr ⟨mk4 n, h3, c1.wait n x h1 hx h2⟩
  · rcases Nat.lt_or_eq_of_le hj with hlt | rfl
    · obtain ⟨k1, k2⟩ := h.top j q hlt hr
      obtain ⟨s1, s2⟩ := hbet k1
      exact ⟨s1, by show σ4.bf < q ∨ (σ4.bf = q ∧ psI l f j ≤ σ4.bt); omega⟩
    · rcases claim j its.length q hr rfl with ⟨h1, h3⟩ | ⟨h1, h3⟩
      · exact ⟨h1, .inl h3⟩
      · obtain ⟨d1, d2, d3⟩ := c1.done h1
        exact ⟨d1, by show σ4.bf < q ∨ (σ4.bf = q ∧ psI l f j ≤ σ4.bt); omega⟩
theorem ps_up {i j : Nat} (h : i ≤ j) : psI l f i ≤ psI l f j := by
  induction j with
  | zero => rw [Nat.le_zero.1 h]; exact Nat.le_refl _
  | succ j ih =>
    by_cases e : i = j + 1
    · rw [e]; exact Nat.le_refl _
    · have h1 := ih (by omega)
      have h2 : psI l f (j + 1) = psI l f j + cw1 (l.drop (psI l f j)) := rfl
      omega
/-- The search is over: nothing better can come. -/
theorem late {i : Nat} {σ : Rs} (h : Beh its l f t i σ) (hw : wdI l f i ≠ 0) (hn : σ.now = []) (hs : t ≤ (psI l f i : Int) ∨ (σ.fo = true ∧ σ.bf < psI l f i + 1)) : ∀ j n q, Reach its l f t j n q → i < j → σ.fo = true ∧ σ.bf < q := by
  intro j n q hr
  have st : ∀ (i0 n q : Nat) (x : Kd), Reach its l f t i0 n q → its[n]? = some x → 2 ≤ x.1 → i < i0 + 1 → (i < i0 → σ.fo = true ∧ σ.bf < q) → σ.fo = true ∧ σ.bf < q := fun i0 n q x hr hx h2 hi ih => by
    by_cases e : i < i0
    · exact ih e
    · obtain rfl : i = i0 := by omega
      rcases h.cmp n q x hr hx h2 with h1 | ⟨q', _, h1⟩
      · exact h1
      · rw [hn] at h1; cases h1
  induction hr with
  | start j hv ht =>
    intro hij
    have h1 : psI l f (i + 1) ≤ psI l f j := ps_up hij
    have h2 : psI l f (i + 1) = psI l f i + wdI l f i := rfl
    rcases hs with hs | ⟨hs1, hs2⟩
    · omega
    · exact ⟨hs1, by omega⟩
  | pass j n q x _ _ _ ih => exact ih
  | one j n q x hr hx h2 _ _ _ ih => exact fun hij => st j n q x hr hx h2 hij ih
  | more j n q x hr hx h4 _ _ ih => exact fun hij => st j n q x hr hx (by omega) hij ih
/-- What a search leaves: a match that is reached, and no reached one begins ahead of it, or begins with it and ends behind it. -/
def Found (its : List Kd) (l : List UInt8) (f : Nat) (t : Int) (τ : Rs) : Prop :=
  (τ.fo = true → ∃ j, Reach its l f t j its.length τ.bf ∧ psI l f j = τ.bt) ∧ (∀ j q, Reach its l f t j its.length q → τ.fo = true ∧ (τ.bf < q ∨ (τ.bf = q ∧ psI l f j ≤ τ.bt))) ∧ ∀ (n r : Nat), τ.seen[n]? = some r → r ≤ τ.round
theorem loop_found : ∀ (k i : Nat) (σ : Rs), Pre its l f t i σ → psI l f i ≤ l.length → l.length + 1 - psI l f i ≤ k → Found its l f t (loopF false its l t k (psI l f i) (ahI l f i) σ)
  | 0, i, σ, _, hp, hk => by omega
  | k + 1, i, σ, h, hp, hk => by
    have hb := round_inv h hp
    obtain ⟨τ, hτ⟩ : ∃ τ, τ = roundF false its l.length t (psI l f i) (ahI l f i) (ch1 (l.drop (psI l f i))) σ := ⟨_, rfl⟩
    unfold loopF
    rw [← hτ] at hb ⊢
    have hwl : psI l f i + wdI l f i ≤ l.length := by
      unfold wdI cw1
      split
      · exact hp
      · rename_i h0
        have h3 := cw_len _ h0
        rw [List.length_drop] at h3
        have h4 : 0 < (l.drop (psI l f i)).length := List.length_pos_iff.2 h0
        rw [List.length_drop] at h4
        omega
    by_cases hs : stopV false t (psI l f i) (cw1 (l.drop (psI l f i))) τ = true
    · rw [if_pos hs]
      refine ⟨hb.best, fun j q hr => ?_, hb.low⟩
      by_cases hj : j ≤ i
      · exact hb.top j q hj hr
      · have hw : wdI l f i ≠ 0 := hr.val i (by omega)
        have hw2 : cw1 (l.drop (psI l f i)) ≠ 0 := hw
        unfold stopV worseV at hs
        simp only [Bool.or_eq_true, Bool.and_eq_true, decide_eq_true_eq, Bool.false_eq_true, if_false] at hs
        rcases hs with hs | ⟨hs1, hs2⟩
        · exact absurd hs hw2
        · have h1 := late hb hw (List.eq_nil_of_length_eq_zero hs1) hs2 j its.length q hr (by omega)
          exact ⟨h1.1, .inl h1.2⟩
    · rw [if_neg hs]
      have hw : wdI l f i ≠ 0 := fun h0 => by
        have h1 : cw1 (l.drop (psI l f i)) = 0 := h0
        apply hs
        unfold stopV
        rw [h1]
        rfl
      have hw2 : 0 < cw1 (l.drop (psI l f i)) := Nat.pos_of_ne_zero hw
      refine loop_found k (i + 1) τ ⟨hb.ok, hb.low, fun u hu => ?_, hb.rise, hb.best, fun i' n q x hi hr hx h2 => ?_, fun j q hj hr => hb.top j q (by omega) hr, Nat.le_trans hb.bt (ps_up (by omega)), fun j hj => ?_⟩ hwl ?_
      · obtain ⟨k1, k2⟩ := hb.now u hu
        refine ⟨Nat.le_trans k1 (ps_up (by omega)), ?_⟩
        obtain ⟨⟨x, hx, h2⟩, _⟩ := hb.ok.thn u hu
        refine ⟨x, hx, fun hc => ?_⟩
        unfold tgt
        by_cases h4 : x.1 = 4
        · rw [if_pos h4]; exact .more i _ _ x k2 hx h4 hw hc
        · rw [if_neg h4]; exact .one i _ _ x k2 hx h2 h4 hw hc
      · obtain rfl : i = i' := by omega
        exact hb.cmp n q x hr hx h2
      · by_cases e : j = i
        · rw [e]; exact hw
        · exact h.val j (by omega)
      · show l.length + 1 - (psI l f i + cw1 (l.drop (psI l f i))) ≤ k
        omega
theorem search_found {σ : Rs} (hf : f ≤ l.length) (hl : σ.seen.length = its.length + 1) (hlow : ∀ (n r : Nat), σ.seen[n]? = some r → r ≤ σ.round) : Found its l f t (searchF false its l f t σ) := by
  have h0 : Pre its l f t 0 { σ with now := [], bf := 0, bt := 0, fo := false } :=
    ⟨⟨fun u hu => by simp at hu, hl, Nat.zero_le _, Nat.zero_le _⟩, hlow, fun u hu => by simp at hu, List.Pairwise.nil, fun h => by simp at h, fun i' n q x hi => by omega, fun j q hj => by omega, Nat.zero_le _, fun j hj => by omega⟩
  exact loop_found (l.length + 1 - f) 0 _ h0 hf (Nat.le_refl _)
end
end Go.Proofs.YtodooppapciegaaGreatDoor
