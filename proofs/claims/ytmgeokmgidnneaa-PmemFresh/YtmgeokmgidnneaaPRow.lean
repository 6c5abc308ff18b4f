/- Rows of a walk's own, several at once: each in a block of its own. -/
import Derived.Test.YtmgeokmgidnneaaPEvM
import Derived.Laws.OwnMore
namespace Go.Proofs.Ytmgeokmgidnneaa
open Go.RowKit Go.Shelf
set_option linter.unusedVariables false

/-- The rows of a book: what is seen, all that was, what lasts, which words are sure, marks; and of each word the row of what it was. -/
inductive Key where
  | seen | held | last | sure | marks
  | inner (i : Nat)
deriving DecidableEq
structure Rw where
  t : TypeId
  v : Value
  xs : List Value
structure Own (W : World) (R : Key → Option Rw) : Prop where
  row : ∀ k r, R k = some r → W.ownsRow 0 r.t 1 r.v r.xs.length r.xs
  ne : ∀ k k' r r' g, k ≠ k' → R k = some r → R k' = some r' → r.v.ownBlock = some g → r'.v.ownBlock ≠ some g
  ty : ∀ k r, R k = some r → r.t = 47 ∨ r.t = 29 ∨ r.t = 4 ∨ r.t = 3
/-- The blocks of the rows. -/
def FootR (R : Key → Option Rw) (g : Nat) : Prop := ∃ k r, R k = some r ∧ r.v.ownBlock = some g
def upd (R : Key → Option Rw) (k : Key) (r : Rw) : Key → Option Rw := fun q => if q = k then some r else R q
section
variable {W W' : World} {R : Key → Option Rw}
theorem Own.lt (h : Own W R) {g : Nat} (hg : FootR R g) : ∃ c t, W.heap[g]? = some (.cells c t (0, 0)) ∧ (t = 47 ∨ t = 29 ∨ t = 4 ∨ t = 3) := by
  obtain ⟨k, r, hk, hb⟩ := hg
  obtain ⟨c, hc⟩ := own_type (h.row k r hk) hb
  exact ⟨c, _, hc, h.ty k r hk⟩
theorem Own.keep (h : Own W R) (hk : ∀ g, FootR R g → W'.heap[g]? = W.heap[g]?) : Own W' R :=
  ⟨fun k r hr => ownsRow_of_block (h.row k r hr) (fun g hg => hk g ⟨k, r, hr, hg⟩), h.ne, h.ty⟩
theorem Own.below (h : Own W R) (hB : Below W.heap.size W W') : Own W' R := h.keep fun g hg => by
  obtain ⟨c, t, hc, _⟩ := h.lt hg
  exact hB.block g (lt_of_heap hc)
theorem Own.gr {X : Nat → Prop} (h : Own W R) (hg : Gr X W W') (hx : ∀ g, FootR R g → ¬ X g) : Own W' R := h.keep fun g hf => by
  obtain ⟨c, t, hc, _⟩ := h.lt hf
  exact hg.block (lt_of_heap hc) (hx g hf)
theorem Own.congr {R' : Key → Option Rw} (h : Own W R) (e : ∀ k, R' k = R k) : Own W R' := by
  have : R' = R := funext e
  rw [this]
  exact h
/-- A row has grown. -/
theorem Own.grow {k : Key} {r : Rw} {v : Value} {ys : List Value} (h : Own W R) (hk : R k = some r) (hg : W.grownBy W' r.v.ownBlock) (ho : W'.ownsRow 0 r.t 1 v ys.length ys) (hat : v.ownBlock = r.v.ownBlock ∨ v.ownBlock = some W.heap.size) : Own W' (upd R k ⟨r.t, v, ys⟩) := by
  have hlt : ∀ q s g, R q = some s → s.v.ownBlock = some g → g < W.heap.size := fun q s g hq hs => by
    obtain ⟨c, t, hc, _⟩ := h.lt ⟨q, s, hq, hs⟩
    exact lt_of_heap hc
  refine ⟨fun q s hq => ?_, fun q q' s s' g hn hq hq' hs => ?_, fun q s hq => ?_⟩
  · unfold upd at hq
    by_cases e : q = k
    · rw [if_pos e] at hq; cases hq; exact ho
    · rw [if_neg e] at hq
      refine ownsRow_of_block (h.row q s hq) (fun g hs => hg.block g (hlt q s g hq hs) (fun e2 => ?_))
      exact h.ne q k s r g e hq hk hs e2.symm
  · unfold upd at hq hq'
    by_cases e : q = k
    · rw [if_pos e] at hq
      rw [if_neg (fun e2 => hn (e.trans e2.symm))] at hq'
      cases hq
      intro h2
      rcases hat with e3 | e3
      · exact h.ne k q' r s' g (fun e4 => hn (e.trans e4)) hk hq' (e3 ▸ hs) h2
      · have h5 := hlt q' s' g hq' h2
        rw [e3] at hs
        cases hs
        omega
    · rw [if_neg e] at hq
      by_cases e' : q' = k
      · rw [if_pos e'] at hq'
        cases hq'
        intro h2
        rcases hat with e3 | e3
        · exact h.ne k q r s g (fun e4 => e e4.symm) hk hq (e3 ▸ h2) hs
        · have h5 := hlt q s g hq hs
          rw [e3] at h2
          cases h2
          omega
      · rw [if_neg e'] at hq'
        exact h.ne q q' s s' g hn hq hq' hs
  · unfold upd at hq
    by_cases e : q = k
    · rw [if_pos e] at hq; cases hq; exact h.ty k r hk
    · rw [if_neg e] at hq; exact h.ty q s hq
/-- A row more, in a block that is none of the others'. -/
theorem Own.more {k : Key} {r : Rw} (h : Own W R) (hr : W.ownsRow 0 r.t 1 r.v r.xs.length r.xs) (ht : r.t = 47 ∨ r.t = 29 ∨ r.t = 4 ∨ r.t = 3) (hn : ∀ g, r.v.ownBlock = some g → ¬ FootR R g) : Own W (upd R k r) := by
  refine ⟨fun q s hq => ?_, fun q q' s s' g hne hq hq' hs => ?_, fun q s hq => ?_⟩
  · unfold upd at hq
    by_cases e : q = k
    · rw [if_pos e] at hq; cases hq; exact hr
    · rw [if_neg e] at hq; exact h.row q s hq
  · unfold upd at hq hq'
    by_cases e : q = k
    · rw [if_pos e] at hq
      rw [if_neg (fun e2 => hne (e.trans e2.symm))] at hq'
      cases hq
      exact fun h2 => hn g hs ⟨q', s', hq', h2⟩
    · rw [if_neg e] at hq
      by_cases e' : q' = k
      · rw [if_pos e'] at hq'
        cases hq'
        exact fun h2 => hn g h2 ⟨q, s, hq, hs⟩
      · rw [if_neg e'] at hq'
        exact h.ne q q' s s' g hne hq hq' hs
  · unfold upd at hq
    by_cases e : q = k
    · rw [if_pos e] at hq; cases hq; exact ht
    · rw [if_neg e] at hq; exact h.ty q s hq
/-- Where a row lies that is not empty. -/
theorem Own.at (h : Own W R) {k : Key} {r : Rw} (hk : R k = some r) (hn : 0 < r.xs.length) : ∃ g cap cur, r.v = .slice (some ⟨g, 0, none⟩) r.xs.length cap ∧ W.heap[g]? = some (.cells cur r.t (0, 0)) ∧ r.xs.length ≤ cur.size ∧ (∀ (j : Nat) (x : Value), r.xs[j]? = some x → cur[j]? = some x) ∧ FootR R g := by
  rcases (h.row k r hk).2 with ⟨_, e⟩ | ⟨g, cap, cur, e, _, h2, h3, _, h4, h5⟩
  · omega
  · refine ⟨g, cap, cur, e, h2, by omega, fun j x hj => ?_, ⟨k, r, hk, by rw [e]; rfl⟩⟩
    have hlt : j < r.xs.length := (List.getElem?_eq_some_iff.1 hj).1
    have h6 : (cur.toList.take (r.xs.length * 1))[j]? = some x := by rw [h5]; exact hj
    rw [List.getElem?_take, if_pos (by omega)] at h6
    simpa using h6
/-- A cell of a row is written. -/
theorem Own.set {k : Key} {r : Rw} {g n cap j : Nat} {u : Value} (h : Own W R) (hk : R k = some r) (hv : r.v = .slice (some ⟨g, 0, none⟩) n cap) (hn : r.xs.length = n) : Own (W.setCell ⟨g, j, none⟩ u) (upd R k ⟨r.t, r.v, r.xs.set j u⟩) := by
  have hr := h.row k r hk
  have hb : r.v.ownBlock = some g := by rw [hv]; rfl
  have hg : W.grownBy (W.setCell ⟨g, j, none⟩ u) r.v.ownBlock := ⟨rfl, rfl, rfl, by simp [World.setCell], fun q hq hne => heap_set_ne W g j q u (fun e => hne (by rw [hb, e]))⟩
  refine h.grow hk hg ?_ (.inl rfl)
  rw [hn] at hr
  rw [List.length_set, hn]
  rw [hv] at hr ⊢
  exact (hr.stored j u).1
theorem FootR.upd_sub {k : Key} {r : Rw} {s : Rw} {g N : Nat} (hk : R k = some s) (hat : r.v.ownBlock = s.v.ownBlock ∨ ∀ q, r.v.ownBlock = some q → N ≤ q) (hf : FootR (upd R k r) g) : FootR R g ∨ N ≤ g := by
  obtain ⟨q, t, hq, hb⟩ := hf
  unfold upd at hq
  by_cases e : q = k
  · rw [if_pos e] at hq
    cases hq
    rcases hat with h | h
    · exact .inl ⟨k, s, hk, by rw [← h]; exact hb⟩
    · exact .inr (h g hb)
  · rw [if_neg e] at hq
    exact .inl ⟨q, t, hq, hb⟩
theorem FootR.more_sub {k : Key} {r : Rw} {g N : Nat} (hat : ∀ q, r.v.ownBlock = some q → N ≤ q) (hf : FootR (upd R k r) g) : FootR R g ∨ N ≤ g := by
  obtain ⟨q, t, hq, hb⟩ := hf
  unfold upd at hq
  by_cases e : q = k
  · rw [if_pos e] at hq
    cases hq
    exact .inr (hat g hb)
  · rw [if_neg e] at hq
    exact .inl ⟨q, t, hq, hb⟩
end
end Go.Proofs.Ytmgeokmgidnneaa
