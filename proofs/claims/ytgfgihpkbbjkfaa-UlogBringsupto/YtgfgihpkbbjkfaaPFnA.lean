/- Package pmem: a Fence under way. -/
import Derived.Test.YtgfgihpkbbjkfaaPFn
namespace Go.Proofs.Ytgfgihpkbbjkfaa
open Go.RowKit Go.Shelf
set_option linter.unusedVariables false

theorem foot_obj2 {w : World} {b : Nat} {L : Lay} {σ : St} (h : DevL w b L σ) {k : Nat} (hf : Foot b L σ k) : (∃ c t f, w.heap[k]? = some (.cells c t f)) ∨ (∃ es q, w.heap[k]? = some (.map es q)) := by
  rcases hf with rfl | rfl | rfl | rfl | ⟨i, hi, rfl | hg⟩ | hg | hg
  · exact .inl ⟨_, _, _, h.dev⟩
  · exact .inl ⟨_, _, _, h.seen⟩
  · exact .inr h.old.block
  · exact .inr h.flm.block
  · exact .inl ⟨_, _, _, (h.pasts i hi).1⟩
  · obtain ⟨c, hc⟩ := (h.pasts i hi).row hg
    exact .inl ⟨_, _, _, hc⟩
  · obtain ⟨c, hc⟩ := h.av_row hg
    exact .inl ⟨_, _, _, hc⟩
  · obtain ⟨c, hc⟩ := h.kbt k hg
    exact .inl ⟨_, _, _, hc⟩
/-- The world in the midst of a Fence. -/
structure FenR (w : World) (b : Nat) (L : Lay) (σ : St) (r : Nat) (wr : World) (left : Int → Bool) (L' : Lay) : Prop where
  ran : RanG (plainElem Try.prog 3) numD wr L.fb r L.N (flF σ) left
  dev : DevL wr b L' (fenL σ left)
  same : SameL L L'
  num : L'.N = L.N
  foot : ∀ k, Foot b L' (fenL σ left) k → Foot b L σ k ∨ w.heap.size ≤ k
  gr : Gr (Foot b L σ) w wr
theorem FenR.next {w wr w1 : World} {b r : Nat} {L L' : Lay} {σ : St} {left : Int → Bool} (h : FenR w b L σ r wr left L') (hg : wr.grownBy w1 (some r)) (hr : w.heap.size ≤ r) : DevL w1 b L' (fenL σ left) ∧ Gr (Foot b L σ) w w1 := by
  obtain ⟨s1, s2, s3, hI⟩ := h.ran.blockI
  refine ⟨h.dev.keep fun k hk => ?_, h.gr.trans (Gr.of_grown (r := some r) hg ?_ : Gr (fun k => Foot b L σ k ∨ k = r) wr w1) ?_⟩
  · have hne : k ≠ r := fun e => by
      subst e
      rcases foot_obj2 h.dev hk with ⟨c, t, f, e1⟩ | ⟨c, t, e1⟩ <;> (rw [hI] at e1; cases e1)
    have hlt : k < wr.heap.size := by
      rcases foot_obj2 h.dev hk with ⟨c, t, f, e1⟩ | ⟨c, t, e1⟩ <;> exact lt_of_heap e1
    exact hg.block k hlt (fun e => hne (Option.some.inj e))
  · intro k hk
    cases hk
    exact .inl (.inr rfl)
  · rintro i (h1 | rfl)
    · exact .inl h1
    · exact .inr hr
theorem FenR.step {w w1 W' : World} {b r i p : Nat} {L L' : Lay} {σ : St} {left : Int → Bool} {v' : Value} (hd : DevL w1 b L' (fenL σ left)) (hs : SameL L L') (hN : L'.N = L.N) (hfoot : ∀ k, Foot b L' (fenL σ left) k → Foot b L σ k ∨ w.heap.size ≤ k) (hgr1 : Gr (Foot b L σ) w w1)
    (hfl : σ.fl i = some p) (hl : left (i : Int) = true) (hpi : σ.past i ≠ []) (hran : RanG (plainElem Try.prog 3) numD w1 L.fb r L.N (flF σ) (fun y => left y && !decide (y = (i : Int))))
    (hgr : Gr (fun k => k = L'.pb i ∨ k = L'.ob) w1 W') (hold : MapG ptrE DataW.held W' L'.ob L'.N (oldF L' { fenL σ left with past := fun j => if j = i then (σ.past i).drop p else (fenL σ left).past j }))
    (hp : (σ.past i).drop p ≠ [] → PastAt W' (L'.pb i) v' ((σ.past i).drop p)) (hv : ∃ g, v'.ownBlock = some g ∧ w1.heap.size ≤ g) :
    FenR w b L σ r W' (fun y => left y && !decide (y = (i : Int))) { L' with rv := fun j => if j = i then v' else L'.rv j } ∧ W'.rangeLeft L.fb r = w1.rangeLeft L.fb r := by
  obtain ⟨hst, hpa⟩ := fenL_step σ left i p hfl hl
  have hpi' : (fenL σ left).past i ≠ [] := by rw [hpa]; exact hpi
  have hP := (hd.pasts i hpi').1
  obtain ⟨eo, qo, hob⟩ := hd.old.block
  obtain ⟨ef, qf, hfb⟩ := hd.flm.block
  obtain ⟨s1, s2, s3, hI⟩ := hran.blockI
  have hc : ∀ (k : Nat) (c : Array Value) (t : TypeId) (f : Nat × Nat), w1.heap[k]? = some (.cells c t f) → k ≠ L'.pb i → W'.heap[k]? = w1.heap[k]? := fun k c t f hk hne => hgr.block (lt_of_heap hk) (fun h => h.elim hne (ne_map hk hob))
  have hfbk : W'.heap[L'.fb]? = w1.heap[L'.fb]? := hgr.block (lt_of_heap hfb) (fun h => h.elim (fun e => ne_map hP hfb e.symm) (fun e => hd.mne e.symm))
  have hrk : W'.heap[r]? = w1.heap[r]? := hgr.block (lt_of_heap hI) (fun h => by
    rcases h with e | e
    · rw [e, hP] at hI; cases hI
    · rw [e, hob] at hI; cases hI)
  have hD := dev_past hd hpi' hc hfbk hold hp hv
  rw [← hst] at hD
  obtain ⟨hk1, hk2⟩ := hran.kept (w' := W') (by rw [← hs.2.2.1]; exact hfbk) hrk
  refine ⟨⟨hk1, hD, ⟨hs.1, hs.2.1, hs.2.2.1, hs.2.2.2.1, hs.2.2.2.2⟩, hN, fun k hk => ?_, ?_⟩, hk2⟩
  · rw [hst] at hk
    rcases hk with h | h | h | h | ⟨j, hj, h⟩ | h | h
    · exact hfoot k (.inl h)
    · exact hfoot k (.inr (.inl h))
    · exact hfoot k (.inr (.inr (.inl h)))
    · exact hfoot k (.inr (.inr (.inr (.inl h))))
    · by_cases e : j = i
      · subst e
        simp only [if_true] at h
        rcases h with h | h
        · exact hfoot k (.inr (.inr (.inr (.inr (.inl ⟨j, hpi', .inl h⟩)))))
        · obtain ⟨g, hg1, hg2⟩ := hv
          rw [hg1] at h
          cases h
          exact .inr (Nat.le_trans hgr1.size hg2)
      · simp only [if_neg e] at hj h
        exact hfoot k (.inr (.inr (.inr (.inr (.inl ⟨j, hj, h⟩)))))
    · exact hfoot k (.inr (.inr (.inr (.inr (.inr (.inl h))))))
    · exact hfoot k (.inr (.inr (.inr (.inr (.inr (.inr h))))))
  · refine hgr1.trans hgr fun k hk => ?_
    rcases hk with rfl | rfl
    · exact hfoot _ (.inr (.inr (.inr (.inr (.inl ⟨i, hpi', .inl rfl⟩)))))
    · exact hfoot _ (.inr (.inr (.inl rfl)))
theorem old_same {L' : Lay} {σ : St} {i : Nat} {ps : List (List Nat)} (h : σ.past i ≠ []) (hp : ps ≠ []) (x : Int) : oldF L' σ x = oldF L' { σ with past := fun j => if j = i then ps else σ.past j } x := by
  unfold oldF
  by_cases e : x.toNat = i
  · simp [e, h, hp]
  · simp [e]
theorem old_less {L' : Lay} {σ : St} {i : Nat} (x : Int) : (if x = (i : Int) then none else oldF L' σ x) = oldF L' { σ with past := fun j => if j = i then [] else σ.past j } x := by
  unfold oldF
  by_cases e : x = (i : Int)
  · subst e
    simp
  · rw [if_neg e]
    by_cases h0 : 0 ≤ x
    · have e' : ¬ x.toNat = i := by omega
      simp [e']
    · simp [h0]
/-- The flushed lines are a new map, an empty one. -/
theorem dev_newfl {w : World} {b : Nat} {L : Lay} {σ : St} (h : DevL w b L σ) : DevL ((w.alloc (.map #[] 0)).setCell ⟨b, 3, none⟩ (.map (some w.heap.size))) b { L with fb := w.heap.size } { σ with fl := fun _ => none } := by
  have hA : Below w.heap.size w (w.alloc (.map #[] 0)) := (Below.refl _ w).alloc (Nat.le_refl _) _
  have hb := (hA.block b (lt_of_heap h.dev)).trans h.dev
  have kc : ∀ (k : Nat) (c : Array Value) (t : TypeId) (f : Nat × Nat), w.heap[k]? = some (.cells c t f) → k ≠ b → ((w.alloc (.map #[] 0)).setCell ⟨b, 3, none⟩ (.map (some w.heap.size))).heap[k]? = w.heap[k]? := fun k c t f hk hne => (heap_set_ne _ b 3 k _ hne).trans (hA.block k (lt_of_heap hk))
  have kt : ∀ (k : Nat) (c : Array Value) (t : TypeId) (f : Nat × Nat), w.heap[k]? = some (.cells c t f) → t ≠ 69 → ((w.alloc (.map #[] 0)).setCell ⟨b, 3, none⟩ (.map (some w.heap.size))).heap[k]? = w.heap[k]? := fun k c t f hk ht => kc k c t f hk (ne_ty hk h.dev ht)
  obtain ⟨eo, qo, hob⟩ := h.old.block
  have hbl := lt_of_heap h.dev
  refine ⟨heap_set1 _ b 3 _ _ _ hb, (kt _ _ _ _ h.seen (by decide)).trans h.seen, h.old.of_block ((heap_set_ne _ b 3 _ _ (ne_map h.dev hob).symm).trans (hA.block _ (lt_of_heap hob))), ?_, fun i hi => (h.pasts i hi).keep (kt _ _ _ _ (h.pasts i hi).1 (by decide)) (fun g hg' => ?_), h.pne, h.rne, Nat.ne_of_lt (lt_of_heap hob), h.arms.keep (fun g hg' => ?_) (fun g hg' => ?_), fun k hk => ?_⟩
  · have hm := (MapG.made (plainElem Try.prog 3) numD w).of_block (w' := (w.alloc (.map #[] 0)).setCell ⟨b, 3, none⟩ (.map (some w.heap.size))) (heap_set_ne _ b 3 _ _ (by omega))
    exact (hm.mono (Nat.zero_le _)).congr fun x => by unfold flF; split <;> rfl
  · obtain ⟨c, hc⟩ := (h.pasts i hi).row hg'
    exact kt _ _ _ _ hc (by decide)
  · obtain ⟨c, hc⟩ := h.av_row hg'
    exact kt _ _ _ _ hc (by decide)
  · obtain ⟨c, hc⟩ := h.kbt g hg'
    exact kt _ _ _ _ hc (by decide)
  · obtain ⟨c, hc⟩ := h.kbt k hk
    exact ⟨c, (kt _ _ _ _ hc (by decide)).trans hc⟩
end Go.Proofs.Ytgfgihpkbbjkfaa
