/- Package pmem: what is flushed is fenced. -/
import Derived.Test.YtgfgihpkbbjkfaaPFl
namespace Go.Proofs.Ytgfgihpkbbjkfaa
open Go.RowKit Go.Shelf
set_option linter.unusedVariables false

/-- The past of one line has changed, in its block and in new ones. -/
theorem dev_past {W W' : World} {b i : Nat} {L : Lay} {σ : St} {ps : List (List Nat)} {v' : Value} (hd : DevL W b L σ) (hpi : σ.past i ≠ [])
    (hc : ∀ (k : Nat) (c : Array Value) (t : TypeId) (f : Nat × Nat), W.heap[k]? = some (.cells c t f) → k ≠ L.pb i → W'.heap[k]? = W.heap[k]?) (hfl : W'.heap[L.fb]? = W.heap[L.fb]?)
    (hold : MapG ptrE DataW.held W' L.ob L.N (oldF L { σ with past := fun j => if j = i then ps else σ.past j })) (hp : ps ≠ [] → PastAt W' (L.pb i) v' ps) (hv : ∃ g, v'.ownBlock = some g ∧ W.heap.size ≤ g) :
    DevL W' b { L with rv := fun j => if j = i then v' else L.rv j } { σ with past := fun j => if j = i then ps else σ.past j } := by
  have hP := (hd.pasts i hpi).1
  have hc' : ∀ (k : Nat) (c : Array Value) (t : TypeId) (f : Nat × Nat), W.heap[k]? = some (.cells c t f) → t ≠ 121 → W'.heap[k]? = W.heap[k]? := fun k c t f hk ht => hc k c t f hk (ne_ty hk hP ht)
  have hpj : ∀ j, j ≠ i → σ.past j ≠ [] → PastAt W' (L.pb j) (L.rv j) (σ.past j) := fun j hji hj => (hd.pasts j hj).keep (hc _ _ _ _ (hd.pasts j hj).1 (hd.pne j i hj hpi hji)) (fun g hg => by
    obtain ⟨c, hcc⟩ := (hd.pasts j hj).row hg
    exact hc' _ _ _ _ hcc (by decide))
  obtain ⟨gv, hgv, hgs⟩ := hv
  refine ⟨(hc' _ _ _ _ hd.dev (by decide)).trans hd.dev, (hc' _ _ _ _ hd.seen (by decide)).trans hd.seen, hold, hd.flm.of_block hfl, fun j hj => ?_, fun j k hj hk hjk => ?_, fun j k g hj hk hjk => ?_, hd.mne, hd.arms.keep (fun g hg => ?_) (fun g hg => ?_), fun k hk => ?_⟩
  · by_cases e : j = i
    · subst e
      simp only [if_true] at hj ⊢
      exact hp hj
    · simp only [if_neg e] at hj ⊢
      exact hpj j e hj
  · simp only at hj hk
    have hj' : σ.past j ≠ [] := fun h0 => by
      by_cases e : j = i
      · exact hpi (e ▸ h0)
      · rw [if_neg e] at hj; exact hj h0
    have hk' : σ.past k ≠ [] := fun h0 => by
      by_cases e : k = i
      · exact hpi (e ▸ h0)
      · rw [if_neg e] at hk; exact hk h0
    exact hd.pne j k hj' hk' hjk
  · simp only at hj hk ⊢
    by_cases e : j = i
    · subst e
      have e' : ¬ k = j := fun h => hjk h.symm
      rw [if_neg e'] at hk
      simp only [if_true, if_neg e']
      intro h1 h2
      rw [hgv] at h1; cases h1
      obtain ⟨c, hcc⟩ := (hd.pasts k hk).row h2
      have := lt_of_heap hcc
      omega
    · rw [if_neg e] at hj
      by_cases e' : k = i
      · subst e'
        simp only [if_true, if_neg e]
        intro h1 h2
        rw [hgv] at h2; cases h2
        obtain ⟨c, hcc⟩ := (hd.pasts j hj).row h1
        have := lt_of_heap hcc
        omega
      · rw [if_neg e'] at hk
        simp only [if_neg e, if_neg e']
        exact hd.rne j k g hj hk hjk
  · obtain ⟨c, hcc⟩ := hd.av_row hg
    exact hc' _ _ _ _ hcc (by decide)
  · obtain ⟨c, hcc⟩ := hd.kbt g hg
    exact hc' _ _ _ _ hcc (by decide)
  · obtain ⟨c, hcc⟩ := hd.kbt k hk
    exact ⟨c, (hc' _ _ _ _ hcc (by decide)).trans hcc⟩
/-- What is left of a line's past where it is still to come, and where it is not. -/
def fenP (σ : St) (left : Bool) (j : Nat) : List (List Nat) := match σ.fl j with
  | some k => if left = true then σ.past j else (σ.past j).drop k
  | none => σ.past j
/-- While a Fence is under way: lines that are still to come are as they were. -/
def fenL (σ : St) (left : Int → Bool) : St := { σ with past := fun j => fenP σ (left (j : Int)) j }
/-- What a Fence makes of a device. -/
def fenceDo (σ : St) : St := { σ with past := fenP σ false, fl := fun _ => none, ops := σ.ops + 1 }
theorem fenL_none (σ : St) (left : Int → Bool) (h : ∀ x, left x = false) : ({ fenL σ left with fl := fun _ => none, ops := σ.ops + 1 } : St) = fenceDo σ := by
  have e : (fun j : Nat => fenP σ (left (j : Int)) j) = fenP σ false := by funext j; rw [h]
  unfold fenceDo fenL
  rw [e]
theorem fenL_start (σ : St) : fenL σ (fun x => (flF σ x).isSome) = σ := by
  have h : (fun j : Nat => fenP σ ((fun x => (flF σ x).isSome) (j : Int)) j) = σ.past := by
    funext j
    unfold fenP
    cases hf : σ.fl j with
    | none => rfl
    | some k =>
      have : flF σ (j : Int) = some k := by unfold flF; rw [if_pos (by omega)]; simpa using hf
      simp [this]
  unfold fenL
  rw [h]
theorem fenL_step (σ : St) (left : Int → Bool) (i p : Nat) (hf : σ.fl i = some p) (hl : left (i : Int) = true) : fenL σ (fun y => left y && !decide (y = (i : Int))) = { fenL σ left with past := fun j => if j = i then (σ.past i).drop p else (fenL σ left).past j } ∧ (fenL σ left).past i = σ.past i := by
  constructor
  · have e : (fun j : Nat => fenP σ ((fun y => left y && !decide (y = (i : Int))) (j : Int)) j) = fun j => if j = i then (σ.past i).drop p else fenP σ (left (j : Int)) j := by
      funext j
      by_cases e : j = i
      · subst e
        simp [fenP, hf]
      · have e' : ¬ ((j : Int) = (i : Int)) := by omega
        simp [e, e']
    unfold fenL
    rw [e]
  · show fenP σ (left (i : Int)) i = σ.past i
    unfold fenP
    rw [hf]
    simp [hl]
theorem fence_ok {σ : St} (h : σ.Ok) (hops : σ.ops < 1400000000000) : (fenceDo σ).Ok := by
  have hsub : ∀ j, ∃ k, (fenceDo σ).past j = (σ.past j).drop k := fun j => by
    show ∃ k, fenP σ false j = _
    unfold fenP
    cases σ.fl j with
    | none => exact ⟨0, rfl⟩
    | some k => exact ⟨k, rfl⟩
  refine ⟨h.pos, h.max, h.len, h.byte, fun j hj => ?_, fun j c hc => ?_, fun j c hc => ?_, fun j => ?_, fun j k hk => (by cases hk), ?_⟩
  · obtain ⟨k, e⟩ := hsub j
    rw [e, h.out j hj]; simp
  · obtain ⟨k, e⟩ := hsub j
    rw [e] at hc
    exact h.clen j c (List.mem_of_mem_drop hc)
  · obtain ⟨k, e⟩ := hsub j
    rw [e] at hc
    exact h.cbyte j c (List.mem_of_mem_drop hc)
  · obtain ⟨k, e⟩ := hsub j
    rw [e, List.length_drop]
    have := h.few j
    show _ ≤ σ.ops + 1
    omega
  · show σ.ops + 1 ≤ _
    omega
end Go.Proofs.Ytgfgihpkbbjkfaa
