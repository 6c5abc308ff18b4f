/- Package pmem: the power goes: what is kept. -/
import Derived.Test.YtgfgihpkbbjkfaaPSet
import Derived.BigQuiet
namespace Go.Proofs.Ytgfgihpkbbjkfaa
open Go.RowKit Go.Shelf
set_option linter.unusedVariables false

/-- Which content of a line is kept. -/
def lostK (σ : St) (kp : List Nat) (i : Nat) : Nat := match kp[i]? with
  | some k => k % ((σ.past i).length + 1)
  | none => 0
/-- What a line is behind a loss of power. -/
def lost (σ : St) (kp : List Nat) (i : Nat) : List Nat := ((σ.past i)[lostK σ kp i]?).getD (σ.line i)
theorem splice_get (l c : List Nat) (o k : Nat) (h : o + c.length ≤ l.length) : (splice l o c)[k]? = if k < o then l[k]? else if k < o + c.length then c[k - o]? else l[k]? := by
  have hl : (l.take o).length = o := by rw [List.length_take]; omega
  unfold splice
  by_cases h1 : k < o
  · rw [if_pos h1]
    simp [List.getElem?_append, List.length_take, h1]
    omega
  · rw [if_neg h1]
    by_cases h2 : k < o + c.length
    · rw [if_pos h2]
      simp [List.getElem?_append, List.getElem?_take, List.length_take]
      rw [Nat.min_eq_left (by omega)]
      simp [h1]
      intro h3
      omega
    · rw [if_neg h2]
      simp [List.getElem?_append, List.getElem?_take, List.length_take]
      rw [Nat.min_eq_left (by omega)]
      simp [h1]
      rw [if_neg (by omega)]
      congr 1
      omega
theorem splice_len (l c : List Nat) (o : Nat) (h : o + c.length ≤ l.length) : (splice l o c).length = l.length := by
  unfold splice
  simp
  omega
theorem splice_line {σ : St} {c : List Nat} {i : Nat} (hlen : σ.bytes.length = 64 * σ.n) (hi : i < σ.n) (hc : c.length = 64) (j : Nat) (hj : j < σ.n) : ({ σ with bytes := splice σ.bytes (64 * i) c } : St).line j = if j = i then c else σ.line j := by
  have hb : 64 * i + c.length ≤ σ.bytes.length := by omega
  unfold St.line
  by_cases e : j = i
  · subst e
    rw [if_pos rfl]
    refine List.ext_getElem? fun k => ?_
    rw [List.getElem?_take, List.getElem?_drop]
    split
    · rename_i hk
      show (splice σ.bytes (64 * j) c)[64 * j + k]? = _
      rw [splice_get _ _ _ _ hb, if_neg (by omega), if_pos (by omega)]
      congr 1
      omega
    · rename_i hk
      rw [List.getElem?_eq_none (by omega)]
  · rw [if_neg e]
    refine List.ext_getElem? fun k => ?_
    rw [List.getElem?_take, List.getElem?_drop, List.getElem?_take, List.getElem?_drop]
    split
    · rename_i hk
      show (splice σ.bytes (64 * i) c)[64 * j + k]? = _
      rw [splice_get _ _ _ _ hb]
      by_cases h1 : 64 * j + k < 64 * i
      · rw [if_pos h1]
      · rw [if_neg h1, if_neg (by omega)]
    · rfl
/-- A line is another. -/
theorem dev_seen {w : World} {b i : Nat} {L : Lay} {σ : St} {c : List Nat} (h : DevL w b L σ) (hlen : σ.bytes.length = 64 * σ.n) (hi : i < σ.n) (hc : c.length = 64) : DevL (w.setCells L.sb (i * 64) (c.map B8)) b L { σ with bytes := splice σ.bytes (64 * i) c } := by
  have kt : ∀ (k : Nat) (c' : Array Value) (t : TypeId) (f : Nat × Nat), w.heap[k]? = some (.cells c' t f) → t ≠ 73 → (w.setCells L.sb (i * 64) (c.map B8)).heap[k]? = w.heap[k]? := fun k c' t f hk ht => heap_setCells_ne _ _ _ _ _ (ne_ty hk h.seen ht)
  have km : ∀ (k : Nat) (es : Array MapEntry) (q : Nat), w.heap[k]? = some (.map es q) → (w.setCells L.sb (i * 64) (c.map B8)).heap[k]? = w.heap[k]? := fun k es q hk => heap_setCells_ne _ _ _ _ _ (ne_map h.seen hk).symm
  obtain ⟨e1, q1, hob⟩ := h.old.block
  obtain ⟨e2, q2, hfb⟩ := h.flm.block
  refine ⟨(kt _ _ _ _ h.dev (by decide)).trans h.dev, ?_, h.old.of_block (km _ _ _ hob), h.flm.of_block (km _ _ _ hfb), fun i hi => (h.pasts i hi).keep (kt _ _ _ _ (h.pasts i hi).1 (by decide)) (fun g hg' => ?_), h.pne, h.rne, h.mne, h.arms.keep (fun g hg' => ?_) (fun g hg' => ?_), fun k hk => ?_⟩
  · have hl : i * 64 + (c.map B8).length ≤ (σ.bytes.map B8).length := by rw [List.length_map, List.length_map]; omega
    rw [heap_setCells L.sb _ (c.map B8) (i * 64) w (σ.bytes.map B8 ++ L.tl) h.seen (by rw [List.length_append]; omega)]
    show _ = some (Obj.cells ((splice σ.bytes (64 * i) c).map B8 ++ L.tl).toArray _ _)
    rw [splice_app _ _ _ _ hl, splice_map, Nat.mul_comm]
  · obtain ⟨c, hc⟩ := (h.pasts i hi).row hg'
    exact kt _ _ _ _ hc (by decide)
  · obtain ⟨c, hc⟩ := h.av_row hg'
    exact kt _ _ _ _ hc (by decide)
  · obtain ⟨c, hc⟩ := h.kbt g hg'
    exact kt _ _ _ _ hc (by decide)
  · obtain ⟨c, hc⟩ := h.kbt k hk
    exact ⟨c, (kt _ _ _ _ hc (by decide)).trans hc⟩
/-- In the midst of lose. -/
structure LosR (w : World) (b : Nat) (L : Lay) (σ : St) (kp : List Nat) (r : Nat) (wr : World) (left : Int → Bool) (bs : List Nat) : Prop where
  ran : RanG ptrE DataW.held wr L.ob r L.N (oldF L σ) left
  dev : DevL wr b L { σ with bytes := bs }
  len : bs.length = 64 * σ.n
  byte : ∀ x ∈ bs, x < 256
  lines : ∀ j, j < σ.n → ({ σ with bytes := bs } : St).line j = if left (j : Int) = true then σ.line j else lost σ kp j
  gr : Gr (fun k => k = L.sb) w wr
theorem LosR.start {w W0 : World} {b : Nat} {L : Lay} {σ : St} {kp : List Nat} (h : DevL w b L σ) (hok : σ.Ok) (hr : RanG ptrE DataW.held W0 L.ob w.heap.size L.N (oldF L σ) (fun x => (oldF L σ x).isSome)) (hg : w.grownBy W0 none) : LosR w b L σ kp w.heap.size W0 (fun x => (oldF L σ x).isSome) σ.bytes := by
  refine ⟨hr, h.keep fun k hk => hg.block k (by rcases foot_obj2 h hk with ⟨c, t, f, e1⟩ | ⟨c, t, e1⟩ <;> exact lt_of_heap e1) (by simp), hok.len, hok.byte, fun j hj => ?_, Gr.of_grown hg (fun k hk => by cases hk)⟩
  show σ.line j = _
  split
  · rfl
  · rename_i h1
    have hp : σ.past j = [] := by
      refine Classical.byContradiction fun hp => h1 ?_
      show (oldF L σ (j : Int)).isSome = true
      unfold oldF
      rw [if_pos ⟨by omega, by simpa using hp⟩]
      rfl
    unfold lost
    rw [hp]
    simp
theorem LosR.next {w wr w1 : World} {b r : Nat} {L : Lay} {σ : St} {kp bs : List Nat} {left : Int → Bool} (h : LosR w b L σ kp r wr left bs) (hg : wr.grownBy w1 (some r)) (hr : w.heap.size ≤ r) : DevL w1 b L { σ with bytes := bs } ∧ Gr (fun k => k = L.sb) w w1 := by
  obtain ⟨s1, s2, s3, hI⟩ := h.ran.blockI
  refine ⟨h.dev.keep fun k hk => ?_, h.gr.trans (Gr.of_grown (r := some r) hg ?_ : Gr (fun k => k = L.sb ∨ k = r) wr w1) ?_⟩
  · have hne : k ≠ r := fun e => by
      subst e
      rcases foot_obj2 h.dev hk with ⟨c, t, f, e1⟩ | ⟨c, t, e1⟩ <;> (rw [hI] at e1; cases e1)
    have hlt : k < wr.heap.size := by
      rcases foot_obj2 h.dev hk with ⟨c, t, f, e1⟩ | ⟨c, t, e1⟩ <;> exact lt_of_heap e1
    exact hg.block k hlt (fun e => hne (Option.some.inj e))
  · intro k hk
    cases hk
    exact .inl (.inr rfl)
  · rintro i (h1 | rfl)
    · exact .inl h1
    · exact .inr hr
/-- A line keeps what is seen. -/
theorem LosR.same {w w1 : World} {b r i : Nat} {L : Lay} {σ : St} {kp bs : List Nat} {left : Int → Bool} (hd : DevL w1 b L { σ with bytes := bs }) (hl : bs.length = 64 * σ.n) (hb : ∀ x ∈ bs, x < 256) (hli : ∀ j, j < σ.n → ({ σ with bytes := bs } : St).line j = if left (j : Int) = true then σ.line j else lost σ kp j)
    (hgr : Gr (fun k => k = L.sb) w w1) (hran : RanG ptrE DataW.held w1 L.ob r L.N (oldF L σ) (fun y => left y && !decide (y = (i : Int)))) (hx : left (i : Int) = true) (hs : lost σ kp i = σ.line i) : LosR w b L σ kp r w1 (fun y => left y && !decide (y = (i : Int))) bs := by
  refine ⟨hran, hd, hl, hb, fun j hj => ?_, hgr⟩
  rw [hli j hj]
  by_cases e : j = i
  · subst e
    simp [hx, hs]
  · have e' : ¬ (j : Int) = (i : Int) := by omega
    simp [e']
/-- A line is what was kept. -/
theorem LosR.other {w w1 W4 : World} {b r i : Nat} {L : Lay} {σ : St} {kp bs c : List Nat} {left : Int → Bool} (hd : DevL w1 b L { σ with bytes := bs }) (hl : bs.length = 64 * σ.n) (hb : ∀ x ∈ bs, x < 256) (hli : ∀ j, j < σ.n → ({ σ with bytes := bs } : St).line j = if left (j : Int) = true then σ.line j else lost σ kp j)
    (hgr : Gr (fun k => k = L.sb) w w1) (hran : RanG ptrE DataW.held w1 L.ob r L.N (oldF L σ) (fun y => left y && !decide (y = (i : Int)))) (hi : i < σ.n) (hc : c.length = 64) (hcb : ∀ x ∈ c, x < 256) (hs : lost σ kp i = c) (hB : Below w1.heap.size w1 W4) :
    LosR w b L σ kp r (W4.setCells L.sb (i * 64) (c.map B8)) (fun y => left y && !decide (y = (i : Int))) (splice bs (64 * i) c) ∧ (W4.setCells L.sb (i * 64) (c.map B8)).rangeLeft L.ob r = w1.rangeLeft L.ob r := by
  have hd4 := hd.below hB
  obtain ⟨e1, q1, hob⟩ := hd.old.block
  obtain ⟨s1, s2, s3, hI⟩ := hran.blockI
  have hobk : (W4.setCells L.sb (i * 64) (c.map B8)).heap[L.ob]? = w1.heap[L.ob]? := (heap_setCells_ne _ _ _ _ _ (fun e => by rw [e, hd.seen] at hob; cases hob)).trans (hB.block _ (lt_of_heap hob))
  have hrk : (W4.setCells L.sb (i * 64) (c.map B8)).heap[r]? = w1.heap[r]? := (heap_setCells_ne _ _ _ _ _ (fun e => by rw [e, hd.seen] at hI; cases hI)).trans (hB.block _ (lt_of_heap hI))
  obtain ⟨k1, k2⟩ := hran.kept hobk hrk
  refine ⟨⟨k1, dev_seen hd4 hl hi hc, by rw [splice_len _ _ _ (by omega)]; exact hl, fun x hx => ?_, fun j hj => ?_, (hgr.trans (Gr.of_below hB : Gr (fun k => k = L.sb) w1 W4) (fun i h => .inl h)).trans (Gr.setCells W4 L.sb _ _ (X := fun k => k = L.sb) rfl) (fun i h => .inl h)⟩, k2⟩
  · rcases splice_mem hx with h | h
    · exact hb x h
    · exact hcb x h
  · have h5 := splice_line (σ := { σ with bytes := bs }) hl hi hc j hj
    refine Eq.trans h5 ?_
    rw [hli j hj]
    by_cases e : j = i
    · subst e
      simp [hs]
    · have e' : ¬ (j : Int) = (i : Int) := by omega
      simp [e, e']
end Go.Proofs.Ytgfgihpkbbjkfaa
