/- Package pmem: a line has one content more. -/
import Derived.Test.YtgfgihpkbbjkfaaPAdd3
import Derived.Laws.CopyOwn
import Derived.Deep.Upon
namespace Go.Proofs.Ytgfgihpkbbjkfaa
open Go.RowKit
set_option linter.unusedVariables false

theorem wfI {i : Nat} (h : i ≤ 4611686018427387904) : (Lit.int .i64 (i : Int)).wf = true := by
  have h1 : IntKind.i64.min = -9223372036854775808 := by decide
  have h2 : IntKind.i64.max = 9223372036854775807 := by decide
  simp only [Lit.wf, h1, h2]
  simp
  omega
theorem setCells_size (b : Nat) : ∀ (vs : List Value) (o : Nat) (w : World), (w.setCells b o vs).heap.size = w.heap.size
  | [], o, w => rfl
  | v :: vs, o, w => by rw [World.setCells, setCells_size b vs]; simp [World.setCell]
theorem heap_setCells (b : Nat) (t : TypeId) : ∀ (vs : List Value) (o : Nat) (w : World) (cur : List Value), w.heap[b]? = some (.cells cur.toArray t (0, 0)) → o + vs.length ≤ cur.length → (w.setCells b o vs).heap[b]? = some (.cells (splice cur o vs).toArray t (0, 0))
  | [], o, w, cur, h, hl => by simpa [World.setCells, splice] using h
  | v :: vs, o, w, cur, h, hl => by
    rw [List.length_cons] at hl
    have h1 : (w.setCell ⟨b, o, none⟩ v).heap[b]? = some (.cells (cur.set o v).toArray t (0, 0)) := by
      rw [heap_set1 w b o _ t v h]; simp
    rw [World.setCells, heap_setCells b t vs (o + 1) _ _ h1 (by rw [List.length_set]; omega)]
    congr 3
    unfold splice
    rw [List.take_set, List.drop_set_of_lt (by omega), List.length_cons]
    have e1 : (cur.take (o + 1)).set o v = cur.take o ++ [v] := by
      rw [List.take_succ_eq_append_getElem (show o < cur.length by omega), List.set_append_right _ _ (by simp; omega)]
      simp [Nat.min_eq_left (show o ≤ cur.length by omega)]
    rw [e1, List.append_assoc, show o + 1 + vs.length = o + (vs.length + 1) by omega]
    rfl
theorem heap_setCells_ne (b : Nat) : ∀ (vs : List Value) (o : Nat) (w : World) (k : Nat), k ≠ b → (w.setCells b o vs).heap[k]? = w.heap[k]?
  | [], o, w, k, h => rfl
  | v :: vs, o, w, k, h => by rw [World.setCells, heap_setCells_ne b vs _ _ k h, heap_set_ne w b o k v h]
theorem setCells_world (b : Nat) : ∀ (vs : List Value) (o : Nat) (w : World), (w.setCells b o vs).os = w.os ∧ (w.setCells b o vs).tape = w.tape ∧ (w.setCells b o vs).output = w.output
  | [], o, w => ⟨rfl, rfl, rfl⟩
  | v :: vs, o, w => by
    have h := setCells_world b vs (o + 1) (w.setCell ⟨b, o, none⟩ v)
    exact h
theorem Gr.setCells {X : Nat → Prop} (w : World) (b o : Nat) (vs : List Value) (hx : X b) : Gr X w (w.setCells b o vs) := by
  obtain ⟨h1, h2, h3⟩ := setCells_world b vs o w
  exact ⟨h1, h2, h3, by rw [setCells_size]; exact Nat.le_refl _, fun k hk hn => heap_setCells_ne b vs o w k (fun e => hn (e ▸ hx))⟩
theorem splice_app {α : Type} (l c t : List α) (o : Nat) (h : o + c.length ≤ l.length) : splice (l ++ t) o c = splice l o c ++ t := by
  unfold splice
  rw [List.take_append_of_le_length (by omega), List.drop_append_of_le_length (by omega)]
  simp [List.append_assoc]
theorem take_drop_app {α : Type} (l t : List α) (o n : Nat) (h : o + n ≤ l.length) : ((l ++ t).drop o).take n = (l.drop o).take n := by
  rw [List.drop_append_of_le_length (by omega), List.take_append_of_le_length (by rw [List.length_drop]; omega)]
theorem splice_map (l c : List Nat) (o : Nat) : (splice l o c).map B8 = splice (l.map B8) o (c.map B8) := by
  simp [splice, List.map_take, List.map_drop]

/-- The parts that no past has lie where they lay. -/
def SameL (L L' : Lay) : Prop := L'.sb = L.sb ∧ L'.ob = L.ob ∧ L'.fb = L.fb ∧ L'.av = L.av ∧ L'.KB = L.KB
theorem SameL.refl (L : Lay) : SameL L L := ⟨rfl, rfl, rfl, rfl, rfl⟩
theorem SameL.trans {A B C : Lay} (h : SameL A B) (k : SameL B C) : SameL A C := ⟨k.1.trans h.1, k.2.1.trans h.2.1, k.2.2.1.trans h.2.2.1, k.2.2.2.1.trans h.2.2.2.1, k.2.2.2.2.trans h.2.2.2.2⟩
/-- A line has one content more. -/
def St.put (σ : St) (i : Nat) (c : List Nat) : St := { σ with bytes := splice σ.bytes (64 * i) c, past := fun j => if j = i then σ.past i ++ [σ.line i] else σ.past j }
theorem St.put_past (σ : St) (i : Nat) (c : List Nat) (j : Nat) : (σ.put i c).past j = if j = i then σ.past i ++ [σ.line i] else σ.past j := rfl
theorem line_len {σ : St} (h : σ.Ok) {i : Nat} (hi : i < σ.n) : (σ.line i).length = 64 := by
  unfold St.line
  rw [List.length_take, List.length_drop, h.len]
  omega
theorem line_range {w : World} {b : Nat} {L : Lay} {σ : St} (h : DevL w b L σ) (hok : σ.Ok) {i : Nat} (hi : i < σ.n) : w.rangeAt L.sb (i * 64) ((σ.line i).map B8) := by
  have hl := hok.len
  refine range_row h.seen _ _ ?_
  rw [List.length_map, line_len hok hi, take_drop_app _ _ _ _ (by rw [List.length_map, hl]; omega)]
  unfold St.line
  rw [List.map_take, List.map_drop, Nat.mul_comm]
/-- What the device is behind: the past of line i has grown, in its blocks or in new ones, then the line's content is stored. -/
theorem pchg_fin {w W4 : World} {b i pbi : Nat} {v' : Value} {L : Lay} {σ : St} {c : List Nat} {M : Nat} (hd : DevL w b L σ) (hok : σ.Ok) (hi : i < σ.n) (hc : c.length = 64)
    (hgr : Gr (Foot b L σ) w W4) (hdev : W4.heap[b]? = w.heap[b]?) (hseen : W4.heap[L.sb]? = w.heap[L.sb]?) (hfl : W4.heap[L.fb]? = w.heap[L.fb]?)
    (hold : MapG ptrE DataW.held W4 L.ob M (oldF { L with pb := fun j => if j = i then pbi else L.pb j } (σ.put i c))) (hM : L.N ≤ M)
    (hp : PastAt W4 pbi v' (σ.past i ++ [σ.line i]))
    (hoth : ∀ j, j ≠ i → σ.past j ≠ [] → W4.heap[L.pb j]? = w.heap[L.pb j]? ∧ ∀ g, (L.rv j).ownBlock = some g → W4.heap[g]? = w.heap[g]?)
    (hpn : ∀ j, j ≠ i → σ.past j ≠ [] → pbi ≠ L.pb j) (hrn : ∀ j g, j ≠ i → σ.past j ≠ [] → v'.ownBlock = some g → (L.rv j).ownBlock ≠ some g)
    (harm : ∀ k, L.av.ownBlock = some k ∨ L.KB k → W4.heap[k]? = w.heap[k]?)
    (hpf : Foot b L σ pbi ∨ w.heap.size ≤ pbi) (hrf : ∀ g, v'.ownBlock = some g → Foot b L σ g ∨ w.heap.size ≤ g) :
    ∃ L', DevL (W4.setCells L.sb (i * 64) (c.map B8)) b L' (σ.put i c) ∧ (∀ k, Foot b L' (σ.put i c) k → Foot b L σ k ∨ w.heap.size ≤ k) ∧ Gr (Foot b L σ) w (W4.setCells L.sb (i * 64) (c.map B8)) ∧ L'.N = M ∧ SameL L L' := by
  have hdev4 := hdev.trans hd.dev
  have hseen4 := hseen.trans hd.seen
  have hnb : ∀ (k : Nat) (c' : Array Value) (t : TypeId) (f : Nat × Nat), W4.heap[k]? = some (.cells c' t f) → t ≠ 73 → (W4.setCells L.sb (i * 64) (c.map B8)).heap[k]? = W4.heap[k]? := fun k c' t f h ht => heap_setCells_ne _ _ _ _ _ (ne_ty h hseen4 ht)
  have hnm : ∀ (k : Nat) (es : Array MapEntry) (q : Nat), W4.heap[k]? = some (.map es q) → (W4.setCells L.sb (i * 64) (c.map B8)).heap[k]? = W4.heap[k]? := fun k es q h => heap_setCells_ne _ _ _ _ _ (ne_map hseen4 h).symm
  obtain ⟨e1, q1, hob⟩ := hold.block
  obtain ⟨e2, q2, hfb⟩ := hd.flm.block
  have hfb4 := hfl.trans hfb
  refine ⟨{ L with pb := fun j => if j = i then pbi else L.pb j, rv := fun j => if j = i then v' else L.rv j, N := M }, ⟨?_, ?_, ?_, ?_, ?_, ?_, ?_, hd.mne, ?_, ?_⟩, ?_, hgr.trans (Gr.setCells W4 L.sb _ _ (X := Foot b L σ) (.inr (.inl rfl))) (fun k h => .inl h), rfl, rfl, rfl, rfl, rfl, rfl⟩
  · exact (hnb b _ _ _ hdev4 (by decide)).trans hdev4
  · show (W4.setCells L.sb (i * 64) (c.map B8)).heap[L.sb]? = _
    have hl : i * 64 + (c.map B8).length ≤ (σ.bytes.map B8).length := by rw [List.length_map, List.length_map, hc, hok.len]; omega
    rw [heap_setCells L.sb _ (c.map B8) (i * 64) W4 _ hseen4 (by rw [List.length_append]; omega)]
    show _ = some (Obj.cells ((splice σ.bytes (64 * i) c).map B8 ++ L.tl).toArray _ _)
    rw [splice_app _ _ _ _ hl, splice_map, Nat.mul_comm]
  · exact hold.of_block (hnm _ _ _ hob)
  · exact (hd.flm.of_block ((hnm _ _ _ hfb4).trans hfl)).mono hM
  · intro j hj
    simp only [St.put_past] at hj ⊢
    by_cases e : j = i
    · subst e
      simp only [if_true]
      refine hp.keep (hnb _ _ _ _ hp.1 (by decide)) (fun g hg => ?_)
      obtain ⟨c', hc'⟩ := hp.row hg
      exact hnb _ _ _ _ hc' (by decide)
    · simp only [if_neg e] at hj ⊢
      obtain ⟨h1, h2⟩ := hoth j e hj
      have hpj := (hd.pasts j hj).keep h1 h2
      refine hpj.keep (hnb _ _ _ _ hpj.1 (by decide)) (fun g hg => ?_)
      obtain ⟨c', hc'⟩ := hpj.row hg
      exact hnb _ _ _ _ hc' (by decide)
  · intro j k hj hk hjk
    simp only [St.put_past] at hj hk ⊢
    by_cases e : j = i
    · subst e
      have e' : ¬ k = j := fun h => hjk h.symm
      simp only [if_true, if_neg e'] at hk ⊢
      exact hpn k e' hk
    · by_cases e' : k = i
      · subst e'
        simp only [if_true, if_neg e] at hj ⊢
        exact (hpn j e hj).symm
      · simp only [if_neg e, if_neg e'] at hj hk ⊢
        exact hd.pne j k hj hk hjk
  · intro j k g hj hk hjk
    simp only [St.put_past] at hj hk ⊢
    by_cases e : j = i
    · subst e
      have e' : ¬ k = j := fun h => hjk h.symm
      simp only [if_true, if_neg e'] at hk ⊢
      exact hrn k g e' hk
    · by_cases e' : k = i
      · subst e'
        simp only [if_true, if_neg e] at hj ⊢
        exact fun h1 h2 => hrn j g e hj h2 h1
      · simp only [if_neg e, if_neg e'] at hj hk ⊢
        exact hd.rne j k g hj hk hjk
  · refine hd.arms.keep (fun g hg => ?_) (fun g hg => ?_)
    · obtain ⟨c', hc'⟩ := hd.av_row hg
      have h4 := (harm g (.inl hg)).trans hc'
      exact (hnb _ _ _ _ h4 (by decide)).trans (harm g (.inl hg))
    · obtain ⟨c', hc'⟩ := hd.kbt g hg
      have h4 := (harm g (.inr hg)).trans hc'
      exact (hnb _ _ _ _ h4 (by decide)).trans (harm g (.inr hg))
  · intro k hk
    obtain ⟨c', hc'⟩ := hd.kbt k hk
    have h4 := (harm k (.inr hk)).trans hc'
    exact ⟨c', (hnb _ _ _ _ h4 (by decide)).trans h4⟩
  · rintro k (rfl | rfl | rfl | rfl | ⟨j, hj, h⟩ | h | h)
    · exact .inl (.inl rfl)
    · exact .inl (.inr (.inl rfl))
    · exact .inl (.inr (.inr (.inl rfl)))
    · exact .inl (.inr (.inr (.inr (.inl rfl))))
    · simp only [St.put_past] at hj h
      by_cases e : j = i
      · subst e
        simp only [if_true] at h
        rcases h with rfl | h
        · exact hpf
        · exact hrf k h
      · simp only [if_neg e] at hj h
        exact .inl (.inr (.inr (.inr (.inr (.inl ⟨j, hj, h⟩)))))
    · exact .inl (.inr (.inr (.inr (.inr (.inr (.inl h))))))
    · exact .inl (.inr (.inr (.inr (.inr (.inr (.inr h))))))
theorem there_row {w : World} {b : Nat} {cur : List Value} {t : TypeId} (h : w.heap[b]? = some (.cells cur.toArray t (0, 0))) (o n : Nat) (hl : o + n ≤ cur.length) : w.there b o n := fun j hj => by
  refine ⟨?_, froz8 h _⟩
  rw [cell8 h]
  simp
  omega
theorem oldF_more (L : Lay) (σ : St) (i : Nat) (c : List Nat) (hp : σ.past i ≠ []) (x : Int) : oldF L σ x = oldF { L with pb := fun j => if j = i then L.pb i else L.pb j } (σ.put i c) x := by
  unfold oldF
  simp only [St.put_past]
  by_cases e : x.toNat = i
  · simp [e, hp]
  · simp [e]
theorem oldF_new (L : Lay) (σ : St) (i pbi : Nat) (c : List Nat) (hp : σ.past i = []) (x : Int) : (if x = (i : Int) then some pbi else oldF L σ x) = oldF { L with pb := fun j => if j = i then pbi else L.pb j } (σ.put i c) x := by
  unfold oldF
  simp only [St.put_past]
  by_cases e : x = (i : Int)
  · subst e
    simp
  · rw [if_neg e]
    by_cases h0 : 0 ≤ x
    · have e' : ¬ x.toNat = i := by omega
      simp [e']
    · simp [h0]
/-- Where only a past and its row have changed, blocks of other types are as they were. -/
theorem keep_past {w W : World} {pb : Nat} {v : Value} {cs : List (List Nat)} (hp : PastAt w pb v cs) (hg : Gr (fun k => k = pb ∨ v.ownBlock = some k) w W) : (∀ (k : Nat) (c : Array Value) (t : TypeId) (f : Nat × Nat), w.heap[k]? = some (.cells c t f) → t ≠ 121 → t ≠ 145 → W.heap[k]? = w.heap[k]?) ∧ (∀ (k : Nat) (es : Array MapEntry) (q : Nat), w.heap[k]? = some (.map es q) → W.heap[k]? = w.heap[k]?) := by
  constructor
  · intro k c t f h h1 h2
    refine hg.block (lt_of_heap h) ?_
    rintro (rfl | e)
    · exact ne_ty h hp.1 h1 rfl
    · obtain ⟨c', hc'⟩ := hp.row e
      exact ne_ty h hc' h2 rfl
  · intro k es q h
    refine hg.block (lt_of_heap h) ?_
    rintro (rfl | e)
    · exact (ne_map hp.1 h) rfl
    · obtain ⟨c', hc'⟩ := hp.row e
      exact (ne_map hc' h) rfl
end Go.Proofs.Ytgfgihpkbbjkfaa
