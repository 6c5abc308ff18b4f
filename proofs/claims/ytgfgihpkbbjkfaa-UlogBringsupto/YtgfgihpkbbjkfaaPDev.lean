/- A device of package pmem: what it is in memory, and what it stands for. -/
import Derived.Test.YtgfgihpkbbjkfaaPMap
import Derived.Test.YtgfgihpkbbjkfaaEq
import Derived.Deep.RegionHeld3
import Derived.Maps.AppendAt
import Derived.Laws.OwnMore
namespace Go.Proofs.Ytgfgihpkbbjkfaa
open Go.RowKit
set_option linter.unusedVariables false

/-- What a device stands for: its bytes as they are seen; of each line the contents ahead of the one that is seen, the durable one first; of each line that is flushed how many of these stand ahead of the one that was seen then; operations, losses that wait, what the first of them has counted, whether the power is gone. -/
structure St where
  n : Nat
  bytes : List Nat
  past : Nat → List (List Nat)
  fl : Nat → Option Nat
  ops : Nat
  arms : List (Nat × List Nat)
  cnt : Nat
  off : Bool
def St.line (σ : St) (i : Nat) : List Nat := (σ.bytes.drop (64 * i)).take 64
/-- What holds of each such device. -/
structure St.Ok (σ : St) : Prop where
  pos : 1 ≤ σ.n
  max : σ.n ≤ 65536
  len : σ.bytes.length = 64 * σ.n
  byte : ∀ x ∈ σ.bytes, x < 256
  out : ∀ i, σ.n ≤ i → σ.past i = []
  clen : ∀ i c, c ∈ σ.past i → c.length = 64
  cbyte : ∀ i c, c ∈ σ.past i → ∀ x ∈ c, x < 256
  few : ∀ i, (σ.past i).length ≤ σ.ops
  flp : ∀ i k, σ.fl i = some k → k ≤ (σ.past i).length ∧ σ.past i ≠ []
  opsm : σ.ops ≤ 1400000000000

/-- Blocks outside a set are as they were; the streams too. -/
def Gr (X : Nat → Prop) (w w' : World) : Prop := w'.os = w.os ∧ w'.tape = w.tape ∧ w'.output = w.output ∧ w.heap.size ≤ w'.heap.size ∧ ∀ k, k < w.heap.size → ¬ X k → w'.heap[k]? = w.heap[k]?
theorem Gr.of_below {X : Nat → Prop} {w w' : World} (h : Below w.heap.size w w') : Gr X w w' := ⟨h.os, h.tape, h.output, h.size, fun k hk _ => h.block k hk⟩
theorem Gr.refl (X : Nat → Prop) (w : World) : Gr X w w := ⟨rfl, rfl, rfl, Nat.le_refl _, fun _ _ _ => rfl⟩
theorem Gr.of_grown {X : Nat → Prop} {w w' : World} {r : Option Nat} (h : w.grownBy w' r) (hr : ∀ k, r = some k → X k ∨ w.heap.size ≤ k) : Gr X w w' :=
  ⟨h.1, h.2, h.3, h.4, fun k hk hx => h.5 k hk fun e => (hr k e.symm).elim hx fun h => absurd hk (Nat.not_lt.2 h)⟩
/-- What was done at first to blocks of X, then to blocks of Y, which are of X or new. -/
theorem Gr.trans {X Y : Nat → Prop} {a b c : World} (h : Gr X a b) (k : Gr Y b c) (hy : ∀ i, Y i → X i ∨ a.heap.size ≤ i) : Gr X a c :=
  ⟨k.1.trans h.1, k.2.1.trans h.2.1, k.2.2.1.trans h.2.2.1, Nat.le_trans h.2.2.2.1 k.2.2.2.1, fun j hj hx => (k.2.2.2.2 j (Nat.lt_of_lt_of_le hj h.2.2.2.1) (fun hyj => (hy j hyj).elim hx (fun h => absurd hj (Nat.not_lt.2 h)))).trans (h.2.2.2.2 j hj hx)⟩
theorem Gr.size {X : Nat → Prop} {a b : World} (h : Gr X a b) : a.heap.size ≤ b.heap.size := h.2.2.2.1
theorem Gr.block {X : Nat → Prop} {a b : World} (h : Gr X a b) {k : Nat} (hk : k < a.heap.size) (hx : ¬ X k) : b.heap[k]? = a.heap[k]? := h.2.2.2.2 k hk hx
theorem Gr.mono {X Y : Nat → Prop} {a b : World} (h : Gr X a b) (hxy : ∀ k, X k → Y k) : Gr Y a b := ⟨h.1, h.2.1, h.2.2.1, h.2.2.2.1, fun k hk hy => h.2.2.2.2 k hk (fun hx => hy (hxy k hx))⟩
theorem Gr.set (w : World) (b o : Nat) (v : Value) {X : Nat → Prop} (hx : X b) : Gr X w (w.setCell ⟨b, o, none⟩ v) := by
  refine ⟨rfl, rfl, rfl, by simp [World.setCell], fun j hj hr => ?_⟩
  have hne : b ≠ j := fun e => hr (e ▸ hx)
  simp [World.setCell, Array.getElem?_modify, hne]
theorem lt_of_heap {w : World} {b : Nat} {o : Obj} (h : w.heap[b]? = some o) : b < w.heap.size := (Array.getElem?_eq_some_iff.1 h).1
theorem Gr.keep {X : Nat → Prop} {a b : World} (h : Gr X a b) {k : Nat} {o : Obj} (hk : a.heap[k]? = some o) (hx : ¬ X k) : b.heap[k]? = some o := (h.block (lt_of_heap hk) hx).trans hk

/-- A content that so many are, one behind the other. -/
def runC (r : List Nat × Nat) : List Value := r.1.map B8 ++ [.int .i64 (r.2 : Int)]
def exR (rs : List (List Nat × Nat)) : List (List Nat) := rs.flatMap fun r => List.replicate r.2 r.1
/-- The contents of a line that stand ahead of the one that is seen. -/
def PastAt (w : World) (pb : Nat) (v : Value) (cs : List (List Nat)) : Prop :=
  w.heap[pb]? = some (.cells #[v, .int .i64 (cs.length : Int)] 121 (0, 0)) ∧
  ∃ rs : List (List Nat × Nat), w.ownsRow 0 145 65 v rs.length (rs.flatMap runC) ∧ exR rs = cs ∧ ∀ r ∈ rs, r.1.length = 64 ∧ 1 ≤ r.2
theorem ownsRow_of_block {w w' : World} {base : Nat} {e : TypeId} {size : Nat} {v : Value} {n : Nat} {xs : List Value} (h : w.ownsRow base e size v n xs) (hb : ∀ g, v.ownBlock = some g → w'.heap[g]? = w.heap[g]?) : w'.ownsRow base e size v n xs := by
  refine ⟨h.1, ?_⟩
  rcases h.2 with h | ⟨g, cap, cur, hv, h1, hg, r⟩
  · exact .inl h
  · exact .inr ⟨g, cap, cur, hv, h1, (hb g (by rw [hv]; rfl)).trans hg, r⟩
theorem PastAt.keep {w w' : World} {pb : Nat} {v : Value} {cs : List (List Nat)} (h : PastAt w pb v cs) (h1 : w'.heap[pb]? = w.heap[pb]?) (h2 : ∀ g, v.ownBlock = some g → w'.heap[g]? = w.heap[g]?) : PastAt w' pb v cs := by
  obtain ⟨hb, rs, ho, hr⟩ := h
  exact ⟨h1.trans hb, rs, ownsRow_of_block ho h2, hr⟩
theorem PastAt.row {w : World} {pb : Nat} {v : Value} {cs : List (List Nat)} (h : PastAt w pb v cs) {g : Nat} (hg : v.ownBlock = some g) : ∃ c, w.heap[g]? = some (.cells c 145 (0, 0)) := by
  obtain ⟨hb, rs, ho, hr⟩ := h
  rcases ho.2 with ⟨rfl, _⟩ | ⟨g', cap, cur, rfl, h1, hg', r⟩
  · cases hg
  · cases hg; exact ⟨cur, hg'⟩

/-- A list of what lines keep, in a block of KB. -/
def KeepAt (w : World) (KB : Nat → Prop) (v : Value) (l : List Nat) : Prop :=
  ∃ p c, v = .slice p l.length c ∧ ((p = none ∧ l = []) ∨ ∃ g, p = some ⟨g, 0, none⟩ ∧ KB g ∧ ∀ (i x : Nat), l[i]? = some x → w.cell? ⟨g, i, none⟩ = some (.int .i64 (x : Int)))
def armC (p : Value × Nat × List Nat) : List Value := [.int .i64 (p.2.1 : Int), p.1]
/-- Losses of power that wait. -/
def ArmsR (w : World) (KB : Nat → Prop) (av : Value) (l : List (Nat × List Nat)) : Prop :=
  ∃ ks : List Value, ks.length = l.length ∧ w.ownsRow 0 89 2 av l.length ((ks.zip l).flatMap armC) ∧ ∀ (i : Nat) (k : Value) (a : Nat × List Nat), ks[i]? = some k → l[i]? = some a → KeepAt w KB k a.2
theorem ArmsR.keep {w w' : World} {KB : Nat → Prop} {av : Value} {l : List (Nat × List Nat)} (h : ArmsR w KB av l) (h1 : ∀ g, av.ownBlock = some g → w'.heap[g]? = w.heap[g]?) (h2 : ∀ g, KB g → w'.heap[g]? = w.heap[g]?) : ArmsR w' KB av l := by
  obtain ⟨ks, hl, ho, hk⟩ := h
  refine ⟨ks, hl, ownsRow_of_block ho h1, fun i k a h3 h4 => ?_⟩
  obtain ⟨p, c, e, h5⟩ := hk i k a h3 h4
  refine ⟨p, c, e, h5.imp id ?_⟩
  rintro ⟨g, hp, hg, hc⟩
  exact ⟨g, hp, hg, fun i x hx => (World.cell?_of_block (h2 g hg)).trans (hc i x hx)⟩
theorem ArmsR.none (w : World) (KB : Nat → Prop) : ArmsR w KB (.slice none 0 0) [] := ⟨[], rfl, ⟨rfl, .inl ⟨rfl, rfl⟩⟩, fun i k a h => by simp at h⟩

/-- Where the parts of a device lie. -/
structure Lay where
  sb : Nat
  ob : Nat
  fb : Nat
  av : Value
  pb : Nat → Nat
  rv : Nat → Value
  KB : Nat → Prop
  N : Nat
  cp : Nat
  tl : List Value
def devC (b : Nat) (L : Lay) (σ : St) : Array Value :=
  #[.pointer (some ⟨b, 0, none⟩), .slice (some ⟨L.sb, 0, none⟩) σ.n L.cp, .map (some L.ob), .map (some L.fb), .int .i64 (σ.ops : Int), L.av, .int .i64 (σ.cnt : Int), .bool σ.off]
def oldF (L : Lay) (σ : St) (x : Int) : Option Nat := if 0 ≤ x ∧ σ.past x.toNat ≠ [] then some (L.pb x.toNat) else none
def flF (σ : St) (x : Int) : Option Nat := if 0 ≤ x then σ.fl x.toNat else none
/-- The device at block b, its parts where L says. -/
structure DevL (w : World) (b : Nat) (L : Lay) (σ : St) : Prop where
  dev : w.heap[b]? = some (.cells (devC b L σ) 69 (0, 0))
  seen : w.heap[L.sb]? = some (.cells (σ.bytes.map B8 ++ L.tl).toArray 73 (0, 0))
  old : MapG ptrE DataW.held w L.ob L.N (oldF L σ)
  flm : MapG (plainElem Try.prog 3) numD w L.fb L.N (flF σ)
  pasts : ∀ i, σ.past i ≠ [] → PastAt w (L.pb i) (L.rv i) (σ.past i)
  pne : ∀ i j, σ.past i ≠ [] → σ.past j ≠ [] → i ≠ j → L.pb i ≠ L.pb j
  rne : ∀ i j g, σ.past i ≠ [] → σ.past j ≠ [] → i ≠ j → (L.rv i).ownBlock = some g → (L.rv j).ownBlock ≠ some g
  mne : L.ob ≠ L.fb
  arms : ArmsR w L.KB L.av σ.arms
  kbt : ∀ k, L.KB k → ∃ c, w.heap[k]? = some (.cells c 3 (0, 0))
/-- The blocks of a device. -/
def Foot (b : Nat) (L : Lay) (σ : St) (k : Nat) : Prop :=
  k = b ∨ k = L.sb ∨ k = L.ob ∨ k = L.fb ∨ (∃ i, σ.past i ≠ [] ∧ (k = L.pb i ∨ (L.rv i).ownBlock = some k)) ∨ L.av.ownBlock = some k ∨ L.KB k
theorem DevL.keep {w w' : World} {b : Nat} {L : Lay} {σ : St} (h : DevL w b L σ) (hk : ∀ k, Foot b L σ k → w'.heap[k]? = w.heap[k]?) : DevL w' b L σ where
  dev := (hk b (.inl rfl)).trans h.dev
  seen := (hk _ (.inr (.inl rfl))).trans h.seen
  old := h.old.of_block (hk _ (.inr (.inr (.inl rfl))))
  flm := h.flm.of_block (hk _ (.inr (.inr (.inr (.inl rfl)))))
  pasts := fun i hi => (h.pasts i hi).keep (hk _ (.inr (.inr (.inr (.inr (.inl ⟨i, hi, .inl rfl⟩)))))) (fun g hg => hk _ (.inr (.inr (.inr (.inr (.inl ⟨i, hi, .inr hg⟩))))))
  pne := h.pne
  rne := h.rne
  mne := h.mne
  arms := h.arms.keep (fun g hg => hk g (.inr (.inr (.inr (.inr (.inr (.inl hg))))))) (fun g hg => hk g (.inr (.inr (.inr (.inr (.inr (.inr hg)))))))
  kbt := fun k hkb => by
    obtain ⟨c, hc⟩ := h.kbt k hkb
    exact ⟨c, (hk k (.inr (.inr (.inr (.inr (.inr (.inr hkb))))))).trans hc⟩
theorem DevL.lt {w : World} {b : Nat} {L : Lay} {σ : St} (h : DevL w b L σ) : b < w.heap.size := lt_of_heap h.dev
/-- What a block of the device is. -/
theorem DevL.foot_is {w : World} {b : Nat} {L : Lay} {σ : St} (h : DevL w b L σ) {k : Nat} (hk : Foot b L σ k) : k < w.heap.size := by
  rcases hk with rfl | rfl | rfl | rfl | ⟨i, hi, rfl | hr⟩ | ha | hb
  · exact h.lt
  · exact lt_of_heap h.seen
  · exact h.old.lt
  · exact h.flm.lt
  · exact lt_of_heap (h.pasts i hi).1
  · obtain ⟨c, hc⟩ := (h.pasts i hi).row hr
    exact lt_of_heap hc
  · obtain ⟨ks, hl, ho, _⟩ := h.arms
    rcases ho.2 with ⟨e, _⟩ | ⟨g', cap, cur, e, h1, hg', r⟩
    · rw [e] at ha; cases ha
    · rw [e] at ha; cases ha; exact lt_of_heap hg'
  · obtain ⟨c, hc⟩ := h.kbt k hb
    exact lt_of_heap hc
theorem DevL.below {w w' : World} {b : Nat} {L : Lay} {σ : St} (h : DevL w b L σ) (hb : Below w.heap.size w w') : DevL w' b L σ := h.keep fun k hk => hb.block k (h.foot_is hk)

/-- The device at block b, whose blocks are all of F. -/
def Dev (w : World) (b : Nat) (F : Nat → Prop) (σ : St) : Prop := ∃ L, DevL w b L σ ∧ (∀ k, Foot b L σ k → F k) ∧ σ.Ok ∧ L.N ≤ σ.ops
theorem Dev.below {w w' : World} {b : Nat} {F : Nat → Prop} {σ : St} (h : Dev w b F σ) (hb : Below w.heap.size w w') : Dev w' b F σ := by
  obtain ⟨L, hd, hf, ho⟩ := h
  exact ⟨L, hd.below hb, hf, ho⟩
theorem Dev.gr {X : Nat → Prop} {w w' : World} {b : Nat} {F : Nat → Prop} {σ : St} (h : Dev w b F σ) (hg : Gr X w w') (hx : ∀ k, F k → ¬ X k) : Dev w' b F σ := by
  obtain ⟨L, hd, hf, ho⟩ := h
  exact ⟨L, hd.keep (fun k hk => hg.block (hd.foot_is hk) (hx k (hf k hk))), hf, ho⟩
theorem Dev.ok {w : World} {b : Nat} {F : Nat → Prop} {σ : St} (h : Dev w b F σ) : σ.Ok := by
  obtain ⟨L, hd, hf, ho⟩ := h
  exact ho.1

section
variable {w : World} {b : Nat} {L : Lay} {σ : St}
theorem cell8 {c : Array Value} {t : TypeId} (h : w.heap[b]? = some (.cells c t (0, 0))) (j : Nat) : w.cell? ⟨b, j, none⟩ = c[j]? := by simp [World.cell?, h]
theorem froz8 {c : Array Value} {t : TypeId} (h : w.heap[b]? = some (.cells c t (0, 0))) (j : Nat) : w.frozen? ⟨b, j, none⟩ = false := by simp [World.frozen?, h]
theorem DevL.c0 (h : DevL w b L σ) : w.cell? ⟨b, 0, none⟩ = some (.pointer (some ⟨b, 0, none⟩)) := cell8 h.dev 0
theorem DevL.c1 (h : DevL w b L σ) : w.cell? ⟨b, 1, none⟩ = some (.slice (some ⟨L.sb, 0, none⟩) σ.n L.cp) := cell8 h.dev 1
theorem DevL.c2 (h : DevL w b L σ) : w.cell? ⟨b, 2, none⟩ = some (.map (some L.ob)) := cell8 h.dev 2
theorem DevL.c3 (h : DevL w b L σ) : w.cell? ⟨b, 3, none⟩ = some (.map (some L.fb)) := cell8 h.dev 3
theorem DevL.c4 (h : DevL w b L σ) : w.cell? ⟨b, 4, none⟩ = some (.int .i64 (σ.ops : Int)) := cell8 h.dev 4
theorem DevL.c5 (h : DevL w b L σ) : w.cell? ⟨b, 5, none⟩ = some L.av := cell8 h.dev 5
theorem DevL.c6 (h : DevL w b L σ) : w.cell? ⟨b, 6, none⟩ = some (.int .i64 (σ.cnt : Int)) := cell8 h.dev 6
theorem DevL.c7 (h : DevL w b L σ) : w.cell? ⟨b, 7, none⟩ = some (.bool σ.off) := cell8 h.dev 7
theorem DevL.fz (h : DevL w b L σ) (j : Nat) : w.frozen? ⟨b, j, none⟩ = false := froz8 h.dev j
theorem heap_set1 (w : World) (b j : Nat) (c : Array Value) (t : TypeId) (v : Value) (h : w.heap[b]? = some (.cells c t (0, 0))) : (w.setCell ⟨b, j, none⟩ v).heap[b]? = some (.cells (c.setIfInBounds j v) t (0, 0)) := by
  simp [World.setCell, Array.getElem?_modify, h]
theorem heap_set_ne (w : World) (b j k : Nat) (v : Value) (h : k ≠ b) : (w.setCell ⟨b, j, none⟩ v).heap[k]? = w.heap[k]? := by
  simp [World.setCell, Array.getElem?_modify, Ne.symm h]
/-- Blocks of other types are other blocks. -/
theorem ne_ty {x y : Nat} {c d : Array Value} {t u : TypeId} {f g : Nat × Nat} (h : w.heap[x]? = some (.cells c t f)) (k : w.heap[y]? = some (.cells d u g)) (e : t ≠ u) : x ≠ y := fun he => by
  subst he; rw [h] at k; cases k; exact e rfl
theorem ne_map {x y : Nat} {c : Array Value} {t : TypeId} {f : Nat × Nat} {es : Array MapEntry} {k : Nat} (h : w.heap[x]? = some (.cells c t f)) (m : w.heap[y]? = some (.map es k)) : x ≠ y := fun he => by
  subst he; rw [h] at m; cases m
theorem DevL.av_row (h : DevL w b L σ) {k : Nat} (hk : L.av.ownBlock = some k) : ∃ c, w.heap[k]? = some (.cells c 89 (0, 0)) := by
  obtain ⟨ks, hl, ho, _⟩ := h.arms
  rcases ho.2 with ⟨e, _⟩ | ⟨g', cap, cur, e, h1, hg', r⟩
  · rw [e] at hk; cases hk
  · rw [e] at hk; cases hk; exact ⟨_, hg'⟩
/-- Only the device's own block has changed. -/
theorem DevL.re (h : DevL w b L σ) {w' : World} {ops cnt : Nat} {off : Bool} (hd : w'.heap[b]? = some (.cells (devC b L { σ with ops := ops, cnt := cnt, off := off }) 69 (0, 0))) (hk : ∀ k, k ≠ b → k < w.heap.size → w'.heap[k]? = w.heap[k]?) :
    DevL w' b L { σ with ops := ops, cnt := cnt, off := off } := by
  have hs : ∀ k, k ≠ b → Foot b L σ k → w'.heap[k]? = w.heap[k]? := fun k h1 h2 => hk k h1 (h.foot_is h2)
  obtain ⟨e1, k1, hob⟩ := h.old.block
  obtain ⟨e2, k2, hfb⟩ := h.flm.block
  refine ⟨hd, (hs _ (ne_ty h.seen h.dev (by decide)) (.inr (.inl rfl))).trans h.seen, (h.old.of_block (hs _ (ne_map h.dev hob).symm (.inr (.inr (.inl rfl))))), (h.flm.of_block (hs _ (ne_map h.dev hfb).symm (.inr (.inr (.inr (.inl rfl)))))),
    fun i hi => (h.pasts i hi).keep (hs _ (ne_ty (h.pasts i hi).1 h.dev (by decide)) (.inr (.inr (.inr (.inr (.inl ⟨i, hi, .inl rfl⟩)))))) (fun g hg => ?_), h.pne, h.rne, h.mne, h.arms.keep (fun g hg => ?_) (fun g hg => ?_), fun k hkb => ?_⟩
  · obtain ⟨c, hc⟩ := (h.pasts i hi).row hg
    exact hs _ (ne_ty hc h.dev (by decide)) (.inr (.inr (.inr (.inr (.inl ⟨i, hi, .inr hg⟩)))))
  · obtain ⟨c, hc⟩ := h.av_row hg
    exact hs _ (ne_ty hc h.dev (by decide)) (.inr (.inr (.inr (.inr (.inr (.inl hg))))))
  · obtain ⟨c, hc⟩ := h.kbt g hg
    exact hs _ (ne_ty hc h.dev (by decide)) (.inr (.inr (.inr (.inr (.inr (.inr hg))))))
  · obtain ⟨c, hc⟩ := h.kbt k hkb
    exact ⟨c, (hs _ (ne_ty hc h.dev (by decide)) (.inr (.inr (.inr (.inr (.inr (.inr hkb))))))).trans hc⟩
end
end Go.Proofs.Ytgfgihpkbbjkfaa
