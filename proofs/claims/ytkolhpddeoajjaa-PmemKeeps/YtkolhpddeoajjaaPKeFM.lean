/- PmemKeeps answers true for all numbers of lines, scripts and lists of what lines keep. -/
import Derived.Test.YtkolhpddeoajjaaOpenM
import Derived.Deep.Slices
import Derived.Deep.Cut
import Derived.Test.YtkolhpddeoajjaaPLay
import Derived.Test.YtkolhpddeoajjaaBase
import Derived.Laws.BitsAllLaws
import Derived.Test.YtkolhpddeoajjaaEq
import Derived.Test.YtkolhpddeoajjaaPut
import Derived.Maps.AppendAt
import Derived.Laws.AppendOwnNone
import Derived.Test.YtkolhpddeoajjaaPNew
import Derived.Test.YtkolhpddeoajjaaPBkM
import Derived.Test.YtkolhpddeoajjaaPImg
namespace Go.Proofs.Ytkolhpddeoajjaa
open Go.ChangeShapes Go.WideShapes Go.ChangeAt Go.RowKit
set_option linter.unusedVariables false

theorem gatherQ {α : Type} {Q : Nat → α → Prop} : ∀ n, (∀ i, i < n → ∃ x, Q i x) → ∃ xs : List α, xs.length = n ∧ ∀ i x, xs[i]? = some x → Q i x := by
  intro n
  induction n with
  | zero => intro _; exact ⟨[], rfl, fun i x h => by simp at h⟩
  | succ n ih =>
    intro h
    obtain ⟨xs, hl, hq⟩ := ih (fun i hi => h i (by omega))
    obtain ⟨y, hy⟩ := h n (by omega)
    refine ⟨xs ++ [y], by rw [List.length_append, hl]; rfl, fun i x hx => ?_⟩
    by_cases hi : i < xs.length
    · rw [List.getElem?_append_left hi] at hx
      exact hq i x hx
    · rw [List.getElem?_append_right (by omega)] at hx
      have hlt := (List.getElem?_eq_some_iff.1 hx).1
      simp at hlt
      have e : i - xs.length = 0 := by omega
      rw [e] at hx
      simp at hx
      subst hx
      have : i = n := by omega
      subst this
      exact hy
/-- What a row of so many cells an element holds. -/
def RowC {α : Type} (sz : Nat) (vals : α → List Value) (W : World) (a : Option Addr) (xs : List α) : Prop :=
  xs = [] ∨ ∃ b off, a = some ⟨b, off, none⟩ ∧ b < W.heap.size ∧ ∀ i x, xs[i]? = some x → ∀ j v, (vals x)[j]? = some v → W.cell? ⟨b, off + i * sz + j, none⟩ = some v
theorem RowC.below {α : Type} {sz : Nat} {vals : α → List Value} {W W' : World} {a : Option Addr} {xs : List α} (h : RowC sz vals W a xs) (hB : Below W.heap.size W W') : RowC sz vals W' a xs := by
  rcases h with h | ⟨b, off, e, hb, hc⟩
  · exact .inl h
  · exact .inr ⟨b, off, e, Nat.lt_of_lt_of_le hb hB.size, fun i x hx j v hv => (hB.cell hb).trans (hc i x hx j v hv)⟩
theorem RowC.at {α : Type} {sz : Nat} {vals : α → List Value} {W : World} {a : Option Addr} {xs : List α} (h : RowC sz vals W a xs) {i : Nat} {x : α} (hx : xs[i]? = some x) : ∃ b off, a = some ⟨b, off, none⟩ ∧ b < W.heap.size ∧ ∀ j v, (vals x)[j]? = some v → W.cell? ⟨b, off + i * sz + j, none⟩ = some v := by
  rcases h with h | ⟨b, off, e, hb, hc⟩
  · rw [h] at hx; simp at hx
  · exact ⟨b, off, e, hb, hc i x hx⟩
theorem bulk_appR {H : Type} (l m : List (DataW H)) : Rows.uptoBulkAll (l ++ m) = Rows.uptoBulkAll l + Rows.uptoBulkAll m := by
  induction l with
  | nil => simp [Rows.uptoBulkAll]
  | cons d r ih => simp only [List.cons_append, Rows.uptoBulkAll, ih]; omega
theorem bulk_sumR {H α : Type} (f : α → Nat) (D : Nat → DataW H) (xs : List α) (h : ∀ i x, xs[i]? = some x → f x ≤ Rows.uptoBulk (D i)) : (xs.map f).sum ≤ Rows.uptoBulkAll ((List.range xs.length).map D) := by
  have key : ∀ n, n ≤ xs.length → ((xs.take n).map f).sum ≤ Rows.uptoBulkAll ((List.range n).map D) := by
    intro n
    induction n with
    | zero => intro _; simp
    | succ n ih =>
      intro hn
      have h1 := ih (by omega)
      have h2 := h n _ (List.getElem?_eq_getElem (by omega))
      rw [List.take_succ_eq_append_getElem (by omega), List.map_append, List.sum_append, List.range_succ, List.map_append, bulk_appR]
      simp only [List.map_cons, List.map_nil, List.sum_cons, List.sum_nil, Rows.uptoBulkAll]
      omega
  have := key xs.length (Nat.le_refl _)
  rw [List.take_length] at this
  exact this
set_option maxRecDepth 100000 in
theorem open_row {α H : Type} {enc : TypeId × Value → H} {W : World} {t e : TypeId} {sz fuel : Nat} (vals : α → List Value) (Q : α → DataW H → Prop) (f : α → Nat) (ht : Try.prog.underlying t = some (.slice e)) (hc : Try.prog.cellsOf e = sz) (hsz : 0 < sz) (hvl : ∀ x, (vals x).length = sz)
    (hel : ∀ fuel cs x, DataW.trod enc Try.prog W 0 (fun _ => true) true fuel e cs = some x → ∃ a, cs = vals a ∧ Q a x.1 ∧ f a ≤ Rows.uptoBulk x.1) {a : Option Addr} {len cap : Nat} {x : DataW H × List MemPlace} (h : DataW.trod enc Try.prog W 0 (fun _ => true) true fuel t [.slice a len cap] = some x) :
    ∃ xs : List α, len = xs.length ∧ RowC sz vals W a xs ∧ (∀ x ∈ xs, ∃ d, Q x d) ∧ (xs.map f).sum + 1 ≤ Rows.uptoBulk x.1 ∧ len ≤ cap ∧ cap ≤ maxLen ∧ (a = none → xs = [] ∧ cap = 0) := by
  rcases Go.Deep.open_slice ht h with ⟨hcs, hx0⟩ | ⟨ad, l, c, m, n, D, Pl, hcs, _, hl, hm, hmm, hx, hele⟩
  · simp at hcs
    obtain ⟨rfl, rfl, rfl⟩ := hcs
    subst hx0
    exact ⟨[], rfl, .inl rfl, by simp, by simp [Rows.uptoBulk], Nat.le_refl _, Nat.zero_le _, fun _ => ⟨rfl, rfl⟩⟩
  · simp at hcs
    obtain ⟨rfl, rfl, rfl⟩ := hcs
    have hlm : len ≤ m := by rw [hmm]; simp; exact hl
    rw [hc] at hele
    obtain ⟨xs, hxl, hxq⟩ := gatherQ (Q := fun i x => Q x (D i) ∧ f x ≤ Rows.uptoBulk (D i) ∧ W.cells? 0 (ad.add (i * sz)) sz = some (vals x)) len (fun i hi => by
      obtain ⟨cs', h1, h2⟩ := hele i (by omega)
      obtain ⟨y, rfl, hq, hk⟩ := hel _ _ _ h2
      exact ⟨y, hq, hk, h1⟩)
    refine ⟨xs, hxl.symm, ?_, ?_, ?_, hl, hm, fun h => by cases h⟩
    · by_cases h0 : len = 0
      · exact .inl (List.eq_nil_of_length_eq_zero (by omega))
      · obtain ⟨b, off, spot⟩ := ad
        obtain ⟨x0, hx0⟩ : ∃ x, xs[0]? = some x := ⟨_, List.getElem?_eq_getElem (by omega)⟩
        obtain ⟨v0, hv0⟩ : ∃ v, (vals x0)[0]? = some v := ⟨_, List.getElem?_eq_getElem (by rw [hvl]; exact hsz)⟩
        have hc0 : W.cell? ⟨b, off, spot⟩ = some v0 := by
          obtain ⟨_, _, hcc⟩ := World.cells?_some (hxq 0 x0 hx0).2.2
          have h1 := hcc 0 (by omega)
          have e : ((⟨b, off, spot⟩ : Addr).add (0 * sz)).add 0 = ⟨b, off, spot⟩ := by simp [Addr.add]
          rw [e, hv0] at h1
          exact h1
        have hspot : spot = none := by simpa using World.cell?_spot hc0
        subst hspot
        refine .inr ⟨b, off, rfl, World.block_lt_of_cell? _ _ hc0, fun i x hx j v hv => ?_⟩
        have hj : j < sz := by have := (List.getElem?_eq_some_iff.1 hv).1; rw [hvl] at this; exact this
        obtain ⟨_, _, hcc⟩ := World.cells?_some (hxq i x hx).2.2
        have h1 := hcc j hj
        rw [hv] at h1
        have e1 : (⟨b, off, none⟩ : Addr).add (i * sz) = ⟨b, off + i * sz, none⟩ := by simp [Addr.add]
        have e2 : (⟨b, off + i * sz, none⟩ : Addr).add j = ⟨b, off + i * sz + j, none⟩ := by simp [Addr.add]
        rw [e1, e2] at h1
        exact h1
    · intro y hy
      obtain ⟨i, hi⟩ := List.getElem?_of_mem hy
      exact ⟨_, (hxq i y hi).1⟩
    · have h1 := bulk_sumR f D xs (fun i x hi => (hxq i x hi).2.1)
      rw [hx, ← hxl]
      simp only [Rows.uptoBulk]
      omega
end Go.Proofs.Ytkolhpddeoajjaa
namespace Go.Proofs.Ytkolhpddeoajjaa
open Go.RowKit Go.Shelf
set_option linter.unusedVariables false

theorem infoRw : ∃ i, Try.prog.info? 32 = some i ∧ i.zero = some (.slice none 0 0) ∧ i.size = 1 ∧ i.bytes = 24 := by
  have h : (Try.prog.info? 32).map (fun i => (i.zero, i.size, i.bytes)) = some (some (.slice none 0 0), 1, 24) := by kernel_rfl
  obtain ⟨i, h1, h2⟩ := Option.map_eq_some_iff.1 h
  simp only [Prod.mk.injEq] at h2
  exact ⟨i, h1, h2.1, h2.2.1, h2.2.2⟩
theorem infoBo : ∃ i, Try.prog.info? 4 = some i ∧ i.zero = some (.bool false) ∧ i.size = 1 ∧ i.bytes = 1 := by
  have h : (Try.prog.info? 4).map (fun i => (i.zero, i.size, i.bytes)) = some (some (.bool false), 1, 1) := by kernel_rfl
  obtain ⟨i, h1, h2⟩ := Option.map_eq_some_iff.1 h
  simp only [Prod.mk.injEq] at h2
  exact ⟨i, h1, h2.1, h2.2.1, h2.2.2⟩
theorem cellOneP (W : World) (x : Value) (t : TypeId) : ∀ (j : Nat) u, [x][j]? = some u → (W.alloc (.cells #[x] t)).cell? ((⟨W.heap.size, 0, none⟩ : Addr).add j) = some u := cell_oneP W x t
/-- A book that was laid since w0. -/
structure PlB (w0 W : World) (p b : Nat) (K : Kl) (B : Bk) : Prop where
  pl : PlL W p b K B
  foot : ∀ k, FootP p K B k → w0.heap.size ≤ k
  bel : Below w0.heap.size w0 W
section
variable {w0 W W' W3 W4 : World} {p b : Nat} {K K' : Kl} {B B' : Bk}
theorem PlB.below (h : PlB w0 W p b K B) (hB : Below W.heap.size W W') : PlB w0 W' p b K B := ⟨h.pl.below hB, h.foot, h.bel.trans (hB.mono h.bel.size)⟩
/-- A row of the book has grown, and the book says where it lies. -/
theorem PlB.growR {R : Key → Option Rw} {k : Key} {r : Rw} {v1 : Value} {ys : List Value} {j : Nat} (h : PlB w0 W p b K B) (hB : Below W.heap.size W W3) (oR : Own W3 R) (hR : ∀ q, FootR R q → FootR (rowsOf K B) q ∨ W.heap.size ≤ q) (hk : R k = some r) (hg : W3.grownBy W4 r.v.ownBlock) (ho : W4.ownsRow 0 r.t 1 v1 ys.length ys) (hat : v1.ownBlock = r.v.ownBlock ∨ v1.ownBlock = some W3.heap.size)
    (hrow : ∀ q, rowsOf K' B' q = upd R k ⟨r.t, v1, ys⟩ q) (hc : (#[.pointer (some ⟨b, 0, none⟩), K.sv, K.hv, K.lv, K.uv, K.mv] : Array Value).setIfInBounds j v1 = #[.pointer (some ⟨b, 0, none⟩), K'.sv, K'.hv, K'.lv, K'.uv, K'.mv]) (hl : K'.hs.length = B'.held.length) :
    W4.heap[p]? = some (.cells #[.pointer (some ⟨b, 0, none⟩), K.sv, K.hv, K.lv, K.uv, K.mv] 36 (0, 0)) ∧ PlB w0 (W4.setCell ⟨p, j, none⟩ v1) p b K' B' := by
  have h3 := h.pl.below hB
  have hp3 : p < W3.heap.size := lt_of_heap h3.blk
  have hnR : ∀ g, FootR R g → g ≠ p := fun g hf e => by
    obtain ⟨c, t, hc2, ht⟩ := oR.lt hf
    subst e
    rw [h3.blk] at hc2
    cases hc2
    rcases ht with ht | ht | ht | ht <;> exact absurd ht (by decide)
  have hpb : W4.heap[p]? = W3.heap[p]? := hg.block p hp3 (fun e => hnR p ⟨k, r, hk, e.symm⟩ rfl)
  have o1 := oR.grow hk hg ho hat
  have hft : ∀ q, FootR (rowsOf K' B') q → FootR (rowsOf K B) q ∨ W.heap.size ≤ q := fun q hq => by
    have e : rowsOf K' B' = _ := funext hrow
    rw [e] at hq
    rcases FootR.upd_sub (r := ⟨r.t, v1, ys⟩) (N := W3.heap.size) hk (hat.imp id (fun h q hq => by rw [show (Rw.mk r.t v1 ys).v = v1 from rfl, h] at hq; cases hq; exact Nat.le_refl _)) hq with h1 | h1
    · exact hR q h1
    · exact .inr (Nat.le_trans hB.size h1)
  have hne : ∀ g, FootR (upd R k ⟨r.t, v1, ys⟩) g → g ≠ p := fun g hf e => by
    obtain ⟨c, t, hc2, ht⟩ := o1.lt hf
    subst e
    rw [hpb, h3.blk] at hc2
    cases hc2
    rcases ht with ht | ht | ht | ht <;> exact absurd ht (by decide)
  have o2 : Own (W4.setCell ⟨p, j, none⟩ v1) (upd R k ⟨r.t, v1, ys⟩) := o1.keep (fun g hf => heap_set_ne W4 p j g v1 (hne g hf))
  have hfb : ∀ q, FootR R q → w0.heap.size ≤ q := fun q hq => by
    rcases hR q hq with h1 | h1
    · exact h.foot q (.inr h1)
    · exact Nat.le_trans h.bel.size h1
  refine ⟨hpb.trans h3.blk, ⟨⟨?_, o2.congr hrow, hl⟩, fun q hq => ?_, ?_⟩⟩
  · rw [heap_set1 W4 p j _ _ v1 (hpb.trans h3.blk), hc]
  · rcases hq with rfl | hq
    · exact h.foot _ (.inl rfl)
    · rcases hft q hq with h1 | h1
      · exact h.foot q (.inr h1)
      · exact Nat.le_trans h.bel.size h1
  · have hb4 : Below w0.heap.size w0 W4 := by
      have h5 := h.bel.trans (hB.mono h.bel.size)
      exact ⟨hg.os.trans h5.os, hg.tape.trans h5.tape, hg.output.trans h5.output, Nat.le_trans h5.size hg.size, fun q hq => (hg.block q (Nat.lt_of_lt_of_le hq h5.size) (fun e => by have := hfb q ⟨k, r, hk, e.symm⟩; omega)).trans (h5.block q hq)⟩
    exact hb4.setCell (p := ⟨p, j, none⟩) (h.foot p (.inl rfl)) _
theorem PlB.grow {k : Key} {r : Rw} {v1 : Value} {ys : List Value} {j : Nat} (h : PlB w0 W p b K B) (hB : Below W.heap.size W W3) (hk : rowsOf K B k = some r) (hg : W3.grownBy W4 r.v.ownBlock) (ho : W4.ownsRow 0 r.t 1 v1 ys.length ys) (hat : v1.ownBlock = r.v.ownBlock ∨ v1.ownBlock = some W3.heap.size)
    (hrow : ∀ q, rowsOf K' B' q = upd (rowsOf K B) k ⟨r.t, v1, ys⟩ q) (hc : (#[.pointer (some ⟨b, 0, none⟩), K.sv, K.hv, K.lv, K.uv, K.mv] : Array Value).setIfInBounds j v1 = #[.pointer (some ⟨b, 0, none⟩), K'.sv, K'.hv, K'.lv, K'.uv, K'.mv]) (hl : K'.hs.length = B'.held.length) :
    W4.heap[p]? = some (.cells #[.pointer (some ⟨b, 0, none⟩), K.sv, K.hv, K.lv, K.uv, K.mv] 36 (0, 0)) ∧ PlB w0 (W4.setCell ⟨p, j, none⟩ v1) p b K' B' :=
  h.growR hB (h.pl.below hB).own (fun q hq => .inl hq) hk hg ho hat hrow hc hl
theorem PlB.grow_held {e hv1 : Value} (h : PlB w0 W p b K B) (hB : Below W.heap.size W W3) (he : W3.ownsRow 0 43 1 e 1 [U64 0]) (hen : ∀ g, e.ownBlock = some g → W.heap.size ≤ g) (hg : W3.grownBy W4 K.hv.ownBlock) (ho : W4.ownsRow 0 32 1 hv1 (K.hs.length + 1) (K.hs ++ [e])) (hat : hv1.ownBlock = K.hv.ownBlock ∨ hv1.ownBlock = some W3.heap.size) :
    W4.heap[p]? = some (.cells #[.pointer (some ⟨b, 0, none⟩), K.sv, K.hv, K.lv, K.uv, K.mv] 36 (0, 0)) ∧ PlB w0 (W4.setCell ⟨p, 2, none⟩ hv1) p b { K with hv := hv1, hs := K.hs ++ [e] } { B with held := B.held ++ [[0]] } := by
  have h3 := h.pl.below hB
  have hfr : ∀ g, e.ownBlock = some g → ¬ FootR (rowsOf K B) g := fun g hg hf => by have := h.pl.lt (.inr hf); have := hen g hg; omega
  have o1 : Own W3 (upd (rowsOf K B) (.inner B.held.length) ⟨43, e, [U64 0]⟩) := h3.own.more (r := ⟨43, e, [U64 0]⟩) he (.inl rfl) hfr
  refine h.growR hB o1 (fun q hq => FootR.more_sub (r := ⟨43, e, [U64 0]⟩) hen hq) (k := .held) (r := ⟨32, K.hv, K.hs⟩) rfl hg (by rw [List.length_append]; exact ho) hat (fun q => ?_) rfl (by show (K.hs ++ [e]).length = (B.held ++ [[0]]).length; rw [List.length_append, List.length_append, h.pl.hl]; rfl)
  cases q with
  | seen => rfl
  | held => rfl
  | last => rfl
  | sure => rfl
  | marks => rfl
  | inner i =>
    show innerOf { K with hv := hv1, hs := K.hs ++ [e] } { B with held := B.held ++ [[0]] } i = if Key.inner i = Key.held then _ else (if Key.inner i = Key.inner B.held.length then _ else innerOf K B i)
    rw [if_neg (by simp)]
    unfold innerOf
    by_cases e1 : i = B.held.length
    · subst e1
      rw [if_pos rfl]
      have x1 : (K.hs ++ [e])[B.held.length]? = some e := by rw [← h.pl.hl]; simp
      have x2 : (B.held ++ [[0]])[B.held.length]? = some [0] := by simp
      show (match (K.hs ++ [e])[B.held.length]?, (B.held ++ [[0]])[B.held.length]? with | some v, some l => some (Rw.mk 43 v (l.map U64)) | _, _ => none) = _
      rw [x1, x2]
      rfl
    · rw [if_neg (by simpa using e1)]
      show (match (K.hs ++ [e])[i]?, (B.held ++ [[0]])[i]? with | some v, some l => some (Rw.mk 43 v (l.map U64)) | _, _ => none) = (match K.hs[i]?, B.held[i]? with | some v, some l => some (Rw.mk 43 v (l.map U64)) | _, _ => none)
      by_cases hi : i < B.held.length
      · rw [List.getElem?_append_left (by rw [h.pl.hl]; exact hi), List.getElem?_append_left hi]
      · rw [List.getElem?_eq_none (l := K.hs ++ [e]) (by rw [List.length_append, h.pl.hl]; simp; omega), List.getElem?_eq_none (l := K.hs) (by rw [h.pl.hl]; omega)]
end
def bN (i : Nat) : Bk := ⟨List.replicate i 0, List.replicate i [0], List.replicate i 0, List.replicate i true, []⟩
end Go.Proofs.Ytkolhpddeoajjaa
namespace Go.Proofs.Ytkolhpddeoajjaa
open Go.RowKit Go.Shelf
set_option linter.unusedVariables false

section
variable {w0 W : World} {p b : Nat} {K : Kl} {B : Bk}
theorem PlB.app_seen {i : Nat} {sv : Value} (h : PlB w0 W p b K B) (hs : B.seen.length = i) (esv : K.sv = sv) : (W.alloc (.cells #[.int .u64 0] 43)).ownsRow 0 43 1 sv i (B.seen.map U64) ∧ ∀ v1 x1, x1.ownsRow 0 43 1 v1 (i + 1) (B.seen.map U64 ++ [.int .u64 0]) → (W.alloc (.cells #[.int .u64 0] 43)).grownBy x1 sv.ownBlock → (v1.ownBlock = sv.ownBlock ∨ v1.ownBlock = some (W.alloc (.cells #[.int .u64 0] 43)).heap.size) →
    (∃ u, x1.cell? ⟨p, 1, none⟩ = some u) ∧ x1.frozen? ⟨p, 1, none⟩ = false ∧ PlB w0 (x1.setCell ⟨p, 1, none⟩ v1) p b { K with sv := v1 } { B with seen := B.seen ++ [0] } := by
  subst esv
  have hB : Below W.heap.size W (W.alloc (.cells #[.int .u64 0] 43)) := (Below.refl _ _).alloc (Nat.le_refl _) _
  have hr := (h.pl.below hB).own.row .seen _ rfl
  simp only [List.length_map, hs] at hr
  refine ⟨hr, fun v1 x1 ho hg hat => ?_⟩
  obtain ⟨q1, q2⟩ := h.grow (k := .seen) (r := ⟨43, K.sv, B.seen.map U64⟩) (v1 := v1) (ys := (B.seen ++ [0]).map U64) (K' := { K with sv := v1 }) (B' := { B with seen := B.seen ++ [0] }) (j := 1) hB rfl hg (by rw [List.length_map, List.length_append, hs, List.map_append]; exact ho) hat (fun q => by cases q <;> rfl) rfl h.pl.hl
  exact ⟨⟨_, cell8 q1 1⟩, froz8 q1 1, q2⟩
theorem PlB.app_last {i : Nat} {sv : Value} (h : PlB w0 W p b K B) (hs : B.last.length = i) (esv : K.lv = sv) : (W.alloc (.cells #[.int .u64 0] 43)).ownsRow 0 43 1 sv i (B.last.map U64) ∧ ∀ v1 x1, x1.ownsRow 0 43 1 v1 (i + 1) (B.last.map U64 ++ [.int .u64 0]) → (W.alloc (.cells #[.int .u64 0] 43)).grownBy x1 sv.ownBlock → (v1.ownBlock = sv.ownBlock ∨ v1.ownBlock = some (W.alloc (.cells #[.int .u64 0] 43)).heap.size) →
    (∃ u, x1.cell? ⟨p, 3, none⟩ = some u) ∧ x1.frozen? ⟨p, 3, none⟩ = false ∧ PlB w0 (x1.setCell ⟨p, 3, none⟩ v1) p b { K with lv := v1 } { B with last := B.last ++ [0] } := by
  subst esv
  have hB : Below W.heap.size W (W.alloc (.cells #[.int .u64 0] 43)) := (Below.refl _ _).alloc (Nat.le_refl _) _
  have hr := (h.pl.below hB).own.row .last _ rfl
  simp only [List.length_map, hs] at hr
  refine ⟨hr, fun v1 x1 ho hg hat => ?_⟩
  obtain ⟨q1, q2⟩ := h.grow (k := .last) (r := ⟨43, K.lv, B.last.map U64⟩) (v1 := v1) (ys := (B.last ++ [0]).map U64) (K' := { K with lv := v1 }) (B' := { B with last := B.last ++ [0] }) (j := 3) hB rfl hg (by rw [List.length_map, List.length_append, hs, List.map_append]; exact ho) hat (fun q => by cases q <;> rfl) rfl h.pl.hl
  exact ⟨⟨_, cell8 q1 3⟩, froz8 q1 3, q2⟩
theorem PlB.app_sure {i : Nat} {sv : Value} (h : PlB w0 W p b K B) (hs : B.sure.length = i) (esv : K.uv = sv) : (W.alloc (.cells #[.bool true] 4)).ownsRow 0 4 1 sv i (B.sure.map Value.bool) ∧ ∀ v1 x1, x1.ownsRow 0 4 1 v1 (i + 1) (B.sure.map Value.bool ++ [.bool true]) → (W.alloc (.cells #[.bool true] 4)).grownBy x1 sv.ownBlock → (v1.ownBlock = sv.ownBlock ∨ v1.ownBlock = some (W.alloc (.cells #[.bool true] 4)).heap.size) →
    (∃ u, x1.cell? ⟨p, 4, none⟩ = some u) ∧ x1.frozen? ⟨p, 4, none⟩ = false ∧ PlB w0 (x1.setCell ⟨p, 4, none⟩ v1) p b { K with uv := v1 } { B with sure := B.sure ++ [true] } := by
  subst esv
  have hB : Below W.heap.size W (W.alloc (.cells #[.bool true] 4)) := (Below.refl _ _).alloc (Nat.le_refl _) _
  have hr := (h.pl.below hB).own.row .sure _ rfl
  simp only [List.length_map, hs] at hr
  refine ⟨hr, fun v1 x1 ho hg hat => ?_⟩
  obtain ⟨q1, q2⟩ := h.grow (k := .sure) (r := ⟨4, K.uv, B.sure.map Value.bool⟩) (v1 := v1) (ys := (B.sure ++ [true]).map Value.bool) (K' := { K with uv := v1 }) (B' := { B with sure := B.sure ++ [true] }) (j := 4) hB rfl hg (by rw [List.length_map, List.length_append, hs, List.map_append]; exact ho) hat (fun q => by cases q <;> rfl) rfl h.pl.hl
  exact ⟨⟨_, cell8 q1 4⟩, froz8 q1 4, q2⟩
theorem PlB.app_held {i : Nat} {sv : Value} (h : PlB w0 W p b K B) (hs : K.hs.length = i) (esv : K.hv = sv) : ((W.alloc (.cells #[.int .u64 0] 43)).alloc (.cells #[.slice (some ⟨W.heap.size, 0, none⟩) 1 1] 32)).ownsRow 0 32 1 sv i K.hs ∧ ∀ v1 x1, x1.ownsRow 0 32 1 v1 (i + 1) (K.hs ++ [.slice (some ⟨W.heap.size, 0, none⟩) 1 1]) → ((W.alloc (.cells #[.int .u64 0] 43)).alloc (.cells #[.slice (some ⟨W.heap.size, 0, none⟩) 1 1] 32)).grownBy x1 sv.ownBlock → (v1.ownBlock = sv.ownBlock ∨ v1.ownBlock = some ((W.alloc (.cells #[.int .u64 0] 43)).alloc (.cells #[.slice (some ⟨W.heap.size, 0, none⟩) 1 1] 32)).heap.size) →
    (∃ u, x1.cell? ⟨p, 2, none⟩ = some u) ∧ x1.frozen? ⟨p, 2, none⟩ = false ∧ PlB w0 (x1.setCell ⟨p, 2, none⟩ v1) p b { K with hv := v1, hs := K.hs ++ [.slice (some ⟨W.heap.size, 0, none⟩) 1 1] } { B with held := B.held ++ [[0]] } := by
  subst esv
  have hB1 : Below W.heap.size W (W.alloc (.cells #[.int .u64 0] 43)) := (Below.refl _ _).alloc (Nat.le_refl _) _
  have hB : Below W.heap.size W ((W.alloc (.cells #[.int .u64 0] 43)).alloc (.cells #[.slice (some ⟨W.heap.size, 0, none⟩) 1 1] 32)) := hB1.alloc (by simp) _
  have hr := (h.pl.below hB).own.row .held _ rfl
  have hr : ((W.alloc (.cells #[.int .u64 0] 43)).alloc (.cells #[.slice (some ⟨W.heap.size, 0, none⟩) 1 1] 32)).ownsRow 0 32 1 K.hv K.hs.length K.hs := hr
  rw [hs] at hr
  have he : ((W.alloc (.cells #[.int .u64 0] 43)).alloc (.cells #[.slice (some ⟨W.heap.size, 0, none⟩) 1 1] 32)).ownsRow 0 43 1 (.slice (some ⟨W.heap.size, 0, none⟩) 1 1) 1 [U64 0] := by
    refine ⟨rfl, .inr ⟨W.heap.size, 1, #[.int .u64 0], rfl, Nat.zero_le _, ?_, Nat.le_refl _, by unfold maxLen; omega, rfl, rfl⟩⟩
    rw [Below.heap_alloc _ _ _ (by simp)]
    exact heap_alloc_new W _
  refine ⟨hr, fun v1 x1 ho hg hat => ?_⟩
  obtain ⟨q1, q2⟩ := h.grow_held (hv1 := v1) hB he (fun g hg => by cases hg; exact Nat.le_refl _) hg (by rw [hs]; exact ho) hat
  exact ⟨⟨_, cell8 q1 2⟩, froz8 q1 2, q2⟩
theorem PlB.put_marks {m : Nat} (h : PlB w0 W p b K B) (hm : K.mv = .slice none 0 0) (hmb : B.marks = []) (cs : Array Value) (hcs : cs.toList = (List.replicate m 0).map MI) (hm4 : m ≤ 4) : (∃ u, (W.alloc (.cells cs 3)).cell? ⟨p, 5, none⟩ = some u) ∧ (W.alloc (.cells cs 3)).frozen? ⟨p, 5, none⟩ = false ∧ PlB w0 ((W.alloc (.cells cs 3)).setCell ⟨p, 5, none⟩ (.slice (some ⟨W.heap.size, 0, none⟩) m m)) p b { K with mv := .slice (some ⟨W.heap.size, 0, none⟩) m m } { B with marks := List.replicate m 0 } := by
  have hsz : cs.size = m := by have h1 := congrArg List.length hcs; simpa using h1
  have ho : (W.alloc (.cells cs 3)).ownsRow 0 3 1 (.slice (some ⟨W.heap.size, 0, none⟩) m m) m ((List.replicate m 0).map MI) := by
    refine ⟨by simp, .inr ⟨W.heap.size, m, cs, rfl, Nat.zero_le _, heap_alloc_new W _, Nat.le_refl _, by unfold maxLen; omega, by omega, ?_⟩⟩
    rw [Nat.mul_one, List.take_of_length_le (by simpa using Nat.le_of_eq hsz), hcs]
  have hg : W.grownBy (W.alloc (.cells cs 3)) (K.mv).ownBlock := by
    have hB : Below W.heap.size W (W.alloc (.cells cs 3)) := (Below.refl _ _).alloc (Nat.le_refl _) _
    exact ⟨hB.os, hB.tape, hB.output, hB.size, fun k hk _ => hB.block k hk⟩
  obtain ⟨q1, q2⟩ := h.grow (W3 := W) (W4 := W.alloc (.cells cs 3)) (k := .marks) (r := ⟨3, K.mv, B.marks.map MI⟩) (v1 := .slice (some ⟨W.heap.size, 0, none⟩) m m) (ys := (List.replicate m 0).map MI) (K' := { K with mv := .slice (some ⟨W.heap.size, 0, none⟩) m m }) (B' := { B with marks := List.replicate m 0 }) (j := 5) (Below.refl _ _) rfl hg (by simpa using ho) (.inr rfl) (fun q => by cases q <;> rfl) rfl h.pl.hl
  exact ⟨⟨_, cell8 q1 5⟩, froz8 q1 5, q2⟩
end
/-- A device and its book, laid since w. -/
structure Pd (w W : World) (p b : Nat) (K : Kl) (L : Lay) (B : Bk) (σ : St) : Prop where
  pl : PlL W p b K B
  dev : DevL W b L σ
  num : L.N ≤ σ.ops
  dis : ∀ k, FootP p K B k → ¬ Foot b L σ k
  fp : ∀ k, FootP p K B k → w.heap.size ≤ k
  fd : ∀ k, Foot b L σ k → w.heap.size ≤ k
  bel : Below w.heap.size w W
theorem Pd.below {w W W' : World} {p b : Nat} {K : Kl} {L : Lay} {B : Bk} {σ : St} (h : Pd w W p b K L B σ) (hB : Below W.heap.size W W') : Pd w W' p b K L B σ := ⟨h.pl.below hB, h.dev.below hB, h.num, h.dis, h.fp, h.fd, h.bel.trans (hB.mono h.bel.size)⟩
theorem Pd.step {w W W' : World} {p b : Nat} {K K' : Kl} {L L' : Lay} {B B' : Bk} {σ σ' : St} (h : Pd w W p b K L B σ) (hd : DevL W' b L' σ') (hn : L'.N ≤ σ'.ops) (hp : PlL W' p b K' B') (hg : Gr (fun k => Foot b L σ k ∨ FootP p K B k) W W') (h1 : ∀ k, Foot b L' σ' k → Foot b L σ k ∨ W.heap.size ≤ k) (h2 : ∀ k, FootP p K' B' k → ¬ Foot b L' σ' k) (h3 : ∀ k, FootP p K' B' k → FootP p K B k ∨ W.heap.size ≤ k) : Pd w W' p b K' L' B' σ' := by
  refine ⟨hp, hd, hn, h2, fun k hk => ?_, fun k hk => ?_, hg.1.trans h.bel.os, hg.2.1.trans h.bel.tape, hg.2.2.1.trans h.bel.output, Nat.le_trans h.bel.size hg.size, fun k hk => (hg.block (Nat.lt_of_lt_of_le hk h.bel.size) (fun hx => ?_)).trans (h.bel.block k hk)⟩
  · rcases h3 k hk with q | q
    · exact h.fp k q
    · exact Nat.le_trans h.bel.size q
  · rcases h1 k hk with q | q
    · exact h.fd k q
    · exact Nat.le_trans h.bel.size q
  · rcases hx with q | q
    · have := h.fd k q; omega
    · have := h.fp k q; omega
theorem index_step (g o i len cap : Nat) (hi : i < len) (w : World) : (Instr.indexAt 22 (.slice (some ⟨g, o, none⟩) len cap) (.int .i64 (i : Int))).run Try.prog w = .ok (.pointer (some ⟨g, o + i * 7, none⟩)) w :=
  index_at (t := 22) (e := 59) (sz := 7) Try.underlying22 (by kernel_rfl) g o i len cap hi w
/-- One step of a script, on a device where no loss waits. -/
theorem pd_play {w W : World} {p b m k : Nat} {K : Kl} {L : Lay} {B : Bk} {σ : St} (s : StpR) (hs : s.Ok) (h : Pd w W p b K L B σ) (st : StepOk B σ) (hn : σ.n = m) (hm4 : m ≤ 4) (hops : σ.ops ≤ k) (hk : k ≤ 1353400000000) (hcap : ∀ l ∈ B.held, l.length ≤ k + 1) :
    Calls Try.prog 24 #[.pointer (some ⟨p, 0, none⟩), .agg #[.int .i64 s.k, .int .i64 s.a, .int .i64 s.n, .int .u64 (s.v : Int), .slice s.da s.dl s.dc, .slice s.ka s.kl s.kc, .slice s.aa s.al s.ac]] W fun e W' => e = .returned (.bool true) ∧ ∃ K' L' σ', Pd w W' p b K' L' (stB s (8 * m) B) σ' ∧ StepOk (stB s (8 * m) B) σ' ∧ σ'.n = m ∧ σ'.ops ≤ k + 1 ∧ (∀ l ∈ (stB s (8 * m) B).held, l.length ≤ k + 1 + 1) := by
  have hp := st.ok.pos
  have r := st.rel
  refine (played_any (N := 8 * m) s hs h.pl h.dev st.ok st.off ⟨.inl st.arms, ?_⟩ h.num ?_ (by omega) hn rfl hm4 (by omega) (by rw [r.ls, hn]) (by rw [r.lh, hn]) (by rw [r.ll, hn]) (by rw [r.lu, hn]) (by rw [r.lm, hn]) (fun l hl => by have := hcap l hl; omega) h.dis).mono ?_
  · rw [st.cnt]; omega
  · rw [st.cnt]; omega
  · rintro e W' ⟨c, K', L', σ', rfl, q1, q2, q3, q4, q5, q6, q7, q8⟩
    obtain ⟨rfl, s1, s2, s3⟩ := st.step (by rw [hn]) hs.v (by omega) q1
    exact ⟨rfl, K', L', σ', h.step q2 q3 q4 q5 q6 q7 q8, s1, s2.trans hn, by omega, stB_held hcap⟩
end Go.Proofs.Ytkolhpddeoajjaa
namespace Go.Proofs.Ytkolhpddeoajjaa
open Go.RowKit Go.Shelf
set_option linter.unusedVariables false

def K00 : Kl := ⟨.slice none 0 0, .slice none 0 0, .slice none 0 0, .slice none 0 0, .slice none 0 0, []⟩
theorem PlB.first (W : World) (b : Nat) : PlB W (W.alloc (.cells #[.pointer (some ⟨b, 0, none⟩), .slice none 0 0, .slice none 0 0, .slice none 0 0, .slice none 0 0, .slice none 0 0] 36)) W.heap.size b K00 (bN 0) := by
  have hr : ∀ k r, rowsOf K00 (bN 0) k = some r → r.v = .slice none 0 0 ∧ r.xs = [] ∧ (r.t = 43 ∨ r.t = 32 ∨ r.t = 4 ∨ r.t = 3) := fun k r hk => by
    cases k with
    | seen => cases hk; exact ⟨rfl, rfl, .inl rfl⟩
    | held => cases hk; exact ⟨rfl, rfl, .inr (.inl rfl)⟩
    | last => cases hk; exact ⟨rfl, rfl, .inl rfl⟩
    | sure => cases hk; exact ⟨rfl, rfl, .inr (.inr (.inl rfl))⟩
    | marks => cases hk; exact ⟨rfl, rfl, .inr (.inr (.inr rfl))⟩
    | inner i => cases hk
  refine ⟨⟨heap_alloc_new W _, ⟨fun k r hk => ?_, fun k k' r r' g _ hk _ hb => ?_, fun k r hk => (hr k r hk).2.2⟩, rfl⟩, fun k hk => ?_, (Below.refl _ _).alloc (Nat.le_refl _) _⟩
  · obtain ⟨h1, h2, _⟩ := hr k r hk
    rw [h1, h2]
    exact ⟨rfl, .inl ⟨rfl, rfl⟩⟩
  · rw [(hr k r hk).1] at hb; cases hb
  · rcases hk with rfl | ⟨k', r, hk, hb⟩
    · exact Nat.le_refl _
    · rw [(hr k' r hk).1] at hb; cases hb
theorem cellTwoP (W : World) (o : Obj) (x : Value) (t : TypeId) : ∀ (j : Nat) u, [x][j]? = some u → ((W.alloc o).alloc (.cells #[x] t)).cell? ((⟨W.heap.size + 1, 0, none⟩ : Addr).add j) = some u := fun j u hu => by
  have h := cellOneP (W.alloc o) x t j u hu
  rwa [World.size_alloc] at h
theorem bN_succ (i : Nat) : bN (i + 1) = { seen := (bN i).seen ++ [0], held := (bN i).held ++ [[0]], last := (bN i).last ++ [0], sure := (bN i).sure ++ [true], marks := [] } := by
  unfold bN
  simp only [List.replicate_succ']
/-- What begun answers. -/
def BegD (w : World) (li : Int) (ns : Nat) (xs : List StpR) (e : Ending) (w' : World) : Prop :=
  ∃ (p b m : Nat) (K : Kl) (L : Lay) (B : Bk) (σ : St), e = .returned (.tuple #[.pointer (some ⟨p, 0, none⟩), .bool true]) ∧ Pd w w' p b K L B σ ∧ StepOk B σ ∧ σ.n = m ∧ m = 1 + (li % 4).toNat ∧ m ≤ 4 ∧ σ.ops ≤ ns ∧ (∀ l ∈ B.held, l.length ≤ ns + 1) ∧ (xs = [] → σ = newD m)
theorem bN_new (m : Nat) : ({ bN (8 * m) with marks := List.replicate m 0 } : Bk) = bnew m := rfl
theorem bN_len (i : Nat) : (bN i).seen.length = i ∧ (bN i).held.length = i ∧ (bN i).last.length = i ∧ (bN i).sure.length = i := by simp [bN]
set_option maxRecDepth 100000 in
set_option maxHeartbeats 4000000 in
theorem begun_any (w : World) (li : Int) (a : Option Addr) (c ns : Nat) (xs : List StpR) (hli : -9223372036854775808 ≤ li ∧ li ≤ 9223372036854775807) (hrow : RowC 7 (fun s : StpR => s.vals.toList) w a xs) (hxs : ∀ s ∈ xs, s.Ok) (hns : xs.length = ns) (hns2 : ns ≤ 1353300000000) :
    Calls Try.prog 6 #[.int .i64 li, .slice a ns c] w fun e w' => BegD w li ns xs e w' := by
  obtain ⟨i0, hi0, hz0, hz1, hz2⟩ := infoU
  obtain ⟨ir, hir, hr0, hr1, hr2⟩ := infoRw
  obtain ⟨ib, hib, hb0, hb1, hb2⟩ := infoBo
  obtain ⟨ii, hii, hii0, hii1, hii2⟩ := infoInt2
  obtain ⟨r, hr, hr4⟩ : ∃ r : Nat, li % 4 = (r : Int) ∧ r < 4 := ⟨(li % 4).toNat, by omega, by omega⟩
  have kw := pwithin_any w li 4 (by omega) (by omega) hli.1 hli.2
  rw [hr] at kw
  have kn : Calls Try.prog 18 #[.int .i64 (64 * (1 + (r : Int)))] w fun e w' => ∃ b L, e = .returned (.tuple #[.pointer (some ⟨b, 0, none⟩), .int .i64 0]) ∧ DevL w' b L (newD (1 + r)) ∧ (∀ k, Foot b L (newD (1 + r)) k → w.heap.size ≤ k) ∧ Below w.heap.size w w' ∧ L.N = 0 := by
    have h := pnew_any w (1 + r) (by omega) (by omega)
    rwa [show ((64 * (1 + r) : Nat) : Int) = 64 * (1 + (r : Int)) by omega] at h
  have KW := hide kw
  have KN := hide kn
  have HROW := hide hrow
  have HXS := hide hxs
  have HNS := hide hns
  have HR := hide (show 1 + r = 1 + (li % 4).toNat by omega)
  have rI : (r : Int) < 4 := by omega
  clear kw kn hrow hxs hns hr hli
  go_enter Try.func6, Try.ntmps6
  go_upto_region 6 with (first
    | (go_at_call 23; refine (KW.out).mono ?_; rintro e w' ⟨rfl, hw⟩; obtain rfl := hw.symm)
    | (go_at_call 18; refine (KN.out).mono ?_; rintro e W3 ⟨b, L, rfl, hd, hf, hb, hN⟩; have HD := hide hd; have HF := hide hf; have HB := hide hb; have HN := hide hN; clear hd hf hb hN))
  have HP0 := hide (PlB.first W3 b)
  obtain ⟨m, hm⟩ : ∃ m : Nat, 1 + r = m := ⟨_, rfl⟩
  have hmI : (1 : Int) + (r : Int) = (m : Int) := by omega
  rw [hmI]
  rw [hm] at HD HF HR
  have mI : (m : Int) ≤ 4 := by omega
  have m1 : 1 ≤ m := by omega
  generalize hW4 : W3.alloc (.cells #[.pointer (some ⟨b, 0, none⟩), .slice none 0 0, .slice none 0 0, .slice none 0 0, .slice none 0 0, .slice none 0 0] 36) = W4 at *
  obtain ⟨p, hp⟩ : ∃ p, W3.heap.size = p := ⟨_, rfl⟩
  rw [hp] at HP0 ⊢
  have HPP := hide hp
  clear hW4 hm hmI hp KW KN rI
  go_wp2_with (fail)
  try go_frame
  go_loopw [9] (fun iv wr => ∃ (i : Nat) (K : Kl), iv = .int .i64 (i : Int) ∧ i ≤ 8 * m ∧ PlB W3 wr p b K (bN i) ∧ K.mv = .slice none 0 0) (fun iv _ => (8 * m - (intOf iv).toNat))
  case atStart => exact ⟨0, K00, rfl, Nat.zero_le _, HP0.out, rfl⟩
  case round =>
    obtain ⟨i, K, rfl, hi, hpl, hmv⟩ := hrel
    by_cases hlt : i < 8 * m
    · have iI : (i : Int) < 8 * (m : Int) := by omega
      obtain ⟨l1, l2, l3, l4⟩ := bN_len i
      obtain ⟨sa, sc, es⟩ := own_slice (hpl.pl.own.row .seen _ rfl)
      obtain ⟨ha, hc, eh⟩ := own_slice (hpl.pl.own.row .held _ rfl)
      obtain ⟨la, lc, el⟩ := own_slice (hpl.pl.own.row .last _ rfl)
      obtain ⟨ua, uc, eu⟩ := own_slice (hpl.pl.own.row .sure _ rfl)
      have hkl : K.hs.length = i := hpl.pl.hl.trans l2
      have es : K.sv = .slice sa i sc := by rw [show K.sv = _ from es]; simp [l1]
      have eh : K.hv = .slice ha i hc := by rw [show K.hv = _ from eh]; simp [hkl]
      have el : K.lv = .slice la i lc := by rw [show K.lv = _ from el]; simp [l3]
      have eu : K.uv = .slice ua i uc := by rw [show K.uv = _ from eu]; simp [l4]
      have A1 := hide (hpl.app_seen l1 es)
      have c1 : wr.cell? ⟨p, 1, none⟩ = some (.slice sa i sc) := by rw [← es]; exact hpl.pl.c 1
      clear hpl
      go_upto_region 10 with (at_builtin; refine wpList_append_own_at _ rfl _ _ 32 rfl 0 43 i0 (.int .u64 0) 1 8 Try.underlying32 hi0 hz0 hz1 hz2 rfl (by decide) (.slice sa i sc) i ((bN i).seen.map U64) rfl A1.out.1 ⟨wr.heap.size, 0, none⟩ 1 1 [.int .u64 0] rfl rfl (cellOneP wr _ _) (by simp [Value.oneCell']) (by unfold maxLen; omega) (by omega) (Nat.zero_le _) ?_; intro v1 x1 ho3 hg3 hnn hat; clear hnn; obtain ⟨v1a, v1c, rfl⟩ := own_slice ho3; obtain ⟨⟨x1u, x1c⟩, x1f, x1p⟩ := A1.out.2 _ x1 ho3 hg3 hat; have H1 := hide x1p; clear ho3 hg3 hat x1p)
      generalize x1.setCell ⟨p, 1, none⟩ (.slice v1a (i + 1) v1c) = w1 at *
      have A2 := hide (H1.out.app_held (sv := .slice ha i hc) hkl eh)
      have c2 : w1.cell? ⟨p, 2, none⟩ = some (.slice ha i hc) := by rw [← eh]; exact H1.out.pl.c 2
      clear c1 x1c x1f A1
      go_upto_region 11 with (at_builtin; refine wpList_append_own_at _ rfl _ _ 33 rfl 0 32 ir (.slice none 0 0) 1 24 Try.underlying33 hir hr0 hr1 hr2 rfl (by decide) (.slice ha i hc) i (K.hs) rfl A2.out.1 ⟨w1.heap.size + 1, 0, none⟩ 1 1 [.slice (some ⟨w1.heap.size, 0, none⟩) 1 1] rfl rfl (cellTwoP w1 _ _ _) (by simp [Value.oneCell']) (by unfold maxLen; omega) (by omega) (Nat.zero_le _) ?_; intro v2 x2 ho3 hg3 hnn hat; clear hnn; obtain ⟨v2a, v2c, rfl⟩ := own_slice ho3; obtain ⟨⟨x2u, x2c⟩, x2f, x2p⟩ := A2.out.2 _ x2 ho3 hg3 hat; have H2 := hide x2p; clear ho3 hg3 hat x2p)
      generalize x2.setCell ⟨p, 2, none⟩ (.slice v2a (i + 1) v2c) = w2 at *
      have A3 := hide (H2.out.app_last (i := i) (sv := .slice la i lc) l3 el)
      have c3 : w2.cell? ⟨p, 3, none⟩ = some (.slice la i lc) := by rw [← el]; exact H2.out.pl.c 3
      clear c2 x2c x2f A2 H1
      go_upto_region 12 with (at_builtin; refine wpList_append_own_at _ rfl _ _ 32 rfl 0 43 i0 (.int .u64 0) 1 8 Try.underlying32 hi0 hz0 hz1 hz2 rfl (by decide) (.slice la i lc) i ((bN i).last.map U64) rfl A3.out.1 ⟨w2.heap.size, 0, none⟩ 1 1 [.int .u64 0] rfl rfl (cellOneP w2 _ _) (by simp [Value.oneCell']) (by unfold maxLen; omega) (by omega) (Nat.zero_le _) ?_; intro v3 x3 ho3 hg3 hnn hat; clear hnn; obtain ⟨v3a, v3c, rfl⟩ := own_slice ho3; obtain ⟨⟨x3u, x3c⟩, x3f, x3p⟩ := A3.out.2 _ x3 ho3 hg3 hat; have H3 := hide x3p; clear ho3 hg3 hat x3p)
      generalize x3.setCell ⟨p, 3, none⟩ (.slice v3a (i + 1) v3c) = w3 at *
      have A4 := hide (H3.out.app_sure (i := i) (sv := .slice ua i uc) l4 eu)
      have c4 : w3.cell? ⟨p, 4, none⟩ = some (.slice ua i uc) := by rw [← eu]; exact H3.out.pl.c 4
      clear c3 x3c x3f A3 H2
      go_wp2_with (at_builtin; refine wpList_append_own_at _ rfl _ _ 34 rfl 0 4 ib (.bool false) 1 1 Try.underlying34 hib hb0 hb1 hb2 rfl (by decide) (.slice ua i uc) i ((bN i).sure.map Value.bool) rfl A4.out.1 ⟨w3.heap.size, 0, none⟩ 1 1 [.bool true] rfl rfl (cellOneP w3 _ _) (by simp [Value.oneCell']) (by unfold maxLen; omega) (by omega) (Nat.zero_le _) ?_; intro v4 x4 ho3 hg3 hnn hat; clear hnn; obtain ⟨v4a, v4c, rfl⟩ := own_slice ho3; obtain ⟨⟨x4u, x4c⟩, x4f, x4p⟩ := A4.out.2 _ x4 ho3 hg3 hat; have H4 := hide x4p; clear ho3 hg3 hat x4p)
      go_roundw
      case rel =>
        refine ⟨i + 1, ?K, int_congrP (by omega), by omega, ?_, ?_⟩
        rotate_left
        · rw [bN_succ]; exact H4.out
        · exact hmv
      case measure => simp [intOf]; omega
    · have iI : ¬ (i : Int) < 8 * (m : Int) := by omega
      obtain rfl : i = 8 * m := by omega
      have hmk : ∀ X, Sem.run Try.prog (Instr.makeSlice 23 (.int .i64 (m : Int)) (.int .i64 (m : Int))) X = .ok (.slice (some ⟨X.heap.size, 0, none⟩) m m) (X.alloc (.cells (madeCells #[.int .i64 0] m) 3)) := fun X => by
        have h := run_make (P := Try.prog) X 23 3 ii (.int .i64 0) Try.underlying23 hii hii0 .i64 .i64 m m (by omega) (by omega) (by rw [hii2]; omega) (by omega)
        simp only [hii1, Nat.mul_one, Int.toNat_natCast] at h
        exact h
      have hml : (madeCells #[Value.int .i64 0] m).toList = (List.replicate m 0).map MI := by rw [toList_madeCells_one, List.map_replicate]; rfl
      obtain ⟨⟨u5, c5⟩, f5, hpb⟩ := hpl.put_marks hmv rfl (madeCells #[Value.int .i64 0] m) hml (by omega)
      generalize madeCells #[Value.int .i64 0] m = mc at *
      have hpd : Pd w ((wr.alloc (.cells mc 3)).setCell ⟨p, 5, none⟩ (.slice (some ⟨wr.heap.size, 0, none⟩) m m)) p b { K with mv := .slice (some ⟨wr.heap.size, 0, none⟩) m m } L (bnew m) (newD m) := by
        have hw3 := HB.out
        refine ⟨hpb.pl, HD.out.below hpb.bel, by rw [HN.out]; exact Nat.zero_le _, fun k h1 h2 => ?_, fun k h1 => Nat.le_trans hw3.size (hpb.foot k h1), HF.out, hw3.trans (hpb.bel.mono hw3.size)⟩
        have q1 := hpb.foot k h1
        have q2 := HD.out.foot_is h2
        omega
      have HPD := hide hpd
      have HST := hide (show StepOk (bnew m) (newD m) from ⟨BkRel.new m1 (by omega), newD_ok m1 (by omega), rfl, rfl, rfl⟩)
      generalize ({ K with mv := .slice (some ⟨wr.heap.size, 0, none⟩) m m } : Kl) = K5 at *
      clear hpd hpb hpl hmv hml HP0
      go_wp2_with (fail)
      try go_frame
      clear hmk c5 f5
      go_loopw [10] (fun iv wx => ∃ (q : Nat) (K : Kl) (L : Lay) (B : Bk) (σ : St), iv = .int .i64 (q : Int) ∧ q ≤ ns ∧ Pd w wx p b K L B σ ∧ StepOk B σ ∧ σ.n = m ∧ σ.ops ≤ q ∧ (∀ l ∈ B.held, l.length ≤ q + 1) ∧ (q = 0 → σ = newD m)) (fun iv _ => (ns - (intOf iv).toNat))
      case atStart => exact ⟨0, K5, L, bnew m, newD m, rfl, Nat.zero_le _, HPD.out, HST.out, rfl, Nat.zero_le _, fun l hl => by have hl : l ∈ List.replicate (8 * m) [0] := hl; rw [List.eq_of_mem_replicate hl]; simp, fun _ => rfl⟩
      case round =>
        obtain ⟨q, K6, L6, B6, σ6, rfl, hq, hpd, hst, hn6, ho6, hc6, hz6⟩ := hrel
        by_cases hqn : q < ns
        · have qI : (q : Int) < (ns : Int) := by omega
          have nsI : (ns : Int) ≤ 1353300000000 := by omega
          obtain ⟨s, hs⟩ : ∃ s, xs[q]? = some s := ⟨_, List.getElem?_eq_getElem (by rw [HNS.out]; exact hqn)⟩
          obtain ⟨g, off, rfl, _, hcl⟩ := (HROW.out.below hpd.bel).at hs
          have d0 := hcl 0 _ rfl
          have d1 := hcl 1 _ rfl
          have d2 := hcl 2 _ rfl
          have d3 := hcl 3 _ rfl
          have d4 := hcl 4 _ rfl
          have d5 := hcl 5 _ rfl
          have d6 := hcl 6 _ rfl
          simp only [Nat.add_zero] at d0
          have ix := fun X => index_step g off q ns c hqn X
          have KP := hide (pd_play s (HXS.out s (List.mem_of_getElem? hs)) hpd hst hn6 (by omega) ho6 (by omega) hc6)
          clear hcl hpd hst ho6 hc6 hz6 hs HROW HXS
          go_wp2_with (go_at_call 24; refine (KP.out).mono ?_; rintro e W7 ⟨rfl, K7, L7, σ7, hr7⟩; have HR7 := hide hr7; clear hr7)
          go_roundw
          case rel =>
            obtain ⟨t1, t2, t3, t4, t5⟩ := HR7.out
            exact ⟨q + 1, K7, L7, _, σ7, int_congrP (by omega), by omega, t1, t2, t3, t4, t5, fun h => by omega⟩
          case measure => simp [intOf]; omega
        · have qI : ¬ (q : Int) < (ns : Int) := by omega
          obtain rfl : q = ns := by omega
          have HFIN := hide (And.intro hpd (And.intro hst (And.intro hn6 (And.intro ho6 (And.intro hc6 hz6)))))
          clear hpd hst ho6 hc6 hz6 hn6
          go_wp2_with (fail)
          go_ret2
          obtain ⟨t1, t2, t3, t4, t5, t6⟩ := HFIN.out
          unfold BegD
          exact ⟨p, b, m, K6, L6, B6, σ6, rfl, t1, t2, t3, HR.out, by omega, t4, t5, fun e => t6 (by have h9 := HNS.out; rw [e] at h9; simpa using h9.symm)⟩
end Go.Proofs.Ytkolhpddeoajjaa
namespace Go.Proofs.Ytkolhpddeoajjaa
open Go.RowKit Go.Shelf
set_option linter.unusedVariables false

set_option maxRecDepth 100000 in
theorem pcb_any (w : World) (c : List Nat) (hc : c.length = 64) : Calls Try.prog 35 #[.agg (c.map B8).toArray] w fun e w' => e = .returned (.slice (some ⟨w.heap.size + 1, 0, none⟩) 64 64) ∧ OwnB w' (w.heap.size + 1) c ∧ Below w.heap.size w w' := by
  obtain ⟨W1, hW1⟩ : ∃ W1, W1 = w.alloc (.cells (c.map B8).toArray 69) := ⟨_, rfl⟩
  have hs1 : W1.heap.size = w.heap.size + 1 := by rw [hW1]; simp
  have hmk : (Instr.makeSlice 28 (.int .i64 64) (.int .i64 64)).run Try.prog W1 = .ok (.slice (some ⟨W1.heap.size, 0, none⟩) 64 64) (W1.alloc (.cells ((List.replicate 64 0).map B8).toArray 5)) := makeB_run 64 (by omega) W1
  have hown : OwnB (W1.alloc (.cells ((List.replicate 64 0).map B8).toArray 5)) (w.heap.size + 1) (List.replicate 64 0) := by rw [← hs1]; exact heapNew W1 _
  have hB : Below w.heap.size w (W1.alloc (.cells ((List.replicate 64 0).map B8).toArray 5)) := by rw [hW1]; exact ((Below.refl _ w).alloc (Nat.le_refl _) _).alloc (by simp) _
  have hrn : (W1.alloc (.cells ((List.replicate 64 0).map B8).toArray 5)).rangeAt w.heap.size 0 (c.map B8) := by
    rw [hW1]
    exact range_all ((((Below.refl _ (w.alloc (.cells (c.map B8).toArray 69))).alloc (Nat.le_refl _) _).block _ (by simp)).trans (heapNew w _))
  have kl := play_any _ (w.heap.size + 1) 64 64 c _ hc (Nat.le_refl _) (Nat.le_refl _) (by simp) hown
  have hsp : splice (List.replicate 64 0) 0 c = c := by
    unfold splice
    rw [hc]
    simp
  rw [hsp] at kl
  rw [hs1] at hmk
  generalize hR : ((List.replicate 64 0).map B8).toArray = R at *
  rw [hW1] at hmk hrn kl hB
  have KL := hide kl
  have HRN := hide hrn
  have HC := hide hc
  have HB := hide hB
  clear kl hrn hR hsp hown hs1 hW1 W1 hc hB
  go_enter Try.func35, Try.ntmps35
  go_wp2_with (first | (refine wpList_load_mid rfl 69 (.tmp 1) rfl w.heap.size 0 (by kernel_rfl) (c.map B8) (.array 8 67) HRN.out (by kernel_rfl) rfl (by rw [List.length_map, HC.out]; kernel_rfl) ?_) | (go_at_call 33; refine (KL.out).mono ?_; rintro e w' ⟨rfl, h1, h2⟩; have H1 := hide h1; have H2 := hide h2; clear h1 h2))
  go_ret
  have h5 := H2.out
  have h6 := HB.out
  refine ⟨rfl, H1.out, h5.1.trans h6.os, h5.2.1.trans h6.tape, h5.2.2.1.trans h6.output, Nat.le_trans h6.size h5.size, fun k hk => (h5.block (Nat.lt_of_lt_of_le hk h6.size) (by omega)).trans (h6.block k hk)⟩
/-- A row of rows of bytes, laid since B. -/
def RowsB (W : World) (B : Nat) (lv : Value) (cs : List (List Nat)) : Prop :=
  ∃ vals : List Value, W.ownsRow B 28 1 lv cs.length vals ∧ vals.length = cs.length ∧ ∀ (i : Nat) (c : List Nat), cs[i]? = some c → ∃ g, vals[i]? = some (.slice (some ⟨g, 0, none⟩) 64 64) ∧ B ≤ g ∧ OwnB W g c
theorem RowsB.nil (W : World) (B : Nat) : RowsB W B (.slice none 0 0) [] := ⟨[], ⟨rfl, .inl ⟨rfl, rfl⟩⟩, rfl, fun i c h => by simp at h⟩
theorem infoRow : ∃ i, Try.prog.info? 28 = some i ∧ i.zero = some (.slice none 0 0) ∧ i.size = 1 ∧ i.bytes = 24 := by
  have h : (Try.prog.info? 28).map (fun i => (i.zero, i.size, i.bytes)) = some (some (.slice none 0 0), 1, 24) := by kernel_rfl
  obtain ⟨i, h1, h2⟩ := Option.map_eq_some_iff.1 h
  simp only [Prod.mk.injEq] at h2
  exact ⟨i, h1, h2.1, h2.2.1, h2.2.2⟩
end Go.Proofs.Ytkolhpddeoajjaa
namespace Go.Proofs.Ytkolhpddeoajjaa
open Go.RowKit Go.Shelf
set_option linter.unusedVariables false

theorem RowsB.below {W W' : World} {B : Nat} {lv : Value} {cs : List (List Nat)} (h : RowsB W B lv cs) (hB : Below W.heap.size W W') : RowsB W' B lv cs := by
  obtain ⟨vals, h1, h2, h3⟩ := h
  refine ⟨vals, ownsRow_of_block h1 (fun g hg => ?_), h2, fun i c hi => ?_⟩
  · obtain ⟨c, hc⟩ := own_type h1 hg
    exact hB.block g (lt_of_heap hc)
  · obtain ⟨g, h4, h5, h6⟩ := h3 i c hi
    exact ⟨g, h4, h5, h6.below hB h6.lt⟩
theorem RowsB.drew {W : World} {B : Nat} {lv : Value} {cs : List (List Nat)} (h : RowsB W B lv cs) : RowsB W.drew B lv cs := h.below (Below.refl _ W).drew
theorem RowsB.more {W2 W3 : World} {B gb : Nat} {lv v' : Value} {cs : List (List Nat)} {vals : List Value} {c : List Nat} (h1 : W2.ownsRow B 28 1 lv cs.length vals) (h2 : vals.length = cs.length) (h3 : ∀ (i : Nat) (c : List Nat), cs[i]? = some c → ∃ g, vals[i]? = some (.slice (some ⟨g, 0, none⟩) 64 64) ∧ B ≤ g ∧ OwnB W2 g c)
    (hgb : B ≤ gb) (hob : OwnB W2 gb c) (hg : W2.grownBy W3 lv.ownBlock) (ho : W3.ownsRow B 28 1 v' (cs.length + 1) (vals ++ [.slice (some ⟨gb, 0, none⟩) 64 64])) : RowsB W3 B v' (cs ++ [c]) := by
  have kk : ∀ g c', OwnB W2 g c' → OwnB W3 g c' := fun g c' hc' => hc'.of_block (hg.block g hc'.lt (fun e => by
    obtain ⟨q, hq⟩ := own_type h1 e.symm
    exact ne_ty hq hc' (by decide) rfl))
  refine ⟨_, by rw [List.length_append, List.length_singleton]; exact ho, by simp [h2], fun i c' hi => ?_⟩
  rw [List.getElem?_append] at hi
  split at hi
  · rename_i hlt
    obtain ⟨g, h4, h5, h6⟩ := h3 i c' hi
    exact ⟨g, by rw [List.getElem?_append_left (by omega)]; exact h4, h5, kk g c' h6⟩
  · rename_i hlt
    have hi0 : i = cs.length := by
      rcases Nat.lt_or_ge (i - cs.length) 1 with h | h
      · omega
      · rw [List.getElem?_eq_none (by simpa using h)] at hi; cases hi
    subst hi0
    simp at hi
    subst hi
    exact ⟨gb, by rw [List.getElem?_append_right (by omega), h2]; simp, hgb, kk gb c hob⟩
theorem cell_one (W : World) (x : Value) (t : TypeId) : ∀ j u, [x][j]? = some u → (W.alloc (.cells #[x] t)).cell? ((⟨W.heap.size, 0, none⟩ : Addr).add j) = some u := fun j u hu => by
  rw [Addr.add_mid, Nat.zero_add, cell8 (heapNew W (.cells #[x] t))]
  simpa using hu
theorem size_one (W : World) (o : Obj) {n : Nat} (h : n ≤ W.heap.size) : n ≤ (W.alloc o).heap.size := by simp; omega
set_option maxRecDepth 100000 in
set_option maxHeartbeats 1000000 in
theorem ppb_any (w : World) (pb n : Nat) (v : Value) (rs : List (List Nat × Nat)) (hR : PastR w pb v n rs) (hn : (exR rs).length ≤ 1400000000000) (hrl : rs.length ≤ 1400000000000) (ht : ∀ r ∈ rs, r.2 ≤ 1400000000000) :
    Calls Try.prog 34 #[.pointer (some ⟨pb, 0, none⟩)] w fun e w' => ∃ lv, e = .returned lv ∧ RowsB w' w.heap.size lv (exR rs) ∧ Below w.heap.size w w' := by
  obtain ⟨ap, ac, hv⟩ := own_slice hR.2.1
  obtain ⟨Z, hzl, hz⟩ := zero_run
  obtain ⟨d, hd, hdr⟩ := struct_run
  obtain ⟨i0, hi, hz0, hz1, hz2⟩ := infoRow
  have c0 : w.cell? ⟨pb, 0, none⟩ = some v := cell8 hR.1 0
  rw [hv] at c0
  have HH := hide hR
  have HV := hide hv
  have HZ := hide hz
  have HZL := hide hzl
  have HD := hide hd
  have HDR := hide hdr
  have HT := hide ht
  have HNN := hide hn
  clear hR hv hz hzl hd hdr ht hn
  generalize hm : rs.length = m at *
  have HM := hide hm
  clear hm
  go_enter Try.func34, Try.ntmps34
  go_wp2
  go_loopw [3, 11] (fun lv iv wr => ∃ j : Nat, iv = .int .i64 (j : Int) ∧ j ≤ m ∧ RowsB wr w.heap.size lv (exR (rs.take j)) ∧ Below w.heap.size w wr) (fun lv iv _ => (m - (intOf iv).toNat))
  case atStart => exact ⟨0, rfl, Nat.zero_le _, RowsB.nil _ _, Below.refl _ _⟩
  case round =>
    obtain ⟨j, rfl, hj, hrw, hB⟩ := hrel
    have hw := HH.out.below hB
    by_cases hlt : j < m
    · obtain ⟨r, hr⟩ : ∃ r, rs[j]? = some r := ⟨_, List.getElem?_eq_getElem (by rw [HM.out]; exact hlt)⟩
      obtain ⟨g, rfl⟩ : ∃ g, ap = some ⟨g, 0, none⟩ := by
        rcases HH.out.2.1.2 with ⟨h1, h2⟩ | ⟨g, cap, cur, h1, _⟩
        · rw [HM.out] at h2; omega
        · rw [HV.out] at h1; cases h1; exact ⟨g, rfl⟩
      have hown := hw.2.1
      rw [HV.out] at hown
      have hrg := row_range hown hw.2.2 hr
      have hrm : r ∈ rs := List.mem_of_getElem? hr
      have hr64 := (hw.2.2 r hrm).1
      have hrl := runC_len r hr64
      have hrt := HT.out r hrm
      have l0 := fun X => index_run g j m ac hlt X
      have hsz : (Try.prog.info? 89).map (·.size) = some (runC r).length := by rw [hrl]; kernel_rfl
      have hsz2 : (Try.prog.info? 89).map (·.size) = some (runC r).toArray.size := by rw [List.size_toArray]; exact hsz
      have hth : (wr.alloc (.cells Z.toArray 89)).there wr.heap.size 0 (runC r).toArray.size := there_row (heapNew wr _) 0 _ (by rw [List.size_toArray, hrl, HZL.out]; omega)
      obtain ⟨n1, n2, n3⟩ := new_row (W := wr) (cur := Z) (vs := runC r) (t := 89) (hrl.trans HZL.out.symm)
      have ct : ((wr.alloc (.cells Z.toArray 89)).setCells wr.heap.size 0 (runC r)).cell? ⟨wr.heap.size, 64, none⟩ = some (.int .i64 (r.2 : Int)) := by
        rw [cell8 n1]
        simp [runC, hr64]
      have hB2 : Below w.heap.size w ((wr.alloc (.cells Z.toArray 89)).setCells wr.heap.size 0 (runC r)) := hB.trans (n2.mono hB.size)
      have hrw2 := hrw.below n2
      have hex : exR (rs.take (j + 1)) = exR (rs.take j) ++ List.replicate r.2 r.1 := by
        rw [List.take_add_one, hr, exR_append]
        simp [exR]
      have hlen : ∀ k, k ≤ r.2 → (exR (rs.take j) ++ List.replicate k r.1).length ≤ 1400000000000 := fun k hk => by
        have h5 : (exR rs).length = (exR (rs.take (j + 1))).length + (exR (rs.drop (j + 1))).length := by rw [← List.length_append, ← exR_append, List.take_append_drop]
        have h6 := HNN.out
        rw [hex] at h5
        simp at h5 ⊢
        omega
      have HS := hide (all_oneCell_toArray (runC_cell r))
      have HRG := hide hrg
      have HSZ := hide hsz
      have HSZ2 := hide hsz2
      have HTH := hide hth
      have HB2 := hide hB2
      have HRW2 := hide hrw2
      have HEX := hide hex
      have HLEN := hide hlen
      have N1 := hide n1
      have HR64 := hide hr64
      have htI : (r.2 : Int) ≤ 1400000000000 := by omega
      have jI : (j : Int) < (m : Int) := by omega
      have hwl := hB.size
      have HWL := hide hwl
      obtain ⟨t, htt⟩ : ∃ t, t = r.2 := ⟨_, rfl⟩
      rw [← htt] at ct htI
      have HTT := hide htt
      clear hown hrg hr64 hrl hsz hsz2 hth n1 n2 n3 hB2 hw hr hrm hB hrt hrw hrw2 hex hlen htt hwl
      go_wp2_with (first | (refine wpList_load_mid rfl 89 (.tmp 13) rfl g (j * 65) (by kernel_rfl) (runC r) d HRG.out HD.out HDR.out HSZ.out ?_) | (refine wpList_alloc_row rfl 89 rfl Z (HZ.out _) ?_) | (refine wpList_store_mid rfl 89 (.tmp 5) (.tmp 14) rfl wr.heap.size 0 (runC r).toArray (by kernel_rfl) (by kernel_rfl) HTH.out HSZ2.out HS.out ?_))
      try go_frame
      generalize hX : (wr.alloc (.cells Z.toArray 89)).setCells wr.heap.size 0 (runC r) = X at *
      clear hX HRG HTH HSZ HSZ2 HS
      generalize wr.heap.size = G at *
      go_loopw [3, 17] (fun lv iv ws => ∃ k : Nat, iv = .int .i64 (k : Int) ∧ k ≤ t ∧ RowsB ws w.heap.size lv (exR (rs.take j) ++ List.replicate k r.1) ∧ Below w.heap.size w ws ∧ ws.heap[G]? = some (.cells (runC r).toArray 89 (0, 0))) (fun lv iv _ => (t - (intOf iv).toNat))
      case atStart => exact ⟨0, rfl, Nat.zero_le _, by simpa using HRW2.out, HB2.out, N1.out⟩
      case round =>
        obtain ⟨k, rfl, hk, hrw, hB, hg5⟩ := hrel
        by_cases hkt : k < t
        · have kI : (k : Int) < (t : Int) := by omega
          have kb := pcb_any wr r.1 HR64.out
          have hrn : wr.rangeAt G 0 (r.1.map B8) := fun q u hu => by
            have hq : q < (r.1.map B8).length := (List.getElem?_eq_some_iff.1 hu).1
            rw [Nat.zero_add]
            refine (cell8 hg5 q).trans ?_
            simp only [runC, List.getElem?_toArray]
            rw [List.getElem?_append_left hq]
            exact hu
          obtain ⟨q, hq⟩ : ∃ q, q = (exR (rs.take j) ++ List.replicate k r.1).length := ⟨_, rfl⟩
          have hq2 : q ≤ 1400000000000 := by rw [hq]; exact HLEN.out k (by rw [← HTT.out]; omega)
          obtain ⟨vals, o1, o2, o3⟩ := hrw
          have HRN := hide hrn
          have KB := hide kb
          have O2 := hide o2
          have O3 := hide o3
          have HB := hide hB
          have HG5 := hide hg5
          have HQ := hide hq
          rw [← hq] at o1
          have O1 := hide o1
          clear hrn kb o1 o2 o3 hB hg5 hq
          go_wp2_with (first | (refine wpList_load_mid rfl 69 (.tmp 20) rfl G 0 (by kernel_rfl) (r.1.map B8) (.array 8 67) HRN.out (by kernel_rfl) rfl (by rw [List.length_map, HR64.out]; kernel_rfl) ?_) | (go_at_call 35; refine (KB.out).mono ?_; rintro e W1 ⟨rfl, hob, hb1⟩; have HOB := hide hob; have HB1 := hide hb1; clear hob hb1; have ho2 : (W1.alloc (.cells #[.slice (some ⟨wr.heap.size + 1, 0, none⟩) 64 64] 28)).ownsRow w.heap.size 28 1 u3 q vals := ownsRow_of_block O1.out (fun g hg => (by obtain ⟨c, hc⟩ := own_type O1.out hg; exact (((Below.refl _ W1).alloc (Nat.le_refl _) _).block g (Nat.lt_of_lt_of_le (lt_of_heap hc) HB1.out.size)).trans (HB1.out.block g (lt_of_heap hc)))); have HO2 := hide ho2; clear ho2) | (at_builtin; refine wpList_append_own_at _ rfl _ _ 46 rfl w.heap.size 28 i0 (.slice none 0 0) 1 24 Try.underlying46 hi hz0 hz1 hz2 rfl (by decide) u3 q vals rfl HO2.out ⟨W1.heap.size, 0, none⟩ 1 1 [.slice (some ⟨wr.heap.size + 1, 0, none⟩) 64 64] rfl rfl (cell_one W1 _ _) (by simp [Value.oneCell']) (by unfold maxLen; omega) (by omega) (size_one W1 _ (Nat.le_trans HB.out.size HB1.out.size)) ?_; intro v1 x1 ho3 hg3 hnn hat; clear hnn hat; have HO3 := hide ho3; have HG3 := hide hg3; clear ho3 hg3))
          go_roundw
          case rel =>
            have hA := (Below.refl _ W1).alloc (Nat.le_refl _) (.cells #[.slice (some ⟨wr.heap.size + 1, 0, none⟩) 64 64] 28)
            have hbb : Below wr.heap.size wr (W1.alloc (.cells #[.slice (some ⟨wr.heap.size + 1, 0, none⟩) 64 64] 28)) := HB1.out.trans (hA.mono HB1.out.size)
            have hown1 : ∀ g, u3.ownBlock = some g → w.heap.size ≤ g := fun g hg => by
              rcases O1.out.2 with ⟨e1, _⟩ | ⟨g', cap, cur, e1, e2, _⟩
              · rw [e1] at hg; cases hg
              · rw [e1] at hg; cases hg; exact e2
            have hm := RowsB.more (cs := exR (rs.take j) ++ List.replicate k r.1) (c := r.1) (gb := wr.heap.size + 1) (by rw [← HQ.out]; exact HO2.out) O2.out (fun i c hi => by
              obtain ⟨g, h4, h5, h6⟩ := O3.out i c hi
              exact ⟨g, h4, h5, h6.below hbb h6.lt⟩) (by have := HB.out.size; omega) (HOB.out.below hA HOB.out.lt) HG3.out (by rw [← HQ.out]; exact HO3.out)
            refine ⟨k + 1, int_congrP (by omega), by omega, by rw [List.replicate_succ', ← List.append_assoc]; exact hm, ?_, ?_⟩
            · have h7 := hbb
              have h8 := HG3.out
              exact ⟨h8.os.trans (h7.os.trans HB.out.os), h8.tape.trans (h7.tape.trans HB.out.tape), h8.output.trans (h7.output.trans HB.out.output), Nat.le_trans HB.out.size (Nat.le_trans h7.size h8.size), fun g hg => (h8.block g (by have := h7.size; have := HB.out.size; omega) (fun e => by have := hown1 g e.symm; omega)).trans ((h7.block g (by have := HB.out.size; omega)).trans (HB.out.block g hg))⟩
            · have h9 := (hbb.block G (lt_of_heap HG5.out)).trans HG5.out
              refine (HG3.out.block G (lt_of_heap h9) (fun e => ?_)).trans h9
              obtain ⟨c, hc⟩ := own_type HO2.out e.symm
              exact ne_ty hc h9 (by decide) rfl
          case measure => simp [intOf]; omega
        · have kI : ¬ (k : Int) < (t : Int) := by omega
          obtain rfl : k = t := by omega
          have HRW := hide hrw
          have HB := hide hB
          clear hrw hB hg5
          go_wp2
          go_roundw
          case rel => exact ⟨j + 1, int_congrP (by omega), by omega, by rw [HEX.out, ← HTT.out]; exact HRW.out, HB.out⟩
          case measure => simp [intOf]; omega
    · have hjm : j = m := by omega
      subst hjm
      have h5 := hrw
      rw [List.take_of_length_le (by rw [HM.out]; exact Nat.le_refl _)] at h5
      have HRW := hide h5
      have HB := hide hB
      clear hrw h5 hw hB
      go_wp2
      go_ret
      exact ⟨_, rfl, HRW.out, HB.out⟩
end Go.Proofs.Ytkolhpddeoajjaa
namespace Go.Proofs.Ytkolhpddeoajjaa
open Go.RowKit Go.Shelf
set_option linter.unusedVariables false

section
variable {w : World} {b : Nat} {L : Lay} {σ : St}
set_option maxRecDepth 100000 in
set_option maxHeartbeats 1000000 in
theorem pcont_any (i : Nat) (h : DevL w b L σ) (hok : σ.Ok) (hi : i < σ.n) : Calls Try.prog 15 #[.pointer (some ⟨b, 0, none⟩), .int .i64 (i : Int)] w fun e w' => ∃ lv, e = .returned lv ∧ RowsB w' w.heap.size lv (σ.past i ++ [σ.line i]) ∧ Below w.heap.size w w' := by
  obtain ⟨i0, hi0, hz0, hz1, hz2⟩ := infoRow
  have hmx := hok.max
  have kn := pnone_any h
  have c1 := h.c1
  have c2 := h.c2
  have iI : (i : Int) < (σ.n : Int) := by omega
  have nI : (σ.n : Int) ≤ 65536 := by omega
  have hwf := wfI (i := i) (by omega)
  have hll := line_len hok hi
  have l0 := fun W => index_line L.sb i σ.n σ.n hi W
  have hfew := hok.few i
  have hopm := hok.opsm
  have KN := hide kn
  have HLL := hide hll
  have HOLD := hide h.old
  have HD := hide h
  have HOK := hide hok
  by_cases hp : σ.past i = []
  · have hof : oldF L σ (i : Int) = none := by unfold oldF; rw [if_neg (fun h => h.2 (by simpa using hp))]
    have HOF := hide hof
    have hlr := line_range h hok hi
    have HLR := hide hlr
    have KB := hide (pcb_any w (σ.line i) hll)
    obtain ⟨vals, o1, o2, o3⟩ := RowsB.nil w w.heap.size
    rw [← hp] at o2 o3
    have O1 := hide o1
    have O2 := hide o2
    have O3 := hide o3
    have HV := hide (Below.refl w.heap.size w)
    obtain ⟨q, hq⟩ : ∃ q, q = (σ.past i).length := ⟨_, rfl⟩
    have hq0 : ([] : List (List Nat)).length = q := by rw [hq, hp]
    rw [hq0] at O1
    have HQ := hide hq
    have hq1 : q ≤ 1400000000000 := by omega
    clear h hok kn hp hof hlr hll o1 o2 o3 hq hq0 hfew hopm
    go_enter Try.func15, Try.ntmps15
    go_wp2_with (first | (go_at_call 31; refine (KN.out).mono ?_; rintro e w' ⟨rfl, hw⟩; obtain rfl := hw.symm) | (at_lookup; refine wpList_look_none rfl (.tmp 27) (.tmp 28) rfl L.ob L.N (oldF L σ) (by kernel_rfl) HOLD.out i (by simp [Act.eval]) hwf HOF.out ?_) | (refine wpList_load_mid rfl 69 (.tmp 41) rfl L.sb (i * 64) (by kernel_rfl) ((σ.line i).map B8) (.array 8 67) HLR.out (by kernel_rfl) rfl (by rw [List.length_map, HLL.out]; kernel_rfl) ?_) | (go_at_call 35; refine (KB.out).mono ?_; rintro e W1 ⟨rfl, hob, hb1⟩; have HOB := hide hob; have HB1 := hide hb1; clear hob hb1; have ho2 : (W1.alloc (.cells #[.slice (some ⟨w.heap.size + 1, 0, none⟩) 64 64] 28)).ownsRow w.heap.size 28 1 (.slice none 0 0) q vals := ownsRow_of_block O1.out (fun g hg => (by obtain ⟨c, hc⟩ := own_type O1.out hg; exact (((Below.refl _ W1).alloc (Nat.le_refl _) _).block g (Nat.lt_of_lt_of_le (lt_of_heap hc) HB1.out.size)).trans (HB1.out.block g (lt_of_heap hc)))); have HO2 := hide ho2; clear ho2) | (at_builtin; refine wpList_append_own_at _ rfl _ _ 46 rfl w.heap.size 28 i0 (.slice none 0 0) 1 24 Try.underlying46 hi0 hz0 hz1 hz2 rfl (by decide) (.slice none 0 0) q vals rfl HO2.out ⟨W1.heap.size, 0, none⟩ 1 1 [.slice (some ⟨w.heap.size + 1, 0, none⟩) 64 64] rfl rfl (cell_one W1 _ _) (by simp [Value.oneCell']) (by unfold maxLen; omega) (by omega) (size_one W1 _ (Nat.le_trans HV.out.size HB1.out.size)) ?_; intro v1 x1 ho3 hg3 hnn hat; clear hnn hat; have HO3 := hide ho3; have HG3 := hide hg3; clear ho3 hg3))
    go_ret
    have hA := (Below.refl _ W1).alloc (Nat.le_refl _) (.cells #[.slice (some ⟨w.heap.size + 1, 0, none⟩) 64 64] 28)
    have hbb : Below w.heap.size w (W1.alloc (.cells #[.slice (some ⟨w.heap.size + 1, 0, none⟩) 64 64] 28)) := HB1.out.trans (hA.mono HB1.out.size)
    have hm := RowsB.more (cs := σ.past i) (c := σ.line i) (gb := w.heap.size + 1) (by rw [← HQ.out]; exact HO2.out) O2.out (fun q c hi => by
      obtain ⟨g, h4, h5, h6⟩ := O3.out q c hi
      exact ⟨g, h4, h5, h6.below hbb h6.lt⟩) (by have := HV.out.size; omega) (HOB.out.below hA HOB.out.lt) HG3.out (by rw [← HQ.out]; exact HO3.out)
    have hown1 : ∀ g, (Value.slice none 0 0).ownBlock = some g → w.heap.size ≤ g := fun g hg => by
      rcases O1.out.2 with ⟨e1, _⟩ | ⟨g', cap, cur, e1, e2, _⟩
      · rw [e1] at hg; cases hg
      · rw [e1] at hg; cases hg; exact e2
    refine ⟨_, rfl, hm, ?_⟩
    have h7 := hbb
    have h8 := HG3.out
    exact ⟨h8.os.trans (h7.os.trans HV.out.os), h8.tape.trans (h7.tape.trans HV.out.tape), h8.output.trans (h7.output.trans HV.out.output), Nat.le_trans HV.out.size (Nat.le_trans h7.size h8.size), fun g hg => (h8.block g (by have := h7.size; have := HV.out.size; omega) (fun e => by have := hown1 g e.symm; omega)).trans ((h7.block g (by have := HV.out.size; omega)).trans (HV.out.block g hg))⟩
  · have hof : oldF L σ (i : Int) = some (L.pb i) := by unfold oldF; rw [if_pos ⟨by omega, by simpa using hp⟩]; simp
    have HOF := hide hof
    obtain ⟨rs, hR, hex⟩ := (h.pasts i hp).runs
    have kp := ppb_any w (L.pb i) _ (L.rv i) rs hR (by rw [hex]; omega) (by have h5 := exR_len rs hR.2.2; rw [hex] at h5; omega) (fun r hr => by
      obtain ⟨q, s, e⟩ := List.append_of_mem hr
      have h1 : (exR rs).length = (σ.past i).length := by rw [hex]
      rw [e, exR_append, exR_cut r.1 s r.2] at h1
      simp at h1
      omega)
    rw [hex] at kp
    have KP := hide kp
    obtain ⟨q, hq⟩ : ∃ q, q = (σ.past i).length := ⟨_, rfl⟩
    have HQ := hide hq
    have hq1 : q ≤ 1400000000000 := by omega
    have hii := hi
    clear h hok kn hp hof hll kp hR hex hq hfew hopm
    go_enter Try.func15, Try.ntmps15
    go_wp2_with (first | (go_at_call 31; refine (KN.out).mono ?_; rintro e w' ⟨rfl, hw⟩; obtain rfl := hw.symm) | (at_lookup; refine wpList_look_some rfl (.tmp 27) (.tmp 28) rfl L.ob L.N (oldF L σ) (by kernel_rfl) HOLD.out i (by simp [Act.eval]) hwf (L.pb i) HOF.out ?_) | (go_at_call 34; refine (KP.out).mono ?_; rintro e V ⟨lv, rfl, hrw, hbv⟩; obtain ⟨vals, o1, o2, o3⟩ := hrw; have HV := hide hbv; have hdv := HD.out.below hbv; have cv1 := hdv.c1; have hlr := line_range hdv HOK.out hii; have HLR := hide hlr; have KB := hide (pcb_any V (σ.line i) HLL.out); rw [← HQ.out] at o1; have O1 := hide o1; have O2 := hide o2; have O3 := hide o3; clear o1 o2 o3 hbv hdv hlr) | (refine wpList_load_mid rfl 69 (.tmp 41) rfl L.sb (i * 64) (by kernel_rfl) ((σ.line i).map B8) (.array 8 67) HLR.out (by kernel_rfl) rfl (by rw [List.length_map, HLL.out]; kernel_rfl) ?_) | (go_at_call 35; refine (KB.out).mono ?_; rintro e W1 ⟨rfl, hob, hb1⟩; have HOB := hide hob; have HB1 := hide hb1; clear hob hb1; have ho2 : (W1.alloc (.cells #[.slice (some ⟨V.heap.size + 1, 0, none⟩) 64 64] 28)).ownsRow w.heap.size 28 1 lv q vals := ownsRow_of_block O1.out (fun g hg => (by obtain ⟨c, hc⟩ := own_type O1.out hg; exact (((Below.refl _ W1).alloc (Nat.le_refl _) _).block g (Nat.lt_of_lt_of_le (lt_of_heap hc) HB1.out.size)).trans (HB1.out.block g (lt_of_heap hc)))); have HO2 := hide ho2; clear ho2) | (at_builtin; refine wpList_append_own_at _ rfl _ _ 46 rfl w.heap.size 28 i0 (.slice none 0 0) 1 24 Try.underlying46 hi0 hz0 hz1 hz2 rfl (by decide) lv q vals rfl HO2.out ⟨W1.heap.size, 0, none⟩ 1 1 [.slice (some ⟨V.heap.size + 1, 0, none⟩) 64 64] rfl rfl (cell_one W1 _ _) (by simp [Value.oneCell']) (by unfold maxLen; omega) (by omega) (size_one W1 _ (Nat.le_trans HV.out.size HB1.out.size)) ?_; intro v1 x1 ho3 hg3 hnn hat; clear hnn hat; have HO3 := hide ho3; have HG3 := hide hg3; clear ho3 hg3))
    go_ret
    have hA := (Below.refl _ W1).alloc (Nat.le_refl _) (.cells #[.slice (some ⟨V.heap.size + 1, 0, none⟩) 64 64] 28)
    have hbb : Below V.heap.size V (W1.alloc (.cells #[.slice (some ⟨V.heap.size + 1, 0, none⟩) 64 64] 28)) := HB1.out.trans (hA.mono HB1.out.size)
    have hm := RowsB.more (cs := σ.past i) (c := σ.line i) (gb := V.heap.size + 1) (by rw [← HQ.out]; exact HO2.out) O2.out (fun q c hi => by
      obtain ⟨g, h4, h5, h6⟩ := O3.out q c hi
      exact ⟨g, h4, h5, h6.below hbb h6.lt⟩) (by have := HV.out.size; omega) (HOB.out.below hA HOB.out.lt) HG3.out (by rw [← HQ.out]; exact HO3.out)
    have hown1 : ∀ g, lv.ownBlock = some g → w.heap.size ≤ g := fun g hg => by
      rcases O1.out.2 with ⟨e1, _⟩ | ⟨g', cap, cur, e1, e2, _⟩
      · rw [e1] at hg; cases hg
      · rw [e1] at hg; cases hg; exact e2
    refine ⟨_, rfl, hm, ?_⟩
    have h7 := hbb
    have h8 := HG3.out
    exact ⟨h8.os.trans (h7.os.trans HV.out.os), h8.tape.trans (h7.tape.trans HV.out.tape), h8.output.trans (h7.output.trans HV.out.output), Nat.le_trans HV.out.size (Nat.le_trans h7.size h8.size), fun g hg => (h8.block g (by have := h7.size; have := HV.out.size; omega) (fun e => by have := hown1 g e.symm; omega)).trans ((h7.block g (by have := HV.out.size; omega)).trans (HV.out.block g hg))⟩
end
end Go.Proofs.Ytkolhpddeoajjaa
namespace Go.Proofs.Ytkolhpddeoajjaa
open Go.RowKit
set_option linter.unusedVariables false

def bitStep (r : Nat) : Nat := if r % 2 = 1 then (r / 2) ^^^ 2197175160 else r / 2
def bitSteps : Nat → Nat → Nat
  | 0, r => r
  | n + 1, r => bitStep (bitSteps n r)
def byteStep (r x : Nat) : Nat := bitSteps 8 (r ^^^ x)
def runs (r : Nat) (bs : List Nat) : Nat := bs.foldl byteStep r
def moreV (s : Nat) (bs : List Nat) : Nat := 4294967295 ^^^ runs (4294967295 ^^^ s) bs

theorem bitStep_lt (r : Nat) (h : r < 4294967296) : bitStep r < 4294967296 := by
  unfold bitStep
  split
  · exact Nat.xor_lt_two_pow (n := 32) (by omega) (by omega)
  · omega
theorem bitSteps_lt (n r : Nat) (h : r < 4294967296) : bitSteps n r < 4294967296 := by
  induction n with
  | zero => exact h
  | succ n ih => exact bitStep_lt _ ih
theorem xor_lt32 (a b : Nat) (ha : a < 4294967296) (hb : b < 4294967296) : a ^^^ b < 4294967296 := Nat.xor_lt_two_pow (n := 32) ha hb
theorem byteStep_lt (r x : Nat) (h : r < 4294967296) (hx : x < 256) : byteStep r x < 4294967296 := bitSteps_lt 8 _ (xor_lt32 _ _ h (by omega))
theorem runs_snoc (r : Nat) (bs : List Nat) (x : Nat) : runs r (bs ++ [x]) = byteStep (runs r bs) x := by simp [runs]
theorem runs_append (r : Nat) (a b : List Nat) : runs r (a ++ b) = runs (runs r a) b := by simp [runs]
theorem runs_lt (r : Nat) (bs : List Nat) (h : r < 4294967296) (hb : ∀ x ∈ bs, x < 256) : runs r bs < 4294967296 := by
  induction bs generalizing r with
  | nil => exact h
  | cons x t ih => exact ih (byteStep r x) (byteStep_lt _ _ h (hb x (by simp))) (fun y hy => hb y (by simp [hy]))
theorem moreV_lt (s : Nat) (bs : List Nat) (h : s < 4294967296) (hb : ∀ x ∈ bs, x < 256) : moreV s bs < 4294967296 :=
  xor_lt32 _ _ (by omega) (runs_lt _ _ (xor_lt32 _ _ (by omega) h) hb)
theorem moreV_append (s : Nat) (a b : List Nat) : moreV s (a ++ b) = moreV (moreV s a) b := by
  unfold moreV
  rw [runs_append, ← Nat.xor_assoc, Nat.xor_self, Nat.zero_xor]
theorem moreV_nil (s : Nat) : moreV s [] = s := by
  unfold moreV runs
  rw [List.foldl_nil, ← Nat.xor_assoc, Nat.xor_self, Nat.zero_xor]

theorem step_eq (Q : Nat) (h : Q < 4294967296) :
    bits BinOp.xor IntKind.u32 ((Q : Int) / 2) (bits BinOp.and IntKind.u32 2197175160 (-bits BinOp.and IntKind.u32 (Q : Int) 1 % 4294967296)) = ((bitStep Q : Nat) : Int) := by
  have e1 : bits BinOp.and IntKind.u32 (Q : Int) 1 = ((Q % 2 : Nat) : Int) := by
    have := u32_and_nat Q 1 h (by omega)
    rw [Nat.and_one_is_mod] at this
    exact this
  rw [e1]
  have e2 : ((Q : Int) / 2) = ((Q / 2 : Nat) : Int) := by omega
  rw [e2]
  unfold bitStep
  rcases Nat.mod_two_eq_zero_or_one Q with h0 | h1
  · rw [h0, if_neg (by omega)]
    have e3 : bits BinOp.and IntKind.u32 2197175160 (-((0 : Nat) : Int) % 4294967296) = ((0 : Nat) : Int) := by
      have := u32_and_nat 2197175160 0 (by omega) (by omega)
      simpa using this
    rw [e3]
    have := u32_xor_nat (Q / 2) 0 (by omega) (by omega)
    simpa using this
  · rw [h1, if_pos rfl]
    have e3 : bits BinOp.and IntKind.u32 2197175160 (-((1 : Nat) : Int) % 4294967296) = ((2197175160 : Nat) : Int) := by
      have := u32_and_nat 2197175160 4294967295 (by omega) (by omega)
      have e4 : (2197175160 &&& 4294967295 : Nat) = 2197175160 := by decide
      rw [e4] at this
      exact this
    rw [e3]
    exact u32_xor_nat (Q / 2) 2197175160 (by omega) (by omega)

theorem inv_eq (s : Nat) (h : s < 4294967296) : bits BinOp.xor IntKind.u32 IntKind.u32.max (s : Int) = ((4294967295 ^^^ s : Nat) : Int) :=
  u32_xor_nat 4294967295 s (by omega) h
theorem mix_eq (r x : Nat) (h : r < 4294967296) (hx : x < 256) : bits BinOp.xor IntKind.u32 (r : Int) (x : Int) = ((r ^^^ x : Nat) : Int) :=
  u32_xor_nat r x h (by omega)
theorem int_congr {k : IntKind} {a b : Int} (h : a = b) : Value.int k a = Value.int k b := by rw [h]
theorem ret_int {k : IntKind} {a b : Int} (h : a = b) : Ending.returned (.int k a) = .returned (.int k b) := by rw [h]

def sumV (rs : List (List Nat)) : Nat := moreV 0 rs.flatten
theorem sumV_snoc (rs : List (List Nat)) (r : List Nat) : sumV (rs ++ [r]) = moreV (sumV rs) r := by
  unfold sumV
  rw [List.flatten_append, moreV_append]
  simp
theorem sumV_lt (rs : List (List Nat)) (h : ∀ r ∈ rs, ∀ x ∈ r, x < 256) : sumV rs < 4294967296 :=
  moreV_lt 0 _ (by omega) (fun x hx => by obtain ⟨r, hr, hxr⟩ := List.mem_flatten.1 hx; exact h r hr x hxr)

end Go.Proofs.Ytkolhpddeoajjaa
namespace Go.Proofs.Ytkolhpddeoajjaa
open Go.RowKit
set_option linter.unusedVariables false

theorem ownB_of_owns {W : World} {base g : Nat} {bs : List Nat} (h : W.ownsRow base 5 1 (.slice (some ⟨g, 0, none⟩) bs.length bs.length) bs.length (bs.map B8)) : OwnB W g bs := by
  rcases h.2 with ⟨h0, _⟩ | ⟨g', cap, cur, hv, _, hg, hn, _, hs, hc⟩
  · cases h0
  · cases hv
    have e : cur = (bs.map B8).toArray := by
      apply Array.ext'
      rw [← hc, List.take_of_length_le (by simp [hs])]
    rw [e] at hg
    exact hg

theorem eqBytes_len (a b : Option Addr) (n m c d : Nat) (w : World) (h : ((n : Int) != (m : Int)) = true) :
    Calls Try.prog 16 #[.slice a n c, .slice b m d] w fun e w' => e = .returned (.bool false) ∧ w' = w := by
  go_enter Try.func16, Try.ntmps16
  go_wp2
  go_ret
  exact ⟨rfl, rfl⟩

set_option maxHeartbeats 400000 in
theorem eqBytes_same (a b : Option Addr) (c d : Nat) (xs ys : List Nat) (w : World) (ha : Sl w a xs) (hb : Sl w b ys) (hl : xs.length = ys.length) (hm : xs.length ≤ 9223372036854775807) :
    Calls Try.prog 16 #[.slice a xs.length c, .slice b xs.length d] w fun e w' => e = .returned (.bool (decide (xs = ys))) ∧ ∃ n, w' = w.drewN n := by
  have HL := hide hl
  clear hl
  have hne : ((xs.length : Int) != (xs.length : Int)) = false := by simp
  go_enter Try.func16, Try.ntmps16
  go_wp2
  go_loopw [5] (fun i wr => ∃ k n : Nat, k ≤ xs.length ∧ i = .int .i64 k ∧ xs.take k = ys.take k ∧ wr = w.drewN n) (fun i _ => xs.length - (intOf i).toNat)
  case atStart => exact ⟨0, 0, by omega, rfl, rfl, rfl⟩
  case round =>
    obtain ⟨k, n, hk, rfl, htk, rfl⟩ := hrel
    have HT := hide htk
    clear htk
    by_cases hlt : k < xs.length
    · obtain ⟨x, hx⟩ : ∃ x, xs[k]? = some x := ⟨_, List.getElem?_eq_getElem hlt⟩
      obtain ⟨y, hy⟩ : ∃ y, ys[k]? = some y := ⟨_, List.getElem?_eq_getElem (by have := HL.out; omega)⟩
      obtain ⟨b1, o1, rfl, _, hs1⟩ : ∃ b off, a = some ⟨b, off, none⟩ ∧ b < w.heap.size ∧ Seg w b off xs := by
        rcases ha with rfl | h
        · simp at hlt
        · exact h
      obtain ⟨b2, o2, rfl, _, hs2⟩ : ∃ b0 off, b = some ⟨b0, off, none⟩ ∧ b0 < w.heap.size ∧ Seg w b0 off ys := by
        rcases hb with rfl | h
        · simp at hy
        · exact h
      have c1 := (hs1 k x hx).1
      have c2 := (hs2 k y hy).1
      have HX := hide hx
      have HY := hide hy
      clear hx hy hs1 hs2 ha hb
      have hki : (k : Int) < (xs.length : Int) := by omega
      by_cases hxy : x = y
      · have hb1 : ((x : Int) != (y : Int)) = false := by simp [hxy]
        have HXY := hide hxy
        clear hxy
        go_wp2
        go_quiet (fail)
        go_wp2
        go_roundw
        case rel =>
          refine ⟨k + 1, n + nq, by omega, by go_num, ?_, rfl⟩
          rw [List.take_add_one, List.take_add_one, HX.out, HY.out, HT.out, HXY.out]
        case measure => simp [intOf]; omega
      · have hb1 : ((x : Int) != (y : Int)) = true := by simp; omega
        have HXY := hide hxy
        clear hxy
        go_wp2
        go_quiet (fail)
        go_wp2
        go_ret
        refine ⟨ret_bool (Eq.symm (decide_eq_false fun h => HXY.out ?_)), n + nq, by simp⟩
        have h1 := HX.out
        rw [h, HY.out] at h1
        exact (Option.some.inj h1).symm
    · have hkk : k = xs.length := by omega
      subst hkk
      go_wp2
      go_ret
      refine ⟨ret_bool (Eq.symm (decide_eq_true ?_)), _, rfl⟩
      have h1 := HT.out
      rw [List.take_length, HL.out, List.take_length] at h1
      exact h1

theorem eqBytes_any (a b : Option Addr) (c d : Nat) (xs ys : List Nat) (w : World) (ha : Sl w a xs) (hb : Sl w b ys) (hm : xs.length ≤ 9223372036854775807) :
    Calls Try.prog 16 #[.slice a xs.length c, .slice b ys.length d] w fun e w' => e = .returned (.bool (decide (xs = ys))) ∧ ∃ n, w' = w.drewN n := by
  by_cases hl : xs.length = ys.length
  · have h := eqBytes_same a b c d xs ys w ha hb hl hm
    rw [← hl]
    exact h
  · refine (eqBytes_len a b xs.length ys.length c d w (by simp; omega)).mono ?_
    rintro e w' ⟨rfl, rfl⟩
    exact ⟨ret_bool (Eq.symm (decide_eq_false fun h => hl (by rw [h]))), 0, rfl⟩

/-- The mark at a place. -/
def markAt (i : Nat) : Nat := (165 ^^^ i) % 256
/-- The marks behind a list of so many bytes. -/
def marks (n : Nat) : List Nat := (List.range 80).map fun (j : Nat) => markAt (n + j)
theorem marks_length (n : Nat) : (marks n).length = 80 := by simp [marks]
theorem marks_get (n j : Nat) (h : j < 80) : (marks n)[j]? = some (markAt (n + j)) := by simp [marks, h]
theorem mark_eq (i : Nat) (h : i ≤ 9223372036854775807) : IntKind.u8.wrap (bits BinOp.xor IntKind.i64 165 (i : Int)) = ((markAt i : Nat) : Int) := by
  have hx : 165 ^^^ i < 2 ^ 63 := Nat.xor_lt_two_pow (by omega) (by omega)
  have e : bits BinOp.xor IntKind.i64 165 (i : Int) = ((165 ^^^ i : Nat) : Int) := by
    show IntKind.i64.wrap ((BitVec.ofInt 64 (((165 : Nat)) : Int) ^^^ BitVec.ofInt 64 (i : Int)).toNat : Int) = _
    rw [BitVec.toNat_xor, ofInt_u64 165 (by omega), ofInt_u64 i (by omega), IntKind.wrap_i64]
    omega
  rw [e, IntKind.wrap_u8']
  unfold markAt
  omega

/-- The head of a row of the call's own. -/
theorem OwnB.head {w : World} {g : Nat} {bs sp : List Nat} (h : OwnB w g (bs ++ sp)) (hx : ∀ x ∈ bs, x < 256) : Sl w (some ⟨g, 0, none⟩) bs := by
  refine .inr ⟨g, 0, rfl, h.lt, fun i x hi => ⟨?_, hx x (List.mem_of_getElem? hi)⟩⟩
  rw [Nat.zero_add]
  exact h.cell i x (by rw [List.getElem?_append_left (List.getElem?_eq_some_iff.1 hi).1]; exact hi)

theorem markAt_lt (i : Nat) : markAt i < 256 := Nat.mod_lt _ (by omega)

theorem sl_of_owns {W : World} {base : Nat} {v : Value} {bs : List Nat} (h : W.ownsRow base 5 1 v bs.length (bs.map B8)) (hx : ∀ x ∈ bs, x < 256) : ∃ a cap, v = .slice a bs.length cap ∧ Sl W a bs := by
  rcases h.2 with ⟨rfl, h0⟩ | ⟨g, cap, cur, rfl, _, hg, hn, _, hs, hc⟩
  · exact ⟨none, 0, by rw [h0], .inl (List.eq_nil_of_length_eq_zero h0)⟩
  · refine ⟨_, cap, rfl, .inr ⟨g, 0, rfl, (Array.getElem?_eq_some_iff.1 hg).1, fun i x hx' => ⟨?_, hx x (List.mem_of_getElem? hx')⟩⟩⟩
    have h1 : (bs.map B8)[i]? = some (B8 x) := by rw [List.getElem?_map, hx']; rfl
    have h2 : i < bs.length := (List.getElem?_eq_some_iff.1 hx').1
    rw [← hc, List.getElem?_take, if_pos (by omega)] at h1
    simp only [Nat.zero_add, World.cell?, hg]
    simpa [B8] using h1

theorem owns_of_ownB {W : World} {base g : Nat} {bs : List Nat} (h : OwnB W g bs) (hb : base ≤ g) (hm : bs.length ≤ maxLen) : W.ownsRow base 5 1 (.slice (some ⟨g, 0, none⟩) bs.length bs.length) bs.length (bs.map B8) :=
  ⟨by simp, .inr ⟨g, bs.length, _, rfl, hb, h, Nat.le_refl _, hm, by simp, by rw [List.take_of_length_le (by simp)]⟩⟩

theorem src {w w' : World} {ad : Addr} {bs : List Nat} (h : Sl w (some ad) bs) (hb : Below w.heap.size w w') : ∀ j u, (bs.map B8)[j]? = some u → w'.cell? (ad.add j) = some u := by
  intro j u hu
  rcases h with rfl | ⟨b, off, he, hl, hs⟩
  · simp at hu
  · cases he
    rw [List.getElem?_map] at hu
    obtain ⟨x, hx, rfl⟩ := Option.map_eq_some_iff.1 hu
    have e : (⟨b, off, none⟩ : Addr).add j = ⟨b, off + j, none⟩ := by simp [Addr.add]
    rw [e]
    exact (hb.cell (p := ⟨b, off + j, none⟩) hl).trans (hs j x hx).1

/-- 'append(x, y...)' on bytes, x the call's own, y whatever came in or was made. -/
theorem wpList_app_bytes {w : World} {ops : Array Oper} {rest : List Oper} {o : Oper} {a : Act} {Q : Exit → Act → World → Prop} (hgd : o.guard = none) (s x : Operand)
    (ho : o.op = .call { callee := .builtin .append, args := #[s, x], argTypes := #[28, 28] })
    (base : Nat) (v : Value) (xs : List Nat) (hs : a.eval s = v) (hown : w.ownsRow base 5 1 v xs.length (xs.map B8))
    (a1 : Option Addr) (c : Nat) (ys : List Nat) (hx : a.eval x = .slice a1 ys.length c) (hnil : a1 = none → c = 0) (hys : Sl w a1 ys) (hb : xs.length + ys.length ≤ 140737488355328) (hbase : base ≤ w.heap.size)
    (h : ∀ v' w', w'.ownsRow base 5 1 v' (xs ++ ys).length ((xs ++ ys).map B8) → Below base w w' → wpList Try.prog ops Q rest (a.put o.dst v') w') : wpList Try.prog ops Q (o :: rest) a w := by
  obtain ⟨i0, hi, hz0, hz1, hz2⟩ := info_parts Try.info5
  cases a1 with
  | none =>
    obtain rfl : ys = [] := by
      rcases hys with h0 | ⟨b, off, h0, _⟩
      · exact h0
      · cases h0
    rw [hnil rfl] at hx
    refine wpList_append_own_none hgd s x 28 ho base 5 i0 1 Try.underlying28 hi v xs.length (xs.map B8) hs hown hx (h v w ?_ (Below.refl _ _))
    simpa using hown
  | some ad =>
    refine wpList_append_own w hgd s x 28 ho base 5 i0 (.int .u8 0) 1 1 Try.underlying28 hi hz0 hz1 hz2 rfl (by omega) v xs.length (xs.map B8) hs hown ad ys.length c (ys.map B8) hx (by simp) (src hys (Below.refl _ _)) (B8_one ys)
      (by unfold maxLen; omega) (by omega) hbase fun v' w' h1 h2 _ => h v' w' ?_ ?_
    · simpa using h1
    · exact (Below.refl _ _).grown h2 hbase fun k e => (hown.lt k e).1

end Go.Proofs.Ytkolhpddeoajjaa
namespace Go.Proofs.Ytkolhpddeoajjaa
open Go.RowKit Go.Shelf
set_option linter.unusedVariables false

/-- A device that was laid since w, and nothing else has changed. -/
structure At (w W : World) (b : Nat) (L : Lay) (σ : St) : Prop where
  dev : DevL W b L σ
  ok : σ.Ok
  num : L.N ≤ σ.ops
  foot : ∀ k, Foot b L σ k → w.heap.size ≤ k
  bel : Below w.heap.size w W
theorem At.step {w W W' : World} {b : Nat} {L L' : Lay} {σ σ' : St} (h : At w W b L σ) (hd : DevL W' b L' σ') (hok : σ'.Ok) (hf : ∀ k, Foot b L' σ' k → Foot b L σ k ∨ W.heap.size ≤ k) {X : Nat → Prop} (hX : ∀ k, X k → Foot b L σ k) (hg : Gr X W W') (hN : L'.N ≤ σ'.ops) : At w W' b L' σ' := by
  refine ⟨hd, hok, hN, fun k hk => ?_, hg.1.trans h.bel.os, hg.2.1.trans h.bel.tape, hg.2.2.1.trans h.bel.output, Nat.le_trans h.bel.size hg.size, fun k hk => (hg.block (Nat.lt_of_lt_of_le hk h.bel.size) (fun hx => by have := h.foot k (hX k hx); omega)).trans (h.bel.block k hk)⟩
  rcases hf k hk with h1 | h1
  · exact h.foot k h1
  · exact Nat.le_trans h.bel.size h1
theorem At.below {w W W' : World} {b : Nat} {L : Lay} {σ : St} (h : At w W b L σ) (hB : Below W.heap.size W W') : At w W' b L σ := ⟨h.dev.below hB, h.ok, h.num, h.foot, h.bel.trans (hB.mono h.bel.size)⟩
def s0 : St := newD 2
def s1 : St := writeDo (leB 8 257) 0 s0 (wordsOf 0 8)
def s2 : St := flushDo s1 0
def s3 : St := writeDo (leB 8 5) 8 s2 (wordsOf 8 8)
def s4 : St := fenceDo s3
theorem words0 : wordsOf 0 8 = [0] := by rw [wordsOf_eq 0 8 (by omega)]; rfl
theorem words8 : wordsOf 8 8 = [1] := by rw [wordsOf_eq 8 8 (by omega)]; rfl
theorem s0_ok : s0.Ok := newD_ok (by omega) (by omega)
theorem s1_like : Like s0 s1 1 := by
  have h := write_like (at_ := 0) (leB_lt 8 257) (wordsOf 0 8) s0 s0_ok (by rw [words0]; intro no h; simp at h; subst h; show 0 < 2; omega) (by rw [words0]; show 0 + 1 ≤ _; omega)
  rw [words0] at h
  unfold s1
  rw [words0]
  exact h
theorem s2_ok : s2.Ok := flush_ok s1_like.ok 0 (by rw [s1_like.ops]; show 0 + 1 < _; omega)
theorem s2_ops : s2.ops = 2 := by show s1.ops + 1 = 2; rw [s1_like.ops]; rfl
theorem s3_like : Like s2 s3 1 := by
  have h := write_like (at_ := 8) (leB_lt 8 5) (wordsOf 8 8) s2 s2_ok (by rw [words8]; intro no h; simp at h; subst h; show 0 < s1.n; rw [s1_like.n]; show 0 < 2; omega) (by rw [words8, s2_ops]; show 2 + 1 ≤ _; omega)
  rw [words8] at h
  unfold s3
  rw [words8]
  exact h
theorem s3_ops : s3.ops = 3 := by rw [s3_like.ops, s2_ops]
theorem s4_ok : s4.Ok := fence_ok s3_like.ok (by rw [s3_ops]; omega)
theorem s4_ops : s4.ops = 4 := by show s3.ops + 1 = 4; rw [s3_ops]
theorem s4_n : s4.n = 2 := by show s3.n = 2; rw [s3_like.n]; show s1.n = 2; rw [s1_like.n]; rfl
theorem s4_off : s4.off = false := by show s3.off = false; rw [s3_like.off]; show s1.off = false; rw [s1_like.off]; rfl
theorem s4_arms : s4.arms = [] := by show s3.arms = []; rw [s3_like.arms]; show s1.arms = []; rw [s1_like.arms]; rfl
/-- The line behind the first store. -/
def line1 : List Nat := 1 :: 1 :: List.replicate 62 0
theorem s1_eq : s1.past 0 = [List.replicate 64 0] ∧ s1.line 0 = line1 ∧ s1.fl 0 = none := by
  have e : s1 = wordDo (leB 8 257) 0 s0 0 := by unfold s1; rw [words0]; rfl
  rw [e]
  refine ⟨by kernel_rfl, by kernel_rfl, by kernel_rfl⟩
theorem s4_past : s4.past 0 = [line1] := by
  have e3 : s3 = wordDo (leB 8 5) 8 s2 1 := by unfold s3; rw [words8]; rfl
  have e1 : s1 = wordDo (leB 8 257) 0 s0 0 := by unfold s1; rw [words0]; rfl
  unfold s4
  rw [e3]
  unfold s2
  rw [e1]
  have h : (fenceDo (wordDo (leB 8 5) 8 (flushDo (wordDo (leB 8 257) 0 s0 0) 0) 1)).past 0 = [line1] := by kernel_rfl
  exact h
section
variable {w : World}
theorem a_new : Calls Try.prog 18 #[.int .i64 128] w fun e W => ∃ b L, e = .returned (.tuple #[.pointer (some ⟨b, 0, none⟩), .int .i64 0]) ∧ At w W b L s0 := by
  refine (pnew_any w 2 (by omega) (by omega)).mono ?_
  rintro e W ⟨b, L, rfl, h1, h2, h3, h4⟩
  exact ⟨b, L, rfl, h1, s0_ok, by rw [h4]; exact Nat.zero_le _, h2, h3⟩
variable {W : World} {b : Nat} {L : Lay}
theorem a_st1 (h : At w W b L s0) : Calls Try.prog 19 #[.pointer (some ⟨b, 0, none⟩), .int .i64 0, .int .u64 257] W fun e W' => e = .returned (.int .i64 0) ∧ ∃ L', At w W' b L' s1 := by
  refine (pst8_any (at_ := 0) 257 h.dev h.ok rfl h.num rfl (by show 0 + 600000 ≤ _; omega) rfl (by show 0 + 8 ≤ 64 * 2; omega) (by omega)).mono ?_
  rintro e W' ⟨rfl, L', h1, h2, h3, h4, h5⟩
  refine ⟨rfl, L', h.step h1 s1_like.ok h2 (fun k hk => hk) h3 ?_⟩
  rw [words0] at h4
  have := h.num
  rw [s1_like.ops]
  show L'.N ≤ s0.ops + 1
  simp at h4
  omega
theorem a_fl (h : At w W b L s1) : Calls Try.prog 20 #[.pointer (some ⟨b, 0, none⟩), .int .i64 3] W fun e W' => e = .returned (.int .i64 0) ∧ ∃ L', At w W' b L' s2 := by
  have ho := s1_like.ops
  refine (pflush_any h.dev h.ok (by rw [s1_like.off]; rfl) (by rw [s1_like.arms]; rfl) 3 (by rw [s1_like.n]; show 3 < 64 * 2; omega) (by rw [ho]; show 0 + 1 < _; omega) h.num).mono ?_
  rintro e W' ⟨rfl, L', h1, h2, h3, h4, h5⟩
  refine ⟨rfl, L', h.step h1 s2_ok (fun k hk => .inl (h2 k hk)) (fun k hk => hk) h3 ?_⟩
  have := h.num
  show L'.N ≤ s1.ops + 1
  omega
theorem a_st2 (h : At w W b L s2) : Calls Try.prog 19 #[.pointer (some ⟨b, 0, none⟩), .int .i64 8, .int .u64 5] W fun e W' => e = .returned (.int .i64 0) ∧ ∃ L', At w W' b L' s3 := by
  have hn : s2.n = 2 := by show s1.n = 2; rw [s1_like.n]; rfl
  refine (pst8_any (at_ := 8) 5 h.dev h.ok (by show s1.off = false; rw [s1_like.off]; rfl) h.num (by show s1.arms = []; rw [s1_like.arms]; rfl) (by rw [s2_ops]; omega) rfl (by rw [hn]; omega) (by omega)).mono ?_
  rintro e W' ⟨rfl, L', h1, h2, h3, h4, h5⟩
  refine ⟨rfl, L', h.step h1 s3_like.ok h2 (fun k hk => hk) h3 ?_⟩
  rw [words8] at h4
  have := h.num
  rw [s3_like.ops]
  simp at h4
  omega
theorem a_fen (h : At w W b L s3) : Calls Try.prog 21 #[.pointer (some ⟨b, 0, none⟩)] W fun e W' => e = .returned (.int .i64 0) ∧ ∃ L', At w W' b L' s4 := by
  refine (pfence_any h.dev h.ok s4_off s4_arms (by rw [s3_ops]; omega)).mono ?_
  rintro e W' ⟨rfl, L', h1, h2, h3, h4⟩
  refine ⟨rfl, L', h.step h1 s4_ok h2 (fun k hk => hk) h3 ?_⟩
  have := h.num
  show L'.N ≤ s3.ops + 1
  omega
theorem a_ops (h : At w W b L s4) : Calls Try.prog 22 #[.pointer (some ⟨b, 0, none⟩)] W fun e W' => e = .returned (.int .i64 4) ∧ W' = W := by
  have k := pops_any h.dev
  rw [s4_ops] at k
  exact k
theorem a_con (h : At w W b L s4) : Calls Try.prog 15 #[.pointer (some ⟨b, 0, none⟩), .int .i64 0] W fun e W' => ∃ a c, e = .returned (.slice a 2 c) ∧ At w W' b L s4 := by
  refine (pcont_any 0 h.dev h.ok (by rw [s4_n]; omega)).mono ?_
  rintro e W' ⟨lv, rfl, ⟨vals, h1, h2, h3⟩, h4⟩
  obtain ⟨a, c, e⟩ := own_slice h1
  rw [s4_past] at e
  exact ⟨a, c, by rw [e]; rfl, h.below h4⟩
theorem a_cr (h : At w W b L s4) : Calls Try.prog 8 #[.pointer (some ⟨b, 0, none⟩), .slice none 0 0] W fun e W' => e = .returned (.int .i64 0) ∧ ∃ L' σ', Lost s4 [] σ' ∧ At w W' b L' σ' := by
  refine (pcrash_any (a := none) (kp := []) 0 h.dev h.ok s4_off ⟨by simp, .inl ⟨rfl, rfl⟩⟩ (by simp)).mono ?_
  rintro e W' ⟨rfl, L', σ', h1, h2, h3, h4, h5⟩
  refine ⟨rfl, L', σ', h1, h.step h2 (Lost.ok h.ok h1) h3 (fun k hk => hk.elim (fun e => .inl e) (fun e => .inr (.inl e))) h4 ?_⟩
  have := h.num
  rw [h1.ops]
  omega
theorem a_off {σ' : St} (h : At w W b L σ') (hl : Lost s4 [] σ') : Calls Try.prog 11 #[.pointer (some ⟨b, 0, none⟩)] W fun e W' => e = .returned (.bool true) ∧ W' = W := by
  have k := poff_any h.dev
  rw [hl.off] at k
  exact k
theorem a_wake {σ' : St} (h : At w W b L σ') (hl : Lost s4 [] σ') : Calls Try.prog 12 #[.pointer (some ⟨b, 0, none⟩)] W fun e W' => e = .returned (.int .i64 0) ∧ At w W' b L { σ' with off := false } := by
  refine (pwake_off h.dev hl.off).mono ?_
  rintro e W' ⟨rfl, h1, h2⟩
  refine ⟨rfl, h.step h2 ⟨h.ok.pos, h.ok.max, h.ok.len, h.ok.byte, h.ok.out, h.ok.clen, h.ok.cbyte, h.ok.few, h.ok.flp, h.ok.opsm⟩ (fun k hk => .inl hk) (X := fun k => k = b) (fun k hk => .inl hk) ?_ h.num⟩
  rw [h1]
  exact Gr.set W b 7 _ rfl
def bytes16 : List Nat := [1, 1, 0, 0, 0, 0, 0, 0, 0, 0, 0, 0, 0, 0, 0, 0]
theorem a_load {σ' : St} (h : At w W b L { σ' with off := false }) (hl : Lost s4 [] σ') : Calls Try.prog 7 #[.pointer (some ⟨b, 0, none⟩), .int .i64 0, .int .i64 16] W fun e W' => ∃ R, e = .returned (.tuple #[.slice (some ⟨R, 0, none⟩) 16 16, .int .i64 0]) ∧ OwnB W' R bytes16 ∧ Below w.heap.size w W' := by
  have hn : σ'.n = 2 := by rw [hl.n, s4_n]
  refine (callsIn_wide.1 (pload_in (at_ := 0) (n := 16) h.dev h.ok rfl (by show 0 + 16 ≤ 64 * σ'.n; rw [hn]; omega))).mono ?_
  rintro e W' ⟨R, rfl, h1, h2, h3⟩
  refine ⟨R, rfl, ?_, h.bel.trans (h3.mono h.bel.size)⟩
  have hli := hl.lines 0 (by rw [s4_n]; omega)
  have hlost : lost s4 [] 0 = line1 := by unfold lost; rw [s4_past]; rfl
  rw [hlost] at hli
  have hb : (σ'.bytes.drop 0).take 16 = bytes16 := by
    have h5 : (σ'.line 0).take 16 = line1.take 16 := by rw [hli]
    unfold St.line at h5
    rw [List.take_take] at h5
    exact h5
  have h6 : W'.heap[R]? = some (.cells (((σ'.bytes.drop 0).take 16).map B8).toArray 5 (0, 0)) := h2
  rw [hb] at h6
  exact h6
end
end Go.Proofs.Ytkolhpddeoajjaa
namespace Go.Proofs.Ytkolhpddeoajjaa
open Go.RowKit Go.Shelf
set_option linter.unusedVariables false

theorem a_eq {W : World} {R : Nat} (h : OwnB W R bytes16) : Calls Try.prog 16 #[.slice (some ⟨R, 0, none⟩) 16 16, .slice (some ⟨W.heap.size, 0, none⟩) 16 16] (W.alloc (.cells (bytes16.map B8).toArray 5)) fun e w' => e = .returned (.bool true) ∧ Below W.heap.size W w' := by
  have hA : Below W.heap.size W (W.alloc (.cells (bytes16.map B8).toArray 5)) := (Below.refl _ W).alloc (Nat.le_refl _) _
  have h1 : OwnB (W.alloc (.cells (bytes16.map B8).toArray 5)) R bytes16 := h.below hA h.lt
  have h2 : OwnB (W.alloc (.cells (bytes16.map B8).toArray 5)) W.heap.size bytes16 := heapNew W _
  have hb : ∀ x ∈ bytes16, x < 256 := by decide
  refine (eqBytes_any (some ⟨R, 0, none⟩) (some ⟨W.heap.size, 0, none⟩) 16 16 bytes16 bytes16 _ (h1.sl hb) (h2.sl hb) (by decide)).mono ?_
  rintro e w' ⟨rfl, n, rfl⟩
  exact ⟨by simp, below_drewN hA n⟩
set_option maxRecDepth 100000 in
set_option maxHeartbeats 1000000 in
theorem awake_any (w : World) : Calls Try.prog 5 #[] w fun e w' => e = .returned (.bool true) ∧ Below w.heap.size w w' := by
  have K0 := hide (a_new (w := w))
  go_enter Try.func5, Try.ntmps5
  go_wp2_with (first
    | (go_at_call 18; refine (K0.out).mono ?_; rintro e W0 ⟨b, L0, rfl, hA⟩; have K1 := hide (a_st1 hA); clear hA)
    | (go_at_call 19; refine (K1.out).mono ?_; rintro e W1 ⟨rfl, L1, hA⟩; have K2 := hide (a_fl hA); clear hA K1)
    | (go_at_call 20; refine (K2.out).mono ?_; rintro e W2 ⟨rfl, L2, hA⟩; have K3 := hide (a_st2 hA); clear hA)
    | (go_at_call 19; refine (K3.out).mono ?_; rintro e W3 ⟨rfl, L3, hA⟩; have K4 := hide (a_fen hA); clear hA)
    | (go_at_call 21; refine (K4.out).mono ?_; rintro e W4 ⟨rfl, L4, hA⟩; have K5 := hide (a_ops hA); have K6 := hide (a_con hA); clear hA)
    | (go_at_call 22; refine (K5.out).mono ?_; rintro e w' ⟨rfl, hw⟩; obtain rfl := hw.symm)
    | (go_at_call 15; refine (K6.out).mono ?_; rintro e W6 ⟨ca, cc, rfl, hA⟩; have K7 := hide (a_cr hA); clear hA)
    | (go_at_call 8; refine (K7.out).mono ?_; rintro e W7 ⟨rfl, L7, σ7, hl, hA⟩; have K8 := hide (a_off hA hl); have K9 := hide (a_wake hA hl); have HL := hide hl; clear hA hl)
    | (go_at_call 11; refine (K8.out).mono ?_; rintro e w' ⟨rfl, hw⟩; obtain rfl := hw.symm)
    | (go_at_call 12; refine (K9.out).mono ?_; rintro e W9 ⟨rfl, hA⟩; have KA := hide (a_load hA HL.out); clear hA)
    | (go_at_call 7; refine (KA.out).mono ?_; rintro e WA ⟨R, rfl, ho, hb⟩; have KE := hide (a_eq ho); have HB := hide hb; clear ho hb)
    | (go_at_call 16; refine (KE.out).mono ?_; rintro e WE ⟨rfl, he⟩; have HE := hide he; clear he))
  go_ret
  exact ⟨rfl, HB.out.trans (HE.out.mono HB.out.size)⟩
end Go.Proofs.Ytkolhpddeoajjaa
namespace Go.Proofs.Ytkolhpddeoajjaa
open Go.RowKit Go.Shelf
set_option linter.unusedVariables false

/-- A list of ints. -/
def IntsP (W : World) (a : Option Addr) (zs : List Int) : Prop := (∀ z ∈ zs, -9223372036854775808 ≤ z ∧ z ≤ 9223372036854775807) ∧ (zs = [] ∨ ∃ b off, a = some ⟨b, off, none⟩ ∧ b < W.heap.size ∧ ∀ (i : Nat) (z : Int), zs[i]? = some z → W.cell? ⟨b, off + i, none⟩ = some (.int .i64 z))
theorem IntsP.below {W W' : World} {a : Option Addr} {zs : List Int} (h : IntsP W a zs) (hB : Below W.heap.size W W') : IntsP W' a zs := by
  refine ⟨h.1, ?_⟩
  rcases h.2 with h | ⟨b, off, e, hb, hc⟩
  · exact .inl h
  · exact .inr ⟨b, off, e, Nat.lt_of_lt_of_le hb hB.size, fun i z hz => (hB.cell hb).trans (hc i z hz)⟩
theorem IntsP.at {W : World} {a : Option Addr} {zs : List Int} (h : IntsP W a zs) {i : Nat} {z : Int} (hz : zs[i]? = some z) : ∃ b off, a = some ⟨b, off, none⟩ ∧ W.cell? ⟨b, off + i, none⟩ = some (.int .i64 z) ∧ -9223372036854775808 ≤ z ∧ z ≤ 9223372036854775807 := by
  rcases h.2 with h2 | ⟨b, off, e, hb, hc⟩
  · rw [h2] at hz; simp at hz
  · have h3 := h.1 z (List.mem_of_getElem? hz)
    exact ⟨b, off, e, hc i z hz, h3.1, h3.2⟩
/-- No number below 0. -/
def nonneg (zs : List Int) : Bool := zs.all (fun z => decide (0 ≤ z))
theorem nonneg_no {zs : List Int} {i : Nat} {z : Int} (hz : zs[i]? = some z) (h : z < 0) : nonneg zs = false := by
  unfold nonneg
  rw [List.all_eq_false]
  exact ⟨z, List.mem_of_getElem? hz, by simpa using h⟩
theorem nonneg_yes {zs : List Int} (h : ∀ (i : Nat) (z : Int), i < zs.length → zs[i]? = some z → 0 ≤ z) : nonneg zs = true := by
  unfold nonneg
  rw [List.all_eq_true]
  intro z hz
  obtain ⟨i, hi⟩ := List.getElem?_of_mem hz
  simpa using h i z (List.getElem?_eq_some_iff.1 hi).1 hi
set_option maxHeartbeats 400000 in
theorem good_any {w : World} {a : Option Addr} {zs : List Int} (cap m : Nat) (h : IntsP w a zs) (hm : zs.length = m) (hl : m ≤ 17592186043904) : Calls Try.prog 10 #[.slice a m cap] w fun e w' => e = .returned (.bool (nonneg zs)) ∧ w' = w := by
  have H := hide h
  have HM := hide hm
  obtain ⟨g5, hg5⟩ : ∃ g, nonneg zs = g := ⟨_, rfl⟩
  rw [hg5]
  have HG := hide hg5
  clear h hm hg5
  go_enter Try.func10, Try.ntmps10
  go_wp2
  go_loopw [3] (fun iv wr => ∃ j : Nat, iv = .int .i64 (j : Int) ∧ j ≤ m ∧ wr = w ∧ ∀ (i : Nat) (z : Int), i < j → zs[i]? = some z → 0 ≤ z) (fun iv _ => (m - (intOf iv).toNat))
  case atStart => exact ⟨0, rfl, Nat.zero_le _, rfl, fun i z h => by omega⟩
  case round =>
    obtain ⟨j, rfl, hj, rfl, hall⟩ := hrel
    have HALL := hide hall
    clear hall
    by_cases hlt : j < m
    · obtain ⟨k, hk⟩ : ∃ k, zs[j]? = some k := ⟨_, List.getElem?_eq_getElem (by rw [HM.out]; exact hlt)⟩
      obtain ⟨g, o, rfl, hc, hkb⟩ := H.out.at hk
      have l0 := index_int g o j m cap hlt wr
      have jI : (j : Int) < (m : Int) := by omega
      have HK := hide hk
      clear hk
      by_cases kI : k < 0
      · have hgf : g5 = false := HG.out.symm.trans (nonneg_no HK.out kI)
        subst hgf
        go_wp2
        go_ret
        exact ⟨rfl, rfl⟩
      · go_wp2
        go_roundw
        case rel => exact ⟨j + 1, int_congrP (by omega), by omega, trivial, fun i z hi hz => by
          by_cases e : i = j
          · subst e; rw [HK.out] at hz; cases hz; omega
          · exact HALL.out i z (by omega) hz⟩
        case measure => simp [intOf]; omega
    · have jI : ¬ (j : Int) < (m : Int) := by omega
      have hgt : g5 = true := HG.out.symm.trans (nonneg_yes (fun i z hi hz => HALL.out i z (by have := HM.out; omega) hz))
      subst hgt
      go_wp2
      go_ret
      exact ⟨rfl, rfl⟩
set_option maxHeartbeats 400000 in
theorem pmayI {w : World} {a : Option Addr} {zs : List Int} (cap m : Nat) (h : IntsP w a zs) (hm : zs.length = m) (hl : m ≤ 17592186043904) : Calls Try.prog 29 #[.slice a m cap] w fun e w' => e = .returned (.bool (nonneg zs)) ∧ w' = w := by
  have H := hide h
  have HM := hide hm
  obtain ⟨g5, hg5⟩ : ∃ g, nonneg zs = g := ⟨_, rfl⟩
  rw [hg5]
  have HG := hide hg5
  clear h hm hg5
  go_enter Try.func29, Try.ntmps29
  go_wp2
  go_loopw [7] (fun iv wr => ∃ j : Nat, iv = .int .i64 (j : Int) ∧ j ≤ m ∧ wr = w ∧ ∀ (i : Nat) (z : Int), i < j → zs[i]? = some z → 0 ≤ z) (fun iv _ => (m - (intOf iv).toNat))
  case atStart => exact ⟨0, rfl, Nat.zero_le _, rfl, fun i z h => by omega⟩
  case round =>
    obtain ⟨j, rfl, hj, rfl, hall⟩ := hrel
    have HALL := hide hall
    clear hall
    by_cases hlt : j < m
    · obtain ⟨k, hk⟩ : ∃ k, zs[j]? = some k := ⟨_, List.getElem?_eq_getElem (by rw [HM.out]; exact hlt)⟩
      obtain ⟨g, o, rfl, hc, hkb⟩ := H.out.at hk
      have l0 := index_int g o j m cap hlt wr
      have jI : (j : Int) < (m : Int) := by omega
      have HK := hide hk
      clear hk
      by_cases kI : k < 0
      · have hgf : g5 = false := HG.out.symm.trans (nonneg_no HK.out kI)
        subst hgf
        go_wp2
        go_ret
        exact ⟨rfl, rfl⟩
      · go_wp2
        go_roundw
        case rel => exact ⟨j + 1, int_congrP (by omega), by omega, trivial, fun i z hi hz => by
          by_cases e : i = j
          · subst e; rw [HK.out] at hz; cases hz; omega
          · exact HALL.out i z (by omega) hz⟩
        case measure => simp [intOf]; omega
    · have jI : ¬ (j : Int) < (m : Int) := by omega
      have hgt : g5 = true := HG.out.symm.trans (nonneg_yes (fun i z hi hz => HALL.out i z (by have := HM.out; omega) hz))
      subst hgt
      go_wp2
      go_ret
      exact ⟨rfl, rfl⟩
def IZ (z : Int) : Value := .int .i64 z
theorem cellOneK (W : World) (x : Value) (t : TypeId) : ∀ (j : Nat) u, [x][j]? = some u → (W.alloc (.cells #[x] t)).cell? ((⟨W.heap.size, 0, none⟩ : Addr).add j) = some u := fun j u hu => by
  have h := heap_alloc_new W (.cells #[x] t)
  match j, hu with
  | 0, hu =>
    cases hu
    have e : (⟨W.heap.size, 0, none⟩ : Addr).add 0 = ⟨W.heap.size, 0, none⟩ := by simp [Addr.add]
    rw [e, cell8 h 0]
    rfl
  | n + 1, hu => simp at hu
/-- A list of ints, in memory of its own. -/
def OwnI (W : World) (B : Nat) (v : Value) (zs : List Int) : Prop := W.ownsRow B 3 1 v zs.length (zs.map IZ)
set_option maxHeartbeats 800000 in
theorem copyInts_any {w : World} {a : Option Addr} {zs : List Int} (cap m : Nat) (h : IntsP w a zs) (hm : zs.length = m) (hl : m ≤ 17592186043904) : Calls Try.prog 9 #[.slice a m cap] w fun e w' => ∃ ka kc, e = .returned (.slice ka m kc) ∧ OwnI w' w.heap.size (.slice ka m kc) zs ∧ Below w.heap.size w w' := by
  obtain ⟨i0, hi0, hz0, hz1, hz2⟩ := infoInt2
  have H := hide h
  have HM := hide hm
  have mI : (m : Int) ≤ 17592186043904 := by omega
  clear h hm
  go_enter Try.func9, Try.ntmps9
  go_wp2
  go_loopw [3, 4] (fun lv iv wr => ∃ j : Nat, iv = .int .i64 (j : Int) ∧ j ≤ m ∧ wr.ownsRow w.heap.size 3 1 lv j ((zs.take j).map IZ) ∧ Below w.heap.size w wr) (fun lv iv _ => (m - (intOf iv).toNat))
  case atStart => exact ⟨0, rfl, Nat.zero_le _, ⟨rfl, .inl ⟨rfl, rfl⟩⟩, Below.refl _ _⟩
  case round =>
    obtain ⟨j, rfl, hj, hown, hB⟩ := hrel
    by_cases hlt : j < m
    · obtain ⟨z, hz⟩ : ∃ z, zs[j]? = some z := ⟨_, List.getElem?_eq_getElem (by rw [HM.out]; exact hlt)⟩
      obtain ⟨g, off, rfl, hcell, hzb⟩ := (H.out.below hB).at hz
      have ix := fun X => index_int g off j m cap hlt X
      have jI : (j : Int) < (m : Int) := by omega
      have ho2 : (wr.alloc (.cells #[.int .i64 z] 3)).ownsRow w.heap.size 3 1 u3 j ((zs.take j).map IZ) := ownsRow_of_block hown (fun g hg => (by obtain ⟨c, hc⟩ := own_type hown hg; exact ((Below.refl _ wr).alloc (Nat.le_refl _) _).block g (lt_of_heap hc)))
      have hts : (zs.take (j + 1)).map IZ = (zs.take j).map IZ ++ [.int .i64 z] := by
        rw [List.take_add_one, hz]
        simp [IZ]
      have HTS := hide hts
      have HO2 := hide ho2
      have HO1 := hide hown
      have HBX := hide hB
      clear ho2 hown hB hz hzb hts
      go_wp2_with (at_builtin; refine wpList_append_own_at _ rfl _ _ 23 rfl w.heap.size 3 i0 (.int .i64 0) 1 8 Try.underlying23 hi0 hz0 hz1 hz2 rfl (by decide) u3 j ((zs.take j).map IZ) rfl HO2.out ⟨wr.heap.size, 0, none⟩ 1 1 [.int .i64 z] rfl rfl (cellOneK wr _ _) (by simp [Value.oneCell']) (by unfold maxLen; omega) (by omega) (by have := HBX.out.size; rw [World.size_alloc]; omega) ?_; intro v1 x1 ho3 hg3 hnn hat; clear hnn hat; have HO3 := hide ho3; have HG3 := hide hg3; clear ho3 hg3)
      have hbb : Below wr.heap.size wr (wr.alloc (.cells #[.int .i64 z] 3)) := (Below.refl _ wr).alloc (Nat.le_refl _) _
      have hown1 : ∀ g, u3.ownBlock = some g → w.heap.size ≤ g := fun g hg => by
        rcases HO1.out.2 with ⟨e1, _⟩ | ⟨g', cap, cur, e1, e2, _⟩
        · rw [e1] at hg; cases hg
        · rw [e1] at hg; cases hg; exact e2
      refine ⟨⟨j + 1, int_congrP (by omega), by omega, by rw [HTS.out]; exact HO3.out, ?_⟩, by simp [intOf]; omega⟩
      have h7 := hbb
      have h8 := HG3.out
      have h9 := HBX.out
      exact ⟨h8.os.trans (h7.os.trans h9.os), h8.tape.trans (h7.tape.trans h9.tape), h8.output.trans (h7.output.trans h9.output), Nat.le_trans h9.size (Nat.le_trans h7.size h8.size), fun g hg => (h8.block g (by have := h7.size; have := h9.size; omega) (fun e => by have := hown1 g e.symm; omega)).trans ((h7.block g (by have := h9.size; omega)).trans (h9.block g hg))⟩
    · have jI : ¬ (j : Int) < (m : Int) := by omega
      obtain rfl : j = m := by omega
      obtain ⟨ka, kc, rfl⟩ := own_slice hown
      have hfin : OwnI wr w.heap.size (.slice ka j kc) zs := by
        unfold OwnI
        have h5 := hown
        rw [List.take_of_length_le (by rw [HM.out]; exact Nat.le_refl _)] at h5
        rw [HM.out]
        exact h5
      have HF := hide (And.intro hfin hB)
      clear hfin hown hB
      go_wp2
      go_ret
      exact ⟨ka, kc, rfl, HF.out⟩
/-- Such a list, where no number is below 0, is one of what lines keep. -/
theorem OwnI.slN {W : World} {B m : Nat} {ka : Option Addr} {kc : Nat} {zs : List Int} (h : OwnI W B (.slice ka m kc) zs) (hm : zs.length = m) (hb : ∀ z ∈ zs, -9223372036854775808 ≤ z ∧ z ≤ 9223372036854775807) (hn : nonneg zs = true) : SlN W ka (zs.map Int.toNat) := by
  unfold nonneg at hn
  rw [List.all_eq_true] at hn
  refine ⟨fun k hk => ?_, ?_⟩
  · obtain ⟨z, hz, rfl⟩ := List.mem_map.1 hk
    have := hb z hz
    omega
  · unfold OwnI at h
    rw [hm] at h
    rcases h.2 with ⟨e, h0⟩ | ⟨g, cap, cur, e, h1, h2, h3, _, h4, h5⟩
    · have : zs = [] := List.eq_nil_of_length_eq_zero (by omega)
      cases e
      subst this
      exact .inl ⟨rfl, rfl⟩
    · cases e
      refine .inr ⟨g, 0, cur, _, rfl, h2, fun j k hj => ?_⟩
      rw [List.getElem?_map] at hj
      obtain ⟨z, hz, rfl⟩ := Option.map_eq_some_iff.1 hj
      have hlt : j < zs.length := (List.getElem?_eq_some_iff.1 hz).1
      have h6 : (cur.toList.take (m * 1))[j]? = some (IZ z) := by rw [h5, List.getElem?_map, hz]; rfl
      rw [List.getElem?_take, if_pos (by omega)] at h6
      rw [Nat.zero_add, cell8 h2]
      have h0 : 0 ≤ z := by simpa using hn z (List.mem_of_getElem? hz)
      rw [show ((z.toNat : Nat) : Int) = z by omega]
      simpa [IZ] using h6
theorem OwnI.ints {W : World} {B m : Nat} {ka : Option Addr} {kc : Nat} {zs : List Int} (h : OwnI W B (.slice ka m kc) zs) (hm : zs.length = m) (hb : ∀ z ∈ zs, -9223372036854775808 ≤ z ∧ z ≤ 9223372036854775807) : IntsP W ka zs := by
  refine ⟨hb, ?_⟩
  unfold OwnI at h
  rw [hm] at h
  rcases h.2 with ⟨e, h0⟩ | ⟨g, cap, cur, e, h1, h2, h3, _, h4, h5⟩
  · exact .inl (List.eq_nil_of_length_eq_zero (by omega))
  · cases e
    refine .inr ⟨g, 0, rfl, lt_of_heap h2, fun j z hj => ?_⟩
    have hlt : j < zs.length := (List.getElem?_eq_some_iff.1 hj).1
    have h6 : (cur.toList.take (m * 1))[j]? = some (IZ z) := by rw [h5, List.getElem?_map, hj]; rfl
    rw [List.getElem?_take, if_pos (by omega)] at h6
    rw [Nat.zero_add, cell8 h2]
    simpa [IZ] using h6
theorem pcrash_no {w : World} {b : Nat} {L : Lay} {σ : St} {a : Option Addr} {zs : List Int} (cap m : Nat) (hd : DevL w b L σ) (ho : σ.off = false) (h : IntsP w a zs) (hm : zs.length = m) (hl : m ≤ 17592186043904) (hn : nonneg zs = false) : Calls Try.prog 8 #[.pointer (some ⟨b, 0, none⟩), .slice a m cap] w fun e w' => e = .returned (.int .i64 2) ∧ w' = w := by
  have ks := pstate_any hd
  rw [ho] at ks
  simp only [Bool.false_eq_true, if_false] at ks
  have km := pmayI (w := w) cap m h hm hl
  rw [hn] at km
  have KS := hide ks
  have KM := hide km
  clear ks km hd ho h hm hl hn
  go_enter Try.func8, Try.ntmps8
  go_wp2_with (first | (go_at_call 25; refine (KS.out).mono ?_; rintro e w' ⟨rfl, hw⟩; obtain rfl := hw.symm) | (go_at_call 29; refine (KM.out).mono ?_; rintro e w' ⟨rfl, hw⟩; obtain rfl := hw.symm))
  go_ret
  exact ⟨rfl, rfl⟩
end Go.Proofs.Ytkolhpddeoajjaa
namespace Go.Proofs.Ytkolhpddeoajjaa
open Go.RowKit Go.Shelf
set_option linter.unusedVariables false

theorem index_byteN (g o i len cap : Nat) (hi : i < len) (w : World) : (Instr.indexAt 28 (.slice (some ⟨g, o, none⟩) len cap) (.int .i64 (i : Int))).run Try.prog w = .ok (.pointer (some ⟨g, o + i, none⟩)) w := by
  have h := index_at (t := 28) (e := 5) (sz := 1) Try.underlying28 (by kernel_rfl) g o i len cap hi w
  rwa [Nat.mul_one] at h
set_option maxHeartbeats 400000 in
theorem pnumber {w : World} {g o len cap : Nat} {ys : List Nat} (hl : ys.length = 8) (hb : ∀ x ∈ ys, x < 256) (hc : ∀ (j x : Nat), ys[j]? = some x → w.cell? ⟨g, o + j, none⟩ = some (.int .u8 (x : Int))) (h8 : 8 ≤ len) : Calls Try.prog 14 #[.slice (some ⟨g, o, none⟩) len cap] w fun e w' => e = .returned (.int .u64 ((leV ys : Nat) : Int)) ∧ w' = w := by
  have HL := hide hl
  have HB := hide hb
  have HC := hide hc
  obtain ⟨r, hr⟩ : ∃ r, leV ys = r := ⟨_, rfl⟩
  rw [hr]
  have HR := hide hr
  clear hl hb hc hr
  go_enter Try.func14, Try.ntmps14
  go_wp2
  go_loopw [3, 4] (fun vv iv wr => ∃ q v : Nat, q ≤ 8 ∧ iv = .int .i64 ((q : Int) - 1) ∧ vv = .int .u64 (v : Int) ∧ v = leV ((ys.drop q).take (8 - q)) ∧ wr = w) (fun _ iv _ => (intOf iv + 1).toNat)
  case atStart => exact ⟨8, 0, Nat.le_refl _, rfl, rfl, by simp [leV], rfl⟩
  case round =>
    obtain ⟨q, v, hq, rfl, rfl, hv, rfl⟩ := hrel
    cases q with
    | zero =>
      have hvr : v = r := by rw [hv, ← HR.out, List.drop_zero, List.take_of_length_le (by rw [HL.out]; omega)]
      subst hvr
      clear hv
      go_wp2
      go_ret
      exact ⟨rfl, rfl⟩
    | succ i =>
      obtain ⟨x, hx⟩ : ∃ x, ys[i]? = some x := ⟨_, List.getElem?_eq_getElem (by rw [HL.out]; omega)⟩
      have hcx := HC.out i x hx
      have hx2 := HB.out x (List.mem_of_getElem? hx)
      have hst := leV_step ys i (8 - (i + 1)) x hx
      have hvb : v < 72057594037927936 := by
        rw [hv]
        have h1 := leV_lt ((ys.drop (i + 1)).take (8 - (i + 1))) (fun y hy => HB.out y (List.mem_of_mem_drop (List.mem_of_mem_take hy)))
        have h2 : ((ys.drop (i + 1)).take (8 - (i + 1))).length ≤ 7 := by rw [List.length_take]; omega
        have h3 : 256 ^ ((ys.drop (i + 1)).take (8 - (i + 1))).length ≤ 256 ^ 7 := Nat.pow_le_pow_right (by omega) h2
        have h4 : (256 : Nat) ^ 7 = 72057594037927936 := by decide
        omega
      have eI : ((i + 1 : Nat) : Int) - 1 = (i : Int) := by omega
      rw [eI]
      have ix := fun X => index_byteN g o i len cap (by omega) X
      have vI : (v : Int) < 72057594037927936 := by omega
      have xI : (x : Int) < 256 := by omega
      have iI : (i : Int) < 8 := by omega
      have HST := hide hst
      have HV := hide hv
      clear hst hv hvb hx hx2 eI h8
      go_wp2
      go_roundw
      case rel =>
        refine ⟨i, v * 256 + x, by omega, int_congrP (by omega), ?_, ?_, trivial⟩
        · rw [show ((v * 256 + x : Nat) : Int) = (v : Int) * 256 + (x : Int) by omega]
        · have h9 := HST.out
          rw [show 8 - (i + 1) + 1 = 8 - i by omega, ← HV.out] at h9
          exact h9.symm
      case measure => simp [intOf]
theorem word_bytes {σ : St} {w : Nat} : (σ.bytes.drop (8 * w)).take 8 = wd (σ.line (w / 8)) (w % 8) := by
  unfold wd St.line
  refine List.ext_getElem? fun q => ?_
  rw [List.getElem?_take, List.getElem?_take, List.getElem?_drop, List.getElem?_drop, List.getElem?_take, List.getElem?_drop]
  by_cases hq : q < 8
  · rw [if_pos hq, if_pos hq, if_pos (by omega)]
    congr 1
    omega
  · rw [if_neg hq, if_neg hq]
theorem leB_inj {u v : Nat} (hu : u < 18446744073709551616) (hv : v < 18446744073709551616) (h : leB 8 u = leB 8 v) : u = v := by
  have h1 := leV_leB 8 u
  have h2 := leV_leB 8 v
  rw [h] at h1
  have e : (256 : Nat) ^ 8 = 18446744073709551616 := by decide
  rw [e] at h1 h2
  rw [Nat.mod_eq_of_lt hu] at h1
  rw [Nat.mod_eq_of_lt hv] at h2
  omega
theorem leV_of {u : Nat} (hu : u < 18446744073709551616) : leV (leB 8 u) = u := by
  rw [leV_leB]
  have e : (256 : Nat) ^ 8 = 18446744073709551616 := by decide
  rw [e, Nat.mod_eq_of_lt hu]
/-- What a word is behind a loss of power. -/
theorem lasts_word {B : Bk} {σ σ' : St} {kp : List Nat} {w : Nat} (h : BkRel B σ) (hl : Lost σ kp σ') (hw : w < 8 * σ.n) : ∃ v, (σ'.bytes.drop (8 * w)).take 8 = leB 8 v ∧ v < 18446744073709551616 ∧ (∀ l : List Nat, B.held[w]? = some l → v ∈ l) ∧ (B.sure[w]? = some true → B.last[w]? = some v) := by
  obtain ⟨l, hld⟩ : ∃ l, B.held[w]? = some l := ⟨_, List.getElem?_eq_getElem (by rw [h.lh]; exact hw)⟩
  obtain ⟨v, hv, he⟩ := Every.lost (P := fun c => ∃ v ∈ l, wd c (w % 8) = leB 8 v) hl (show w / 8 < σ.n by omega) (h.held w l hld)
  have hv64 := h.hv l (List.mem_of_getElem? hld) v hv
  refine ⟨v, by rw [word_bytes]; exact he, hv64, fun l' hl' => by rw [hld] at hl'; cases hl'; exact hv, fun hs => ?_⟩
  obtain ⟨u, hu⟩ : ∃ u, B.last[w]? = some u := ⟨_, List.getElem?_eq_getElem (by rw [h.ll]; exact hw)⟩
  have h2 := Every.lost (P := fun c => wd c (w % 8) = leB 8 u) hl (show w / 8 < σ.n by omega) (h.sure w u hs hu)
  have h3 := leB_inj (h.lv u (List.mem_of_getElem? hu)) hv64 (h2.symm.trans he)
  rw [hu, h3]
theorem seen_word {B : Bk} {σ : St} {w v : Nat} (h : BkRel B σ) (hv : B.seen[w]? = some v) : (σ.bytes.drop (8 * w)).take 8 = leB 8 v ∧ v < 18446744073709551616 := by
  obtain ⟨h1, h2⟩ := h.seen w v hv
  exact ⟨by rw [word_bytes]; exact h2, h1⟩
end Go.Proofs.Ytkolhpddeoajjaa
namespace Go.Proofs.Ytkolhpddeoajjaa
open Go.RowKit Go.Shelf
set_option linter.unusedVariables false

/-- A script that is handed in. -/
structure ScrP (w : World) (a : Option Addr) (ns : Nat) (xs : List StpR) : Prop where
  row : RowC 7 (fun s : StpR => s.vals.toList) w a xs
  ok : ∀ s ∈ xs, s.Ok
  len : xs.length = ns
  few : ns ≤ 1353300000000
theorem ScrP.below {w w' : World} {a : Option Addr} {ns : Nat} {xs : List StpR} (h : ScrP w a ns xs) (hB : Below w.heap.size w w') : ScrP w' a ns xs := ⟨h.row.below hB, h.ok, h.len, h.few⟩
/-- The crash, where all numbers may be. -/
theorem pd_crash {w W W4 : World} {p b m nk : Nat} {K : Kl} {L : Lay} {B : Bk} {σ : St} {zs : List Int} {ca : Option Addr} {cc : Nat} (h : Pd w W p b K L B σ) (st : StepOk B σ) (hn : σ.n = m) (hz : ∀ z ∈ zs, -9223372036854775808 ≤ z ∧ z ≤ 9223372036854775807) (hnk : zs.length = nk) (hk9 : nk ≤ 17592186043904) (hg : nonneg zs = true) (ho : OwnI W4 W.heap.size (.slice ca nk cc) zs) (hB : Below W.heap.size W W4) :
    Calls Try.prog 8 #[.pointer (some ⟨b, 0, none⟩), .slice ca nk cc] W4 fun e W5 => e = .returned (.int .i64 0) ∧ W5.cell? ⟨p, 0, none⟩ = some (.pointer (some ⟨b, 0, none⟩)) ∧ ∃ L' σ', Lost σ (zs.map Int.toNat) σ' ∧ Pd w W5 p b K L' B σ' ∧ Gr (fun k => k = b ∨ k = L.sb) W4 W5 := by
  have h4 := h.below hB
  have hk := ho.slN hnk hz hg
  have hc := pcrash_any cc h4.dev st.ok st.off hk (by rw [List.length_map, hnk]; omega)
  rw [List.length_map, hnk] at hc
  refine hc.mono ?_
  rintro e W5 ⟨rfl, L', σ', q1, q2, q3, q4, q5⟩
  have hsub : ∀ k, (k = b ∨ k = L.sb) → Foot b L σ k := fun k hk => hk.elim (fun e => .inl e) (fun e => .inr (.inl e))
  have hp5 : PlL W5 p b K B := h4.pl.gr q4 (fun k hk hx => h4.dis k hk (hsub k hx))
  have hpd : Pd w W5 p b K L' B σ' := by
    refine h4.step q2 (by rw [q1.ops]; have := h4.num; omega) hp5 (q4.mono (fun k hk => .inl (hsub k hk))) q3 (fun k hk hf => ?_) (fun k hk => .inl hk)
    rcases q3 k hf with h5 | h5
    · exact h4.dis k hk h5
    · have := h4.pl.lt hk; omega
  exact ⟨rfl, hp5.c 0, L', σ', q1, hpd, q4⟩
/-- What the last loop reads. -/
structure LsAt (w W : World) (p b : Nat) (K : Kl) (B : Bk) (R I : Nat) (sb ib : List Nat) : Prop where
  pl : PlL W p b K B
  rs : OwnB W R sb
  ri : OwnB W I ib
  bel : Below w.heap.size w W
theorem LsAt.below {w W W' : World} {p b : Nat} {K : Kl} {B : Bk} {R I : Nat} {sb ib : List Nat} (h : LsAt w W p b K B R I sb ib) (hB : Below W.heap.size W W') : LsAt w W' p b K B R I sb ib := ⟨h.pl.below hB, h.rs.below hB h.rs.lt, h.ri.below hB h.ri.lt, h.bel.trans (hB.mono h.bel.size)⟩
/-- The number of a word of bytes. -/
theorem num_at {W : World} {R i nb v : Nat} {sb : List Nat} (h : OwnB W R sb) (hb : ∀ x ∈ sb, x < 256) (hl : sb.length = nb) (hi : 8 * i + 8 ≤ nb) (hw : (sb.drop (8 * i)).take 8 = leB 8 v) (hv : v < 18446744073709551616) : Calls Try.prog 14 #[.slice (some ⟨R, 8 * i, none⟩) (nb - 8 * i) (nb - 8 * i)] W fun e w' => e = .returned (.int .u64 (v : Int)) ∧ w' = W := by
  have h1 := pnumber (w := W) (g := R) (o := 8 * i) (len := nb - 8 * i) (cap := nb - 8 * i) (ys := leB 8 v) (leB_length 8 v) (leB_lt 8 v) (fun j x hx => ?_) (by omega)
  · rw [leV_of hv] at h1
    exact h1
  · rw [← hw, List.getElem?_take] at hx
    split at hx
    · rw [List.getElem?_drop] at hx
      exact h.cell _ _ hx
    · cases hx
set_option maxRecDepth 100000 in
set_option maxHeartbeats 4000000 in
theorem pmemLasts_walk (w : World) (li : Int) (a ka : Option Addr) (c ns kc nk : Nat) (xs : List StpR) (zs : List Int) (hli : -9223372036854775808 ≤ li ∧ li ≤ 9223372036854775807) (hx : ScrP w a ns xs) (hz : IntsP w ka zs) (hnk : zs.length = nk) (hk9 : nk ≤ 17592186043904) :
    Calls Try.prog 3 #[.int .i64 li, .slice a ns c, .slice ka nk kc] w fun e w' => e = .returned (.bool true) ∧ Below w.heap.size w w' := by
  have HX := hide hx
  have HZ := hide hz
  have HNK := hide hnk
  clear hx hz hnk
  go_enter Try.func3, Try.ntmps3
  go_upto_region 6 with (first
    | (go_at_call 5; refine (awake_any w).mono ?_; rintro e W1 ⟨rfl, hB⟩; have HB1 := hide hB; have hx1 := HX.out.below hB; have KBG := hide (begun_any W1 li a c ns xs hli hx1.row hx1.ok hx1.len hx1.few); clear hB hx1)
    | (go_at_call 6; refine (KBG.out).mono ?_; rintro e W2 ⟨p, b, m, K, L, B, σ, rfl, hpd, hst, hn, hmm, hm4, hops, hcap, hz0⟩; have HPD := hide hpd; have HST := hide hst; have HN := hide hn; have HCAP := hide hcap; clear hpd hst hn hcap hz0))
  have hm1 : 1 ≤ m := by omega
  obtain ⟨N, hN⟩ : ∃ N, N = 8 * m := ⟨_, rfl⟩
  obtain ⟨nb, hnb⟩ : ∃ nb, nb = 64 * m := ⟨_, rfl⟩
  have r := HST.out.rel
  obtain ⟨sg, sc, lg, lc, ug, uc, mg, mc, hli2⟩ := HPD.out.pl.lies (N := N) (m := m) (by rw [r.ls, HN.out, hN]) (by rw [r.ll, HN.out, hN]) (by rw [r.lu, HN.out, hN]) (by rw [r.lm, HN.out]) (by omega) (by omega)
  have HLI := hide hli2
  obtain ⟨c0, c1, c3, c4, c5⟩ := hli2.cells HPD.out.pl
  have S6 := hide (show W2.drew.cell? ⟨p, 0, none⟩ = some (.pointer (some ⟨b, 0, none⟩)) ∧ W2.drew.cell? ⟨p, 1, none⟩ = some (.slice (some ⟨sg, 0, none⟩) N sc) from ⟨c0, c1⟩)
  have kld : Calls Try.prog 7 #[.pointer (some ⟨b, 0, none⟩), .int .i64 0, .int .i64 (8 * (N : Int))] W2.drew fun e w' => ∃ R, e = .returned (.tuple #[.slice (some ⟨R, 0, none⟩) nb nb, .int .i64 0]) ∧ W2.heap.size ≤ R ∧ OwnB w' R σ.bytes ∧ Below W2.heap.size W2 w' := by
    have h5 := callsIn_wide.1 (pload_in (at_ := 0) (n := nb) ((HPD.out.below (Below.refl _ W2).drew).dev) HST.out.ok HST.out.off (by rw [HN.out]; omega))
    rw [show ((nb : Nat) : Int) = 8 * (N : Int) by omega] at h5
    refine h5.mono ?_
    rintro e w' ⟨R, rfl, q1, q2, q3⟩
    have hbb : (σ.bytes.drop 0).take nb = σ.bytes := by rw [List.drop_zero, List.take_of_length_le (by rw [HST.out.ok.len, HN.out]; omega)]
    rw [hbb] at q2
    exact ⟨R, rfl, q1, q2, (Below.refl _ W2).drew.trans q3⟩
  have KLD := hide kld
  have S6K := hide (fun (X : World) (hX : Below W2.heap.size W2 X) => (show X.cell? ⟨p, 0, none⟩ = some (.pointer (some ⟨b, 0, none⟩)) ∧ X.cell? ⟨p, 1, none⟩ = some (.slice (some ⟨sg, 0, none⟩) N sc) from by have h5 := HLI.out.cells (HPD.out.pl.below hX); exact ⟨h5.1, h5.2.1⟩))
  have wrn : IntKind.i64.wrap (8 * (N : Int)) = 8 * (N : Int) := by rw [IntKind.wrap_i64]; omega
  have WRN := hide wrn
  have HNN := hide hN
  have HNB := hide hnb
  have HMM := hide hmm
  have NI : (N : Int) ≤ 32 := by omega
  have N1 : (1 : Int) ≤ (N : Int) := by omega
  clear kld wrn r hli2 c0 c1 c3 c4 c5 KBG hN hnb hmm hops
  refine wp_region_held_drew (S := fun Y => Y.cell? ⟨p, 0, none⟩ = some (.pointer (some ⟨b, 0, none⟩)) ∧ Y.cell? ⟨p, 1, none⟩ = some (.slice (some ⟨sg, 0, none⟩) N sc)) (by kernel_rfl) S6.out (fun hS => ?_)
  refine wpAnyH_take (i := 0) (v := (.pointer (some ⟨p, 0, none⟩))) rfl (by kernel_rfl) (by kernel_rfl) (by kernel_rfl) (fun _ _ _ h => h) (Or.inl ⟨by kernel_rfl, fun w' hw => by (go_simp)⟩) hS ?_
  refine wpAnyH_take (i := 1) (v := (.pointer (some ⟨p, 0, none⟩))) rfl (by kernel_rfl) (by kernel_rfl) (by kernel_rfl) (fun _ _ _ h => h) (Or.inl ⟨by kernel_rfl, fun w' hw => by (go_simp)⟩) hS ?_
  refine wpAnyH_take (i := 2) (v := (.pointer (some ⟨p, 0, none⟩))) rfl (by kernel_rfl) (by kernel_rfl) (by kernel_rfl) (fun _ _ _ h => h) (Or.inl ⟨by kernel_rfl, fun w' hw => by (go_simp)⟩) hS ?_
  refine wpAnyH_take (i := 3) (v := (.pointer (some ⟨b, 0, none⟩))) rfl (by kernel_rfl) (by kernel_rfl) (by kernel_rfl) (fun _ _ _ h => h) (Or.inl ⟨by kernel_rfl, fun w' hw => by (obtain ⟨z0, z1⟩ := hw; go_simp)⟩) hS ?_
  refine wpAnyH_take (i := 4) (v := (.pointer (some ⟨p, 0, none⟩))) rfl (by kernel_rfl) (by kernel_rfl) (by kernel_rfl) (fun _ _ _ h => h) (Or.inl ⟨by kernel_rfl, fun w' hw => by (go_simp)⟩) hS ?_
  refine wpAnyH_take (i := 5) (v := (.pointer (some ⟨p, 0, none⟩))) rfl (by kernel_rfl) (by kernel_rfl) (by kernel_rfl) (fun _ _ _ h => h) (Or.inl ⟨by kernel_rfl, fun w' hw => by (go_simp)⟩) hS ?_
  refine wpAnyH_take (i := 6) (v := (.pointer (some ⟨p, 1, none⟩))) rfl (by kernel_rfl) (by kernel_rfl) (by kernel_rfl) (fun _ _ _ h => h) (Or.inl ⟨by kernel_rfl, fun w' hw => by (go_simp)⟩) hS ?_
  refine wpAnyH_take (i := 7) (v := (.slice (some ⟨sg, 0, none⟩) N sc)) rfl (by kernel_rfl) (by kernel_rfl) (by kernel_rfl) (fun _ _ _ h => h) (Or.inl ⟨by kernel_rfl, fun w' hw => by (obtain ⟨z0, z1⟩ := hw; go_simp)⟩) hS ?_
  refine wpAnyH_take (i := 8) (v := (.int .i64 (N : Int))) rfl (by kernel_rfl) (by kernel_rfl) (by kernel_rfl) (fun _ _ _ h => h) (Or.inl ⟨by kernel_rfl, fun w' hw => by (go_simp)⟩) hS ?_
  refine wpAnyH_take (i := 9) (v := (.int .i64 (8 * (N : Int)))) rfl (by kernel_rfl) (by kernel_rfl) (by kernel_rfl) (fun _ _ _ h => h) (Or.inl ⟨by kernel_rfl, fun w' hw => by (have wr8 := WRN.out; go_simp)⟩) hS ?_
  refine wpAnyH_goS (i := 10) (by kernel_rfl) rfl (by kernel_rfl) (fun K hK => ?_)
  go_wp2_with (go_at_call 7; refine (KLD.out).mono ?_; rintro e W3 ⟨R, rfl, hr1, hr2, hr3⟩; have HR1 := hide hr1; have HR2 := hide hr2; have HR3 := hide hr3; clear hr1 hr2 hr3)
  have s6b := S6K.out W3 HR3.out
  refine hK.out _ _ s6b ?_
  clear hK K
  refine wpAnyH_take (i := 11) (v := (.tuple #[.slice (some ⟨R, 0, none⟩) nb nb, .int .i64 0])) rfl (by kernel_rfl) (by kernel_rfl) (by kernel_rfl) (fun _ _ _ h => h) (Or.inl ⟨by kernel_rfl, fun w' hw => by (go_simp)⟩) s6b ?_
  refine wpAnyH_take (i := 12) (v := (.slice (some ⟨R, 0, none⟩) nb nb)) rfl (by kernel_rfl) (by kernel_rfl) (by kernel_rfl) (fun _ _ _ h => h) (Or.inl ⟨by kernel_rfl, fun w' hw => by (go_simp)⟩) s6b ?_
  refine wpAnyH_take (i := 13) (v := (.int .i64 0)) rfl (by kernel_rfl) (by kernel_rfl) (by kernel_rfl) (fun _ _ _ h => h) (Or.inl ⟨by kernel_rfl, fun w' hw => by (go_simp)⟩) s6b ?_
  refine wpAnyH_take (i := 14) (v := (.slice (some ⟨R, 0, none⟩) nb nb)) rfl (by kernel_rfl) (by kernel_rfl) (by kernel_rfl) (fun _ _ _ h => h) (Or.inl ⟨by kernel_rfl, fun w' hw => by (go_simp)⟩) s6b ?_
  refine wpAnyH_take (i := 15) (v := (.int .i64 0)) rfl (by kernel_rfl) (by kernel_rfl) (by kernel_rfl) (fun _ _ _ h => h) (Or.inl ⟨by kernel_rfl, fun w' hw => by (go_simp)⟩) s6b ?_
  refine wpAnyH_done (by kernel_rfl) ?_ _
  simp only [Act.put, List.getElem_toArray, List.getElem_cons_zero, List.getElem_cons_succ, List.setIfInBounds_toArray, List.set_cons_zero, List.set_cons_succ]
  obtain ⟨g0, g1⟩ := s6b
  have nbI : (nb : Int) = 8 * (N : Int) := by have := HNN.out; have := HNB.out; omega
  go_upto_region 9 with (fail)
  have hpd3 := HPD.out.below HR3.out
  have hz3 : ∀ X, Below W2.heap.size W2 X → IntsP X ka zs := fun X hX => (HZ.out.below HB1.out).below (HPD.out.bel.trans (hX.mono HPD.out.bel.size))
  have kci : Calls Try.prog 9 #[.slice ka nk kc] W3.drew fun e w' => ∃ ca cc, e = .returned (.slice ca nk cc) ∧ OwnI w' W3.heap.size (.slice ca nk cc) zs ∧ Below W3.heap.size W3 w' := by
    refine (copyInts_any kc nk (hz3 _ HR3.out.drew) HNK.out (by omega)).mono ?_
    rintro e w' ⟨ca, cc, rfl, q1, q2⟩
    exact ⟨ca, cc, rfl, q1, (Below.refl _ W3).drew.trans q2⟩
  have KCI := hide kci
  have S9 := hide (show W3.drew.cell? ⟨p, 0, none⟩ = some (.pointer (some ⟨b, 0, none⟩)) from g0)
  clear kci
  by_cases hng : nonneg zs = true
  · have kcr : ∀ (W4 : World) (ca : Option Addr) (cc : Nat), OwnI W4 W3.heap.size (.slice ca nk cc) zs → Below W3.heap.size W3 W4 → W4.cell? ⟨p, 0, none⟩ = some (.pointer (some ⟨b, 0, none⟩)) ∧ Calls Try.prog 8 #[.pointer (some ⟨b, 0, none⟩), .slice ca nk cc] W4 fun e W5 => e = .returned (.int .i64 0) ∧ W5.cell? ⟨p, 0, none⟩ = some (.pointer (some ⟨b, 0, none⟩)) ∧ ∃ L' σ', Lost σ (zs.map Int.toNat) σ' ∧ Pd W1 W5 p b K L' B σ' ∧ OwnB W5 R σ.bytes := fun W4 ca cc h1 h2 => by
      refine ⟨(hpd3.pl.below h2).c 0, (pd_crash hpd3 HST.out HN.out HZ.out.1 HNK.out (by omega) hng h1 h2).mono ?_⟩
      rintro e W5 ⟨rfl, q0, L', σ', q1, q2, q3⟩
      refine ⟨rfl, q0, L', σ', q1, q2, ?_⟩
      have hrl := HR2.out.lt
      have hr4 : OwnB W4 R σ.bytes := HR2.out.below h2 hrl
      have hrf : ¬ (R = b ∨ R = L.sb) := fun e => by
        have hf : Foot b L σ R := e.elim (fun e => .inl e) (fun e => .inr (.inl e))
        have := HPD.out.dev.foot_is hf
        have := HR1.out
        omega
      exact (q3.block (Nat.lt_of_lt_of_le hrl h2.size) hrf).trans hr4
    have KCR := hide kcr
    clear kcr hpd3
    refine wp_region_held_drew (S := fun Y => Y.cell? ⟨p, 0, none⟩ = some (.pointer (some ⟨b, 0, none⟩))) (by kernel_rfl) S9.out (fun hS => ?_)
    refine wpAnyH_take (i := 0) (v := (.pointer (some ⟨p, 0, none⟩))) rfl (by kernel_rfl) (by kernel_rfl) (by kernel_rfl) (fun _ _ _ h => h) (Or.inl ⟨by kernel_rfl, fun w' hw => by (go_simp)⟩) hS ?_
    refine wpAnyH_take (i := 1) (v := (.pointer (some ⟨p, 0, none⟩))) rfl (by kernel_rfl) (by kernel_rfl) (by kernel_rfl) (fun _ _ _ h => h) (Or.inl ⟨by kernel_rfl, fun w' hw => by (go_simp)⟩) hS ?_
    refine wpAnyH_take (i := 2) (v := (.pointer (some ⟨p, 0, none⟩))) rfl (by kernel_rfl) (by kernel_rfl) (by kernel_rfl) (fun _ _ _ h => h) (Or.inl ⟨by kernel_rfl, fun w' hw => by (go_simp)⟩) hS ?_
    refine wpAnyH_take (i := 3) (v := (.pointer (some ⟨b, 0, none⟩))) rfl (by kernel_rfl) (by kernel_rfl) (by kernel_rfl) (fun _ _ _ h => h) (Or.inl ⟨by kernel_rfl, fun w' hw => by (have z0 := hw; go_simp)⟩) hS ?_
    refine wpAnyH_take (i := 4) (v := (.slice ka nk kc)) rfl (by kernel_rfl) (by kernel_rfl) (by kernel_rfl) (fun _ _ _ h => h) (Or.inl ⟨by kernel_rfl, fun w' hw => by (go_simp)⟩) hS ?_
    refine wpAnyH_goS (i := 5) (by kernel_rfl) rfl (by kernel_rfl) (fun K hK => ?_)
    go_wp2_with (go_at_call 9; refine (KCI.out).mono ?_; rintro e W4 ⟨ca, cc, rfl, ho4, hb4⟩; have HO4 := hide ho4; have HB4 := hide hb4; clear ho4 hb4)
    obtain ⟨s9b, kcr⟩ := KCR.out W4 ca cc HO4.out HB4.out
    have KC4 := hide kcr
    clear kcr
    refine hK.out _ _ s9b ?_
    clear hK K
    refine wpAnyH_goS (i := 6) (by kernel_rfl) rfl (by kernel_rfl) (fun K hK => ?_)
    go_wp2_with (go_at_call 8; refine (KC4.out).mono ?_; rintro e W5 ⟨rfl, s9c, hc5⟩; have HC5 := hide hc5; clear hc5)
    refine hK.out _ _ s9c ?_
    clear hK K
    refine wpAnyH_take (i := 7) (v := (.int .i64 0)) rfl (by kernel_rfl) (by kernel_rfl) (by kernel_rfl) (fun _ _ _ h => h) (Or.inl ⟨by kernel_rfl, fun w' hw => by (go_simp)⟩) s9c ?_
    refine wpAnyH_done (by kernel_rfl) ?_ _
    simp only [Act.put, List.getElem_toArray, List.getElem_cons_zero, List.getElem_cons_succ, List.setIfInBounds_toArray, List.set_cons_zero, List.set_cons_succ]
    obtain ⟨L5, σ5, hlost, hpd5, hr5⟩ := HC5.out
    have kgo := good_any (w := W5) kc nk ((HZ.out.below HB1.out).below hpd5.bel) HNK.out (by omega)
    rw [hng] at kgo
    have KGO := hide kgo
    have kwk := pwake_off hpd5.dev hlost.off
    have KWK := hide kwk
    have s0 : W5.cell? ⟨p, 0, none⟩ = some (.pointer (some ⟨b, 0, none⟩)) := hpd5.pl.c 0
    have HL5 := hide hlost
    have HPD5 := hide hpd5
    have HR5 := hide hr5
    have hbp : b ≠ p := fun e => hpd5.dis p (.inl rfl) (.inl e.symm)
    have s1 : (W5.setCell ⟨b, 7, none⟩ (.bool false)).cell? ⟨p, 0, none⟩ = some (.pointer (some ⟨b, 0, none⟩)) := (World.cell?_of_block (heap_set_ne W5 b 7 p _ (fun e => hbp e.symm))).trans s0
    have hpd6 : PlL (W5.setCell ⟨b, 7, none⟩ (.bool false)) p b K B := hpd5.pl.keep (fun k hk => heap_set_ne W5 b 7 k _ (fun e => hpd5.dis k hk (.inl e)))
    have hr6 : OwnB (W5.setCell ⟨b, 7, none⟩ (.bool false)) R σ.bytes := (heap_set_ne W5 b 7 R _ (fun e => by have := HPD.out.dev.lt; have := HR1.out; omega)).trans hr5
    have hb6 : Below W1.heap.size W1 (W5.setCell ⟨b, 7, none⟩ (.bool false)) := hpd5.bel.setCell (p := ⟨b, 7, none⟩) (hpd5.fd b (.inl rfl)) _
    have HPD6 := hide hpd6
    have HR6 := hide hr6
    have HB6 := hide hb6
    have hok6 : ({ σ5 with off := false } : St).Ok := by have h := Lost.ok HST.out.ok hlost; exact ⟨h.pos, h.max, h.len, h.byte, h.out, h.clen, h.cbyte, h.few, h.flp, h.opsm⟩
    have hn5 : 64 * σ5.n = nb := by rw [hlost.n, HN.out, HNB.out]
    have KIM := hide (fun (hd : DevL (W5.setCell ⟨b, 7, none⟩ (.bool false)) b L5 { σ5 with off := false }) => (show Calls Try.prog 13 #[.pointer (some ⟨b, 0, none⟩)] (W5.setCell ⟨b, 7, none⟩ (.bool false)) fun e w' => e = .returned (.slice (some ⟨W5.heap.size, 0, none⟩) nb nb) ∧ OwnB w' W5.heap.size σ5.bytes ∧ Below W5.heap.size (W5.setCell ⟨b, 7, none⟩ (.bool false)) w' from by
      have h9 := pimg_any hd hok6
      have e9 : 64 * ({ σ5 with off := false } : St).n = nb := hn5
      rw [e9, size_set] at h9
      exact h9))
    clear kgo kwk hlost hpd5 hr5 hpd6 hr6 hb6 hok6 HC5 KC4 KCI KCR hz3
    go_upto_region 17 with (first
      | (go_at_call 10; refine (KGO.out).mono ?_; rintro e w' ⟨rfl, hw⟩; obtain rfl := hw.symm)
      | (go_at_call 12; refine (KWK.out).mono ?_; rintro e w' ⟨rfl, rfl, hd6⟩; have KI := hide (KIM.out hd6); clear hd6)
      | (go_at_call 13; refine (KI.out).mono ?_; rintro e W8 ⟨rfl, ho8, hb8⟩; have HO8 := hide ho8; have HB8 := hide hb8; clear ho8 hb8))
    have hls : LsAt W1 W8 p b K B R W5.heap.size σ.bytes σ5.bytes := by
      have hb : Below (W5.setCell ⟨b, 7, none⟩ (.bool false)).heap.size (W5.setCell ⟨b, 7, none⟩ (.bool false)) W8 := by rw [size_set]; exact HB8.out
      exact ⟨HPD6.out.below hb, HR6.out.below hb HR6.out.lt, HO8.out, HB6.out.trans (hb.mono HB6.out.size)⟩
    have HLS := hide hls
    have ok5 := Lost.ok HST.out.ok HL5.out
    have hn5b : σ5.n = m := HL5.out.n.trans HN.out
    have HOK5 := hide ok5
    have HN5 := hide hn5b
    generalize W5.heap.size = I at *
    clear hls ok5 hn5b s0 s1 hbp hn5 HPD6 HR6 HB6 HB8 HO8 KIM KI KWK KGO HPD5 HR5 g0 g1 S9
    go_wp2_with (fail)
    try go_frame
    go_loopw [13] (fun iv wr => ∃ i : Nat, iv = .int .i64 (i : Int) ∧ i ≤ N ∧ Below W8.heap.size W8 wr) (fun iv _ => (N - (intOf iv).toNat))
    case atStart => exact ⟨0, rfl, Nat.zero_le _, Below.refl _ _⟩
    case round =>
      obtain ⟨i, rfl, hi, hBr⟩ := hrel
      have hat := HLS.out.below hBr
      obtain ⟨c0, c1, c3, c4, c5⟩ := HLI.out.cells hat.pl
      by_cases hlt : i < N
      · have iI : (i : Int) < (N : Int) := by omega
        have r := HST.out.rel
        have hw8 : i < 8 * σ.n := by rw [HN.out]; have := HNN.out; omega
        obtain ⟨v, hv1, hv2, hv3, hv4⟩ := lasts_word r HL5.out hw8
        obtain ⟨sx, hsx⟩ : ∃ x, B.seen[i]? = some x := ⟨_, List.getElem?_eq_getElem (by rw [r.ls]; exact hw8)⟩
        obtain ⟨lx, hlx⟩ : ∃ x, B.last[i]? = some x := ⟨_, List.getElem?_eq_getElem (by rw [r.ll]; exact hw8)⟩
        obtain ⟨ux, hux⟩ : ∃ x, B.sure[i]? = some x := ⟨_, List.getElem?_eq_getElem (by rw [r.lu]; exact hw8)⟩
        obtain ⟨l, hld⟩ : ∃ l, B.held[i]? = some l := ⟨_, List.getElem?_eq_getElem (by rw [r.lh]; exact hw8)⟩
        obtain ⟨hs1, hs2⟩ := seen_word r hsx
        have h8 : 8 * i + 8 ≤ nb := by have := HNN.out; have := HNB.out; omega
        have hnl : σ.bytes.length = nb := by rw [HST.out.ok.len, HN.out, HNB.out]
        have hnl5 : σ5.bytes.length = nb := by rw [HOK5.out.len, HN5.out, HNB.out]
        have KNI := hide (num_at hat.ri HOK5.out.byte hnl5 h8 hv1 hv2)
        have KNS := hide (fun (X : World) (hX : Below W8.heap.size W8 X) => num_at (HLS.out.below hX).rs HST.out.ok.byte hnl h8 hs1 hs2)
        have sli := fun X => slice_bytes I 0 (8 * i) nb nb (by omega) (Nat.le_refl _) X
        have slr := fun X => slice_bytes R 0 (8 * i) nb nb (by omega) (Nat.le_refl _) X
        rw [show ((8 * i : Nat) : Int) = 8 * (i : Int) by omega] at sli slr
        simp only [Nat.zero_add] at sli slr
        have SLR := hide slr
        obtain ⟨hg, hc, v0, ehv, hv0, chw, _, hown, _, _⟩ := hat.pl.heldAt hld
        have ehv : K.hv = .slice (some ⟨hg, 0, none⟩) N hc := by rw [ehv, r.lh, HN.out, ← HNN.out]
        have c2 : wr.cell? ⟨p, 2, none⟩ = some (.slice (some ⟨hg, 0, none⟩) N hc) := by rw [← ehv]; exact hat.pl.c 2
        obtain ⟨ia, ic, rfl⟩ := own_slice hown
        obtain ⟨il, hil⟩ : ∃ il, l.length = il := ⟨_, rfl⟩
        rw [hil] at chw hown
        have hcap := HCAP.out l (List.mem_of_getElem? hld)
        have ilI : (il : Int) ≤ 1353300000001 := by have := HX.out.few; omega
        have hmem := hv3 l hld
        have hir := fun X => index_rows hg 0 i N hc hlt X
        simp only [Nat.zero_add] at hir
        have s26 : wr.cell? ⟨p, 1, none⟩ = some (.slice (some ⟨sg, 0, none⟩) N sc) ∧ wr.cell? ⟨sg, i, none⟩ = some (.int .u64 (sx : Int)) ∧ wr.cell? ⟨p, 4, none⟩ = some (.slice (some ⟨ug, 0, none⟩) N uc) ∧ wr.cell? ⟨ug, i, none⟩ = some (.bool ux) ∧ wr.cell? ⟨p, 3, none⟩ = some (.slice (some ⟨lg, 0, none⟩) N lc) ∧ wr.cell? ⟨lg, i, none⟩ = some (.int .u64 (lx : Int)) := ⟨c1, (hat.pl.seenC HLI.out.s hsx).1, c4, (hat.pl.sureC HLI.out.u hux).1, c3, (hat.pl.lastC HLI.out.l hlx).1⟩
        have S26a := hide s26
        have HSU := hide (show ux = true → lx = v from fun e => by rw [e] at hux; have h5 := hv4 hux; rw [hlx] at h5; cases h5; rfl)
        have HOWN := hide hown
        have HMEM := hide hmem
        have HIL := hide hil
        have HBR := hide hBr
        have wri : IntKind.i64.wrap (8 * (i : Int)) = 8 * (i : Int) := by rw [IntKind.wrap_i64]; omega
        have WRI := hide wri
        have IX1 := hide (fun X => by have h := index_u64 sg 0 i N sc hlt X; rwa [Nat.zero_add] at h : ∀ X : World, (Instr.indexAt 32 (.slice (some ⟨sg, 0, none⟩) N sc) (.int .i64 (i : Int))).run Try.prog X = .ok (.pointer (some ⟨sg, i, none⟩)) X)
        have IX2 := hide (fun X => by have h := index_bool ug 0 i N uc hlt X; rwa [Nat.zero_add] at h : ∀ X : World, (Instr.indexAt 34 (.slice (some ⟨ug, 0, none⟩) N uc) (.int .i64 (i : Int))).run Try.prog X = .ok (.pointer (some ⟨ug, i, none⟩)) X)
        have IX3 := hide (fun X => by have h := index_u64 lg 0 i N lc hlt X; rwa [Nat.zero_add] at h : ∀ X : World, (Instr.indexAt 32 (.slice (some ⟨lg, 0, none⟩) N lc) (.int .i64 (i : Int))).run Try.prog X = .ok (.pointer (some ⟨lg, i, none⟩)) X)
        clear hat c0 c3 c4 c5 r hw8 hv1 hv2 hv3 hv4 hsx hlx hux hld hs1 hs2 hnl hnl5 slr ehv hv0 hown hil hcap hmem s26 hBr wri
        go_wp2_with (go_at_call 14; refine (KNI.out).mono ?_; rintro e w' ⟨rfl, hw⟩; obtain rfl := hw.symm)
        try go_frame
        clear c1 sli KNI
        obtain ⟨WR, rfl⟩ : ∃ x, x = wr := ⟨_, rfl⟩
        go_loopw [15, 16] (fun wv kv wx => ∃ (k : Nat) (t : Bool), kv = .int .i64 (k : Int) ∧ k ≤ il ∧ wv = .bool t ∧ t = decide (v ∈ l.take k) ∧ wx = WR) (fun wv kv _ => (il - (intOf kv).toNat))
        case atStart => exact ⟨0, false, rfl, Nat.zero_le _, rfl, by simp, rfl⟩
        case round =>
          obtain ⟨k, t, rfl, hk, rfl, ht, hwx⟩ := hrel
          obtain rfl := hwx.symm
          by_cases hkl : k < il
          · have kI : (k : Int) < (il : Int) := by omega
            obtain ⟨x, hx⟩ : ∃ x, l[k]? = some x := ⟨_, List.getElem?_eq_getElem (by rw [HIL.out]; exact hkl)⟩
            obtain ⟨ig, rfl, cik⟩ : ∃ ig, ia = some ⟨ig, 0, none⟩ ∧ WR.cell? ⟨ig, k, none⟩ = some (.int .u64 (x : Int)) := by
              rcases HOWN.out.2 with ⟨_, e⟩ | ⟨g', cap, cur, e, _, h2, h3, _, h4, h5⟩
              · omega
              · simp only [Value.slice.injEq] at e
                refine ⟨g', e.1, ?_⟩
                have h6 : (cur.toList.take (il * 1))[k]? = some (U64 x) := by rw [h5, List.getElem?_map, hx]; rfl
                rw [List.getElem?_take, if_pos (by omega)] at h6
                rw [cell8 h2]
                simpa [U64] using h6
            have hik := fun X => index_u64 ig 0 k il ic hkl X
            simp only [Nat.zero_add] at hik
            have htk : l.take (k + 1) = l.take k ++ [x] := by rw [List.take_add_one, hx]; rfl
            have HTK := hide htk
            have HT := hide ht
            clear htk ht hx
            cases t with
            | true =>
              go_wp2_with (fail)
              go_roundw
              case rel => exact ⟨k + 1, true, int_congrP (by omega), by omega, rfl, by rw [HTK.out]; have h9 := HT.out; symm; rw [decide_eq_true_eq]; exact List.mem_append_left _ (of_decide_eq_true h9.symm), trivial⟩
              case measure => simp [intOf]; omega
            | false =>
              by_cases hxv : x = v
              · subst hxv
                go_wp2_with (fail)
                go_roundw
                case rel => exact ⟨k + 1, true, int_congrP (by omega), by omega, rfl, by rw [HTK.out]; simp, trivial⟩
                case measure => simp [intOf]; omega
              · have xvI : ¬ (x : Int) = (v : Int) := by omega
                go_wp2_with (fail)
                go_roundw
                case rel => exact ⟨k + 1, false, int_congrP (by omega), by omega, by rw [show ((x : Int) == (v : Int)) = false from by simpa using xvI], by rw [HTK.out]; have h9 := of_decide_eq_false HT.out.symm; symm; rw [decide_eq_false_iff_not]; intro h; rcases List.mem_append.1 h with h | h; (exact h9 h); (simp at h; exact hxv h.symm), trivial⟩
                case measure => simp [intOf]; omega
          · have kI : ¬ (k : Int) < (il : Int) := by omega
            obtain rfl : k = il := by omega
            have ht1 : t = true := by rw [ht, List.take_of_length_le (by rw [HIL.out]; exact Nat.le_refl _)]; exact decide_eq_true HMEM.out
            subst ht1
            have HDR := hide HBR.out.drew
            have hsu := HSU.out
            clear ht
            cases ux with
            | true =>
              have hlv := hsu rfl
              subst hlv
              have S26 := hide (show WR.drew.cell? ⟨p, 1, none⟩ = some (.slice (some ⟨sg, 0, none⟩) N sc) ∧ WR.drew.cell? ⟨sg, i, none⟩ = some (.int .u64 (sx : Int)) ∧ WR.drew.cell? ⟨p, 4, none⟩ = some (.slice (some ⟨ug, 0, none⟩) N uc) ∧ WR.drew.cell? ⟨ug, i, none⟩ = some (.bool true) ∧ WR.drew.cell? ⟨p, 3, none⟩ = some (.slice (some ⟨lg, 0, none⟩) N lc) ∧ WR.drew.cell? ⟨lg, i, none⟩ = some (.int .u64 (lx : Int)) from S26a.out)
              clear hsu
              go_wp2_with (fail)
              refine wp_region_held_drew (S := fun Y => Y.cell? ⟨p, 1, none⟩ = some (.slice (some ⟨sg, 0, none⟩) N sc) ∧ Y.cell? ⟨sg, i, none⟩ = some (.int .u64 (sx : Int)) ∧ Y.cell? ⟨p, 4, none⟩ = some (.slice (some ⟨ug, 0, none⟩) N uc) ∧ Y.cell? ⟨ug, i, none⟩ = some (.bool true) ∧ Y.cell? ⟨p, 3, none⟩ = some (.slice (some ⟨lg, 0, none⟩) N lc) ∧ Y.cell? ⟨lg, i, none⟩ = some (.int .u64 (lx : Int))) (by kernel_rfl) S26.out (fun hS => ?_)
              refine wpAnyH_take (i := 0) (v := (.slice (some ⟨R, 0, none⟩) nb nb)) rfl (by kernel_rfl) (by kernel_rfl) (by kernel_rfl) (fun _ _ _ h => h) (Or.inl ⟨by kernel_rfl, fun w' hw => by (go_simp)⟩) hS ?_
              refine wpAnyH_take (i := 1) (v := (.int .i64 (i : Int))) rfl (by kernel_rfl) (by kernel_rfl) (by kernel_rfl) (fun _ _ _ h => h) (Or.inl ⟨by kernel_rfl, fun w' hw => by (go_simp)⟩) hS ?_
              refine wpAnyH_take (i := 2) (v := (.int .i64 (8 * (i : Int)))) rfl (by kernel_rfl) (by kernel_rfl) (by kernel_rfl) (fun _ _ _ h => h) (Or.inl ⟨by kernel_rfl, fun w' hw => by (have wr8 := WRI.out; go_simp)⟩) hS ?_
              refine wpAnyH_take (i := 3) (v := (.slice (some ⟨R, 8 * i, none⟩) (nb - 8 * i) (nb - 8 * i))) rfl (by kernel_rfl) (by kernel_rfl) (by kernel_rfl) (fun _ _ _ h => h) (Or.inl ⟨by kernel_rfl, fun w' hw => by (have e := SLR.out w'; go_simp)⟩) hS ?_
              refine wpAnyH_take (i := 5) (v := (.pointer (some ⟨p, 0, none⟩))) rfl (by kernel_rfl) (by kernel_rfl) (by kernel_rfl) (fun _ _ _ h => h) (Or.inl ⟨by kernel_rfl, fun w' hw => by (go_simp)⟩) hS ?_
              refine wpAnyH_take (i := 6) (v := (.pointer (some ⟨p, 0, none⟩))) rfl (by kernel_rfl) (by kernel_rfl) (by kernel_rfl) (fun _ _ _ h => h) (Or.inl ⟨by kernel_rfl, fun w' hw => by (go_simp)⟩) hS ?_
              refine wpAnyH_take (i := 7) (v := (.pointer (some ⟨p, 1, none⟩))) rfl (by kernel_rfl) (by kernel_rfl) (by kernel_rfl) (fun _ _ _ h => h) (Or.inl ⟨by kernel_rfl, fun w' hw => by (go_simp)⟩) hS ?_
              refine wpAnyH_take (i := 8) (v := (.slice (some ⟨sg, 0, none⟩) N sc)) rfl (by kernel_rfl) (by kernel_rfl) (by kernel_rfl) (fun _ _ _ h => h) (Or.inl ⟨by kernel_rfl, fun w' hw => by (obtain ⟨z0, z1, z2, z3, z4, z5⟩ := hw; go_simp)⟩) hS ?_
              refine wpAnyH_take (i := 9) (v := (.int .i64 (i : Int))) rfl (by kernel_rfl) (by kernel_rfl) (by kernel_rfl) (fun _ _ _ h => h) (Or.inl ⟨by kernel_rfl, fun w' hw => by (go_simp)⟩) hS ?_
              refine wpAnyH_take (i := 10) (v := (.pointer (some ⟨sg, i, none⟩))) rfl (by kernel_rfl) (by kernel_rfl) (by kernel_rfl) (fun _ _ _ h => h) (Or.inl ⟨by kernel_rfl, fun w' hw => by (have e := IX1.out w'; go_simp)⟩) hS ?_
              refine wpAnyH_take (i := 11) (v := (.int .u64 (sx : Int))) rfl (by kernel_rfl) (by kernel_rfl) (by kernel_rfl) (fun _ _ _ h => h) (Or.inl ⟨by kernel_rfl, fun w' hw => by (obtain ⟨z0, z1, z2, z3, z4, z5⟩ := hw; go_simp)⟩) hS ?_
              refine wpAnyH_goS (i := 4) (by kernel_rfl) rfl (by kernel_rfl) (fun K hK => ?_)
              go_wp2_with (go_at_call 14; refine (KNS.out _ ?hx).mono ?_; (case hx => exact HDR.out); rintro e w' ⟨rfl, hw⟩; obtain rfl := hw.symm)
              refine hK.out _ _ hS ?_
              clear hK K
              refine wpAnyH_take (i := 12) (v := (.bool false)) rfl (by kernel_rfl) (by kernel_rfl) (by kernel_rfl) (fun _ _ _ h => h) (Or.inl ⟨by kernel_rfl, fun w' hw => by (go_simp)⟩) hS ?_
              refine wpAnyH_take (i := 13) (v := (.bool false)) rfl (by kernel_rfl) (by kernel_rfl) (by kernel_rfl) (fun _ _ _ h => h) (Or.inl ⟨by kernel_rfl, fun w' hw => by (go_simp)⟩) hS ?_
              refine wpAnyH_take (i := 14) (v := (.bool true)) rfl (by kernel_rfl) (by kernel_rfl) (by kernel_rfl) (fun _ _ _ h => h) (Or.inl ⟨by kernel_rfl, fun w' hw => by (go_simp)⟩) hS ?_
              refine wpAnyH_take (i := 15) (v := (.bool false)) rfl (by kernel_rfl) (by kernel_rfl) (by kernel_rfl) (fun _ _ _ h => h) (Or.inl ⟨by kernel_rfl, fun w' hw => by (go_simp)⟩) hS ?_
              refine wpAnyH_take (i := 16) (v := (.bool false)) rfl (by kernel_rfl) (by kernel_rfl) (by kernel_rfl) (fun _ _ _ h => h) (Or.inl ⟨by kernel_rfl, fun w' hw => by (go_simp)⟩) hS ?_
              refine wpAnyH_take (i := 17) (v := (.bool false)) rfl (by kernel_rfl) (by kernel_rfl) (by kernel_rfl) (fun _ _ _ h => h) (Or.inl ⟨by kernel_rfl, fun w' hw => by (go_simp)⟩) hS ?_
              refine wpAnyH_take (i := 18) (v := (.pointer (some ⟨p, 0, none⟩))) rfl (by kernel_rfl) (by kernel_rfl) (by kernel_rfl) (fun _ _ _ h => h) (Or.inl ⟨by kernel_rfl, fun w' hw => by (go_simp)⟩) hS ?_
              refine wpAnyH_take (i := 19) (v := (.pointer (some ⟨p, 0, none⟩))) rfl (by kernel_rfl) (by kernel_rfl) (by kernel_rfl) (fun _ _ _ h => h) (Or.inl ⟨by kernel_rfl, fun w' hw => by (go_simp)⟩) hS ?_
              refine wpAnyH_take (i := 20) (v := (.pointer (some ⟨p, 4, none⟩))) rfl (by kernel_rfl) (by kernel_rfl) (by kernel_rfl) (fun _ _ _ h => h) (Or.inl ⟨by kernel_rfl, fun w' hw => by (go_simp)⟩) hS ?_
              refine wpAnyH_take (i := 21) (v := (.slice (some ⟨ug, 0, none⟩) N uc)) rfl (by kernel_rfl) (by kernel_rfl) (by kernel_rfl) (fun _ _ _ h => h) (Or.inl ⟨by kernel_rfl, fun w' hw => by (obtain ⟨z0, z1, z2, z3, z4, z5⟩ := hw; go_simp)⟩) hS ?_
              refine wpAnyH_take (i := 22) (v := (.int .i64 (i : Int))) rfl (by kernel_rfl) (by kernel_rfl) (by kernel_rfl) (fun _ _ _ h => h) (Or.inl ⟨by kernel_rfl, fun w' hw => by (go_simp)⟩) hS ?_
              refine wpAnyH_take (i := 23) (v := (.pointer (some ⟨ug, i, none⟩))) rfl (by kernel_rfl) (by kernel_rfl) (by kernel_rfl) (fun _ _ _ h => h) (Or.inl ⟨by kernel_rfl, fun w' hw => by (have e := IX2.out w'; go_simp)⟩) hS ?_
              refine wpAnyH_take (i := 24) (v := (.bool true)) rfl (by kernel_rfl) (by kernel_rfl) (by kernel_rfl) (fun _ _ _ h => h) (Or.inl ⟨by kernel_rfl, fun w' hw => by (obtain ⟨z0, z1, z2, z3, z4, z5⟩ := hw; go_simp)⟩) hS ?_
              refine wpAnyH_take (i := 25) (v := (.bool true)) rfl (by kernel_rfl) (by kernel_rfl) (by kernel_rfl) (fun _ _ _ h => h) (Or.inl ⟨by kernel_rfl, fun w' hw => by (go_simp)⟩) hS ?_
              refine wpAnyH_take (i := 26) (v := (.int .u64 (lx : Int))) rfl (by kernel_rfl) (by kernel_rfl) (by kernel_rfl) (fun _ _ _ h => h) (Or.inl ⟨by kernel_rfl, fun w' hw => by (go_simp)⟩) hS ?_
              refine wpAnyH_take (i := 27) (v := (.pointer (some ⟨p, 0, none⟩))) rfl (by kernel_rfl) (by kernel_rfl) (by kernel_rfl) (fun _ _ _ h => h) (Or.inl ⟨by kernel_rfl, fun w' hw => by (go_simp)⟩) hS ?_
              refine wpAnyH_take (i := 28) (v := (.pointer (some ⟨p, 0, none⟩))) rfl (by kernel_rfl) (by kernel_rfl) (by kernel_rfl) (fun _ _ _ h => h) (Or.inl ⟨by kernel_rfl, fun w' hw => by (go_simp)⟩) hS ?_
              refine wpAnyH_take (i := 29) (v := (.pointer (some ⟨p, 3, none⟩))) rfl (by kernel_rfl) (by kernel_rfl) (by kernel_rfl) (fun _ _ _ h => h) (Or.inl ⟨by kernel_rfl, fun w' hw => by (go_simp)⟩) hS ?_
              refine wpAnyH_take (i := 30) (v := (.slice (some ⟨lg, 0, none⟩) N lc)) rfl (by kernel_rfl) (by kernel_rfl) (by kernel_rfl) (fun _ _ _ h => h) (Or.inl ⟨by kernel_rfl, fun w' hw => by (obtain ⟨z0, z1, z2, z3, z4, z5⟩ := hw; go_simp)⟩) hS ?_
              refine wpAnyH_take (i := 31) (v := (.int .i64 (i : Int))) rfl (by kernel_rfl) (by kernel_rfl) (by kernel_rfl) (fun _ _ _ h => h) (Or.inl ⟨by kernel_rfl, fun w' hw => by (go_simp)⟩) hS ?_
              refine wpAnyH_take (i := 32) (v := (.pointer (some ⟨lg, i, none⟩))) rfl (by kernel_rfl) (by kernel_rfl) (by kernel_rfl) (fun _ _ _ h => h) (Or.inl ⟨by kernel_rfl, fun w' hw => by (have e := IX3.out w'; go_simp)⟩) hS ?_
              refine wpAnyH_take (i := 33) (v := (.int .u64 (lx : Int))) rfl (by kernel_rfl) (by kernel_rfl) (by kernel_rfl) (fun _ _ _ h => h) (Or.inl ⟨by kernel_rfl, fun w' hw => by (obtain ⟨z0, z1, z2, z3, z4, z5⟩ := hw; go_simp)⟩) hS ?_
              refine wpAnyH_take (i := 34) (v := (.bool false)) rfl (by kernel_rfl) (by kernel_rfl) (by kernel_rfl) (fun _ _ _ h => h) (Or.inl ⟨by kernel_rfl, fun w' hw => by (go_simp)⟩) hS ?_
              refine wpAnyH_take (i := 35) (v := (.bool false)) rfl (by kernel_rfl) (by kernel_rfl) (by kernel_rfl) (fun _ _ _ h => h) (Or.inl ⟨by kernel_rfl, fun w' hw => by (go_simp)⟩) hS ?_
              refine wpAnyH_take (i := 36) (v := (.bool false)) rfl (by kernel_rfl) (by kernel_rfl) (by kernel_rfl) (fun _ _ _ h => h) (Or.inl ⟨by kernel_rfl, fun w' hw => by (go_simp)⟩) hS ?_
              refine wpAnyH_done (by kernel_rfl) ?_ _
              simp only [Act.put, List.getElem_toArray, List.getElem_cons_zero, List.getElem_cons_succ, List.setIfInBounds_toArray, List.set_cons_zero, List.set_cons_succ]
              go_wp2_with (fail)
              go_roundw
              case rel => exact ⟨i + 1, int_congrP (by omega), by omega, HDR.out⟩
              case measure => simp [intOf]; omega
            | false =>
              have S26 := hide (show WR.drew.cell? ⟨p, 1, none⟩ = some (.slice (some ⟨sg, 0, none⟩) N sc) ∧ WR.drew.cell? ⟨sg, i, none⟩ = some (.int .u64 (sx : Int)) ∧ WR.drew.cell? ⟨p, 4, none⟩ = some (.slice (some ⟨ug, 0, none⟩) N uc) ∧ WR.drew.cell? ⟨ug, i, none⟩ = some (.bool false) ∧ WR.drew.cell? ⟨p, 3, none⟩ = some (.slice (some ⟨lg, 0, none⟩) N lc) ∧ WR.drew.cell? ⟨lg, i, none⟩ = some (.int .u64 (lx : Int)) from S26a.out)
              clear hsu
              go_wp2_with (fail)
              refine wp_region_held_drew (S := fun Y => Y.cell? ⟨p, 1, none⟩ = some (.slice (some ⟨sg, 0, none⟩) N sc) ∧ Y.cell? ⟨sg, i, none⟩ = some (.int .u64 (sx : Int)) ∧ Y.cell? ⟨p, 4, none⟩ = some (.slice (some ⟨ug, 0, none⟩) N uc) ∧ Y.cell? ⟨ug, i, none⟩ = some (.bool false) ∧ Y.cell? ⟨p, 3, none⟩ = some (.slice (some ⟨lg, 0, none⟩) N lc) ∧ Y.cell? ⟨lg, i, none⟩ = some (.int .u64 (lx : Int))) (by kernel_rfl) S26.out (fun hS => ?_)
              refine wpAnyH_take (i := 0) (v := (.slice (some ⟨R, 0, none⟩) nb nb)) rfl (by kernel_rfl) (by kernel_rfl) (by kernel_rfl) (fun _ _ _ h => h) (Or.inl ⟨by kernel_rfl, fun w' hw => by (go_simp)⟩) hS ?_
              refine wpAnyH_take (i := 1) (v := (.int .i64 (i : Int))) rfl (by kernel_rfl) (by kernel_rfl) (by kernel_rfl) (fun _ _ _ h => h) (Or.inl ⟨by kernel_rfl, fun w' hw => by (go_simp)⟩) hS ?_
              refine wpAnyH_take (i := 2) (v := (.int .i64 (8 * (i : Int)))) rfl (by kernel_rfl) (by kernel_rfl) (by kernel_rfl) (fun _ _ _ h => h) (Or.inl ⟨by kernel_rfl, fun w' hw => by (have wr8 := WRI.out; go_simp)⟩) hS ?_
              refine wpAnyH_take (i := 3) (v := (.slice (some ⟨R, 8 * i, none⟩) (nb - 8 * i) (nb - 8 * i))) rfl (by kernel_rfl) (by kernel_rfl) (by kernel_rfl) (fun _ _ _ h => h) (Or.inl ⟨by kernel_rfl, fun w' hw => by (have e := SLR.out w'; go_simp)⟩) hS ?_
              refine wpAnyH_take (i := 5) (v := (.pointer (some ⟨p, 0, none⟩))) rfl (by kernel_rfl) (by kernel_rfl) (by kernel_rfl) (fun _ _ _ h => h) (Or.inl ⟨by kernel_rfl, fun w' hw => by (go_simp)⟩) hS ?_
              refine wpAnyH_take (i := 6) (v := (.pointer (some ⟨p, 0, none⟩))) rfl (by kernel_rfl) (by kernel_rfl) (by kernel_rfl) (fun _ _ _ h => h) (Or.inl ⟨by kernel_rfl, fun w' hw => by (go_simp)⟩) hS ?_
              refine wpAnyH_take (i := 7) (v := (.pointer (some ⟨p, 1, none⟩))) rfl (by kernel_rfl) (by kernel_rfl) (by kernel_rfl) (fun _ _ _ h => h) (Or.inl ⟨by kernel_rfl, fun w' hw => by (go_simp)⟩) hS ?_
              refine wpAnyH_take (i := 8) (v := (.slice (some ⟨sg, 0, none⟩) N sc)) rfl (by kernel_rfl) (by kernel_rfl) (by kernel_rfl) (fun _ _ _ h => h) (Or.inl ⟨by kernel_rfl, fun w' hw => by (obtain ⟨z0, z1, z2, z3, z4, z5⟩ := hw; go_simp)⟩) hS ?_
              refine wpAnyH_take (i := 9) (v := (.int .i64 (i : Int))) rfl (by kernel_rfl) (by kernel_rfl) (by kernel_rfl) (fun _ _ _ h => h) (Or.inl ⟨by kernel_rfl, fun w' hw => by (go_simp)⟩) hS ?_
              refine wpAnyH_take (i := 10) (v := (.pointer (some ⟨sg, i, none⟩))) rfl (by kernel_rfl) (by kernel_rfl) (by kernel_rfl) (fun _ _ _ h => h) (Or.inl ⟨by kernel_rfl, fun w' hw => by (have e := IX1.out w'; go_simp)⟩) hS ?_
              refine wpAnyH_take (i := 11) (v := (.int .u64 (sx : Int))) rfl (by kernel_rfl) (by kernel_rfl) (by kernel_rfl) (fun _ _ _ h => h) (Or.inl ⟨by kernel_rfl, fun w' hw => by (obtain ⟨z0, z1, z2, z3, z4, z5⟩ := hw; go_simp)⟩) hS ?_
              refine wpAnyH_goS (i := 4) (by kernel_rfl) rfl (by kernel_rfl) (fun K hK => ?_)
              go_wp2_with (go_at_call 14; refine (KNS.out _ ?hx).mono ?_; (case hx => exact HDR.out); rintro e w' ⟨rfl, hw⟩; obtain rfl := hw.symm)
              refine hK.out _ _ hS ?_
              clear hK K
              refine wpAnyH_take (i := 12) (v := (.bool false)) rfl (by kernel_rfl) (by kernel_rfl) (by kernel_rfl) (fun _ _ _ h => h) (Or.inl ⟨by kernel_rfl, fun w' hw => by (go_simp)⟩) hS ?_
              refine wpAnyH_take (i := 13) (v := (.bool false)) rfl (by kernel_rfl) (by kernel_rfl) (by kernel_rfl) (fun _ _ _ h => h) (Or.inl ⟨by kernel_rfl, fun w' hw => by (go_simp)⟩) hS ?_
              refine wpAnyH_take (i := 14) (v := (.bool true)) rfl (by kernel_rfl) (by kernel_rfl) (by kernel_rfl) (fun _ _ _ h => h) (Or.inl ⟨by kernel_rfl, fun w' hw => by (go_simp)⟩) hS ?_
              refine wpAnyH_take (i := 15) (v := (.bool false)) rfl (by kernel_rfl) (by kernel_rfl) (by kernel_rfl) (fun _ _ _ h => h) (Or.inl ⟨by kernel_rfl, fun w' hw => by (go_simp)⟩) hS ?_
              refine wpAnyH_take (i := 16) (v := (.bool false)) rfl (by kernel_rfl) (by kernel_rfl) (by kernel_rfl) (fun _ _ _ h => h) (Or.inl ⟨by kernel_rfl, fun w' hw => by (go_simp)⟩) hS ?_
              refine wpAnyH_take (i := 17) (v := (.bool false)) rfl (by kernel_rfl) (by kernel_rfl) (by kernel_rfl) (fun _ _ _ h => h) (Or.inl ⟨by kernel_rfl, fun w' hw => by (go_simp)⟩) hS ?_
              refine wpAnyH_take (i := 18) (v := (.pointer (some ⟨p, 0, none⟩))) rfl (by kernel_rfl) (by kernel_rfl) (by kernel_rfl) (fun _ _ _ h => h) (Or.inl ⟨by kernel_rfl, fun w' hw => by (go_simp)⟩) hS ?_
              refine wpAnyH_take (i := 19) (v := (.pointer (some ⟨p, 0, none⟩))) rfl (by kernel_rfl) (by kernel_rfl) (by kernel_rfl) (fun _ _ _ h => h) (Or.inl ⟨by kernel_rfl, fun w' hw => by (go_simp)⟩) hS ?_
              refine wpAnyH_take (i := 20) (v := (.pointer (some ⟨p, 4, none⟩))) rfl (by kernel_rfl) (by kernel_rfl) (by kernel_rfl) (fun _ _ _ h => h) (Or.inl ⟨by kernel_rfl, fun w' hw => by (go_simp)⟩) hS ?_
              refine wpAnyH_take (i := 21) (v := (.slice (some ⟨ug, 0, none⟩) N uc)) rfl (by kernel_rfl) (by kernel_rfl) (by kernel_rfl) (fun _ _ _ h => h) (Or.inl ⟨by kernel_rfl, fun w' hw => by (obtain ⟨z0, z1, z2, z3, z4, z5⟩ := hw; go_simp)⟩) hS ?_
              refine wpAnyH_take (i := 22) (v := (.int .i64 (i : Int))) rfl (by kernel_rfl) (by kernel_rfl) (by kernel_rfl) (fun _ _ _ h => h) (Or.inl ⟨by kernel_rfl, fun w' hw => by (go_simp)⟩) hS ?_
              refine wpAnyH_take (i := 23) (v := (.pointer (some ⟨ug, i, none⟩))) rfl (by kernel_rfl) (by kernel_rfl) (by kernel_rfl) (fun _ _ _ h => h) (Or.inl ⟨by kernel_rfl, fun w' hw => by (have e := IX2.out w'; go_simp)⟩) hS ?_
              refine wpAnyH_take (i := 24) (v := (.bool false)) rfl (by kernel_rfl) (by kernel_rfl) (by kernel_rfl) (fun _ _ _ h => h) (Or.inl ⟨by kernel_rfl, fun w' hw => by (obtain ⟨z0, z1, z2, z3, z4, z5⟩ := hw; go_simp)⟩) hS ?_
              refine wpAnyH_take (i := 25) (v := (.bool false)) rfl (by kernel_rfl) (by kernel_rfl) (by kernel_rfl) (fun _ _ _ h => h) (Or.inl ⟨by kernel_rfl, fun w' hw => by (go_simp)⟩) hS ?_
              refine wpAnyH_take (i := 26) (v := undef) rfl (by kernel_rfl) (by kernel_rfl) (by kernel_rfl) (fun _ _ _ h => h) (Or.inr ⟨by kernel_rfl, rfl⟩) hS ?_
              refine wpAnyH_take (i := 27) (v := undef) rfl (by kernel_rfl) (by kernel_rfl) (by kernel_rfl) (fun _ _ _ h => h) (Or.inr ⟨by kernel_rfl, rfl⟩) hS ?_
              refine wpAnyH_take (i := 28) (v := undef) rfl (by kernel_rfl) (by kernel_rfl) (by kernel_rfl) (fun _ _ _ h => h) (Or.inr ⟨by kernel_rfl, rfl⟩) hS ?_
              refine wpAnyH_take (i := 29) (v := undef) rfl (by kernel_rfl) (by kernel_rfl) (by kernel_rfl) (fun _ _ _ h => h) (Or.inr ⟨by kernel_rfl, rfl⟩) hS ?_
              refine wpAnyH_take (i := 30) (v := undef) rfl (by kernel_rfl) (by kernel_rfl) (by kernel_rfl) (fun _ _ _ h => h) (Or.inr ⟨by kernel_rfl, rfl⟩) hS ?_
              refine wpAnyH_take (i := 31) (v := undef) rfl (by kernel_rfl) (by kernel_rfl) (by kernel_rfl) (fun _ _ _ h => h) (Or.inr ⟨by kernel_rfl, rfl⟩) hS ?_
              refine wpAnyH_take (i := 32) (v := undef) rfl (by kernel_rfl) (by kernel_rfl) (by kernel_rfl) (fun _ _ _ h => h) (Or.inr ⟨by kernel_rfl, rfl⟩) hS ?_
              refine wpAnyH_take (i := 33) (v := undef) rfl (by kernel_rfl) (by kernel_rfl) (by kernel_rfl) (fun _ _ _ h => h) (Or.inr ⟨by kernel_rfl, rfl⟩) hS ?_
              refine wpAnyH_take (i := 34) (v := undef) rfl (by kernel_rfl) (by kernel_rfl) (by kernel_rfl) (fun _ _ _ h => h) (Or.inr ⟨by kernel_rfl, rfl⟩) hS ?_
              refine wpAnyH_take (i := 35) (v := (.bool false)) rfl (by kernel_rfl) (by kernel_rfl) (by kernel_rfl) (fun _ _ _ h => h) (Or.inl ⟨by kernel_rfl, fun w' hw => by (go_simp)⟩) hS ?_
              refine wpAnyH_take (i := 36) (v := (.bool false)) rfl (by kernel_rfl) (by kernel_rfl) (by kernel_rfl) (fun _ _ _ h => h) (Or.inl ⟨by kernel_rfl, fun w' hw => by (go_simp)⟩) hS ?_
              refine wpAnyH_done (by kernel_rfl) ?_ _
              simp only [Act.put, List.getElem_toArray, List.getElem_cons_zero, List.getElem_cons_succ, List.setIfInBounds_toArray, List.set_cons_zero, List.set_cons_succ]
              go_wp2_with (fail)
              go_roundw
              case rel => exact ⟨i + 1, int_congrP (by omega), by omega, HDR.out⟩
              case measure => simp [intOf]; omega
      · have iI : ¬ (i : Int) < (N : Int) := by omega
        have HF := hide (HB1.out.trans (hat.bel.mono HB1.out.size))
        clear hat c0 c3 c4 c5
        go_wp2_with (fail)
        go_ret
        exact ⟨rfl, HF.out⟩
  · have hng2 : nonneg zs = false := by simpa using hng
    have kcr : ∀ (W4 : World) (ca : Option Addr) (cc : Nat), OwnI W4 W3.heap.size (.slice ca nk cc) zs → Below W3.heap.size W3 W4 → W4.cell? ⟨p, 0, none⟩ = some (.pointer (some ⟨b, 0, none⟩)) ∧ Calls Try.prog 8 #[.pointer (some ⟨b, 0, none⟩), .slice ca nk cc] W4 fun e W5 => e = .returned (.int .i64 2) ∧ W5.cell? ⟨p, 0, none⟩ = some (.pointer (some ⟨b, 0, none⟩)) ∧ Pd W1 W5 p b K L B σ := fun W4 ca cc h1 h2 => by
      have hpd4 := hpd3.below h2
      refine ⟨hpd4.pl.c 0, (pcrash_no cc nk hpd4.dev HST.out.off (h1.ints HNK.out HZ.out.1) HNK.out (by omega) hng2).mono ?_⟩
      rintro e W5 ⟨rfl, rfl⟩
      exact ⟨rfl, hpd4.pl.c 0, hpd4⟩
    have KCR := hide kcr
    clear kcr hpd3
    refine wp_region_held_drew (S := fun Y => Y.cell? ⟨p, 0, none⟩ = some (.pointer (some ⟨b, 0, none⟩))) (by kernel_rfl) S9.out (fun hS => ?_)
    refine wpAnyH_take (i := 0) (v := (.pointer (some ⟨p, 0, none⟩))) rfl (by kernel_rfl) (by kernel_rfl) (by kernel_rfl) (fun _ _ _ h => h) (Or.inl ⟨by kernel_rfl, fun w' hw => by (go_simp)⟩) hS ?_
    refine wpAnyH_take (i := 1) (v := (.pointer (some ⟨p, 0, none⟩))) rfl (by kernel_rfl) (by kernel_rfl) (by kernel_rfl) (fun _ _ _ h => h) (Or.inl ⟨by kernel_rfl, fun w' hw => by (go_simp)⟩) hS ?_
    refine wpAnyH_take (i := 2) (v := (.pointer (some ⟨p, 0, none⟩))) rfl (by kernel_rfl) (by kernel_rfl) (by kernel_rfl) (fun _ _ _ h => h) (Or.inl ⟨by kernel_rfl, fun w' hw => by (go_simp)⟩) hS ?_
    refine wpAnyH_take (i := 3) (v := (.pointer (some ⟨b, 0, none⟩))) rfl (by kernel_rfl) (by kernel_rfl) (by kernel_rfl) (fun _ _ _ h => h) (Or.inl ⟨by kernel_rfl, fun w' hw => by (have z0 := hw; go_simp)⟩) hS ?_
    refine wpAnyH_take (i := 4) (v := (.slice ka nk kc)) rfl (by kernel_rfl) (by kernel_rfl) (by kernel_rfl) (fun _ _ _ h => h) (Or.inl ⟨by kernel_rfl, fun w' hw => by (go_simp)⟩) hS ?_
    refine wpAnyH_goS (i := 5) (by kernel_rfl) rfl (by kernel_rfl) (fun K hK => ?_)
    go_wp2_with (go_at_call 9; refine (KCI.out).mono ?_; rintro e W4 ⟨ca, cc, rfl, ho4, hb4⟩; have HO4 := hide ho4; have HB4 := hide hb4; clear ho4 hb4)
    obtain ⟨s9b, kcr⟩ := KCR.out W4 ca cc HO4.out HB4.out
    have KC4 := hide kcr
    clear kcr
    refine hK.out _ _ s9b ?_
    clear hK K
    refine wpAnyH_goS (i := 6) (by kernel_rfl) rfl (by kernel_rfl) (fun K hK => ?_)
    go_wp2_with (go_at_call 8; refine (KC4.out).mono ?_; rintro e W5 ⟨rfl, s9c, hc5⟩; have HC5 := hide hc5; clear hc5)
    refine hK.out _ _ s9c ?_
    clear hK K
    refine wpAnyH_take (i := 7) (v := (.int .i64 2)) rfl (by kernel_rfl) (by kernel_rfl) (by kernel_rfl) (fun _ _ _ h => h) (Or.inl ⟨by kernel_rfl, fun w' hw => by (go_simp)⟩) s9c ?_
    refine wpAnyH_done (by kernel_rfl) ?_ _
    simp only [Act.put, List.getElem_toArray, List.getElem_cons_zero, List.getElem_cons_succ, List.setIfInBounds_toArray, List.set_cons_zero, List.set_cons_succ]
    have hpd5 := HC5.out
    have kgo := good_any (w := W5) kc nk ((HZ.out.below HB1.out).below hpd5.bel) HNK.out (by omega)
    rw [hng2] at kgo
    have KGO := hide kgo
    have kof := poff_any hpd5.dev
    rw [HST.out.off] at kof
    have KOF := hide kof
    have s0 : W5.cell? ⟨p, 0, none⟩ = some (.pointer (some ⟨b, 0, none⟩)) := hpd5.pl.c 0
    have HF := hide (HB1.out.trans (hpd5.bel.mono HB1.out.size))
    clear kgo kof hpd5 HC5 KC4 KCI KCR hz3 g0 g1
    go_wp2_with (first
      | (go_at_call 10; refine (KGO.out).mono ?_; rintro e w' ⟨rfl, hw⟩; obtain rfl := hw.symm)
      | (go_at_call 11; refine (KOF.out).mono ?_; rintro e w' ⟨rfl, hw⟩; obtain rfl := hw.symm))
    go_ret
    exact ⟨rfl, HF.out⟩
end Go.Proofs.Ytkolhpddeoajjaa
namespace Go.Proofs.Ytkolhpddeoajjaa
open Go.RowKit Go.Shelf
set_option linter.unusedVariables false

theorem pcont_out {w : World} {b : Nat} {L : Lay} {σ : St} (h : DevL w b L σ) (hok : σ.Ok) (x : Int) (hx : x < 0 ∨ (σ.n : Int) ≤ x) : Calls Try.prog 15 #[.pointer (some ⟨b, 0, none⟩), .int .i64 x] w fun e w' => e = .returned (.slice none 0 0) ∧ w' = w := by
  have kn := pnone_any h
  have c1 := h.c1
  have KN := hide kn
  have hmx := hok.max
  have nI : (σ.n : Int) ≤ 65536 := by omega
  clear h kn hok
  generalize σ.n = n at *
  by_cases h0 : x < 0
  · go_enter Try.func15, Try.ntmps15
    go_wp2_with (go_at_call 31; refine (KN.out).mono ?_; rintro e w' ⟨rfl, hw⟩; obtain rfl := hw.symm)
    go_ret
    exact ⟨rfl, rfl⟩
  · have h1 : ¬ x < (n : Int) := by omega
    go_enter Try.func15, Try.ntmps15
    go_wp2_with (go_at_call 31; refine (KN.out).mono ?_; rintro e w' ⟨rfl, hw⟩; obtain rfl := hw.symm)
    go_ret
    exact ⟨rfl, rfl⟩
theorem lost_len {σ : St} {kp : List Nat} {i : Nat} (hok : σ.Ok) (hi : i < σ.n) : (lost σ kp i).length = 64 := by
  unfold lost
  cases hk : (σ.past i)[lostK σ kp i]? with
  | none => exact line_len hok hi
  | some c => exact hok.clen i c (List.mem_of_getElem? hk)
theorem lost_byte {σ : St} {kp : List Nat} {i : Nat} (hok : σ.Ok) : ∀ x ∈ lost σ kp i, x < 256 := by
  unfold lost
  cases hk : (σ.past i)[lostK σ kp i]? with
  | none => exact fun x hx => hok.byte x (line_mem hx)
  | some c => exact fun x hx => hok.cbyte i c (List.mem_of_getElem? hk) x hx
/-- The content that the list names. -/
theorem lost_pick {σ : St} {kp : List Nat} {i k : Nat} (hk : k = lostK σ kp i) : (σ.past i ++ [σ.line i])[k]? = some (lost σ kp i) := by
  have hlt : k ≤ (σ.past i).length := by
    rw [hk]
    unfold lostK
    split
    · have := Nat.mod_lt (by assumption) (show 0 < (σ.past i).length + 1 by omega); omega
    · omega
  unfold lost
  rw [← hk]
  by_cases h : k < (σ.past i).length
  · rw [List.getElem?_append_left h, List.getElem?_eq_getElem h]; rfl
  · have e : k = (σ.past i).length := by omega
    rw [e]
    simp
/-- All lines, one behind the other. -/
theorem flat_lines {σ : St} (hl : σ.bytes.length = 64 * σ.n) (f : Nat → List Nat) (hf : ∀ i, i < σ.n → f i = σ.line i) : ((List.range σ.n).map f).flatten = σ.bytes := by
  have key : ∀ j, j ≤ σ.n → ((List.range j).map f).flatten = σ.bytes.take (64 * j) := by
    intro j
    induction j with
    | zero => intro _; simp
    | succ j ih =>
      intro hj
      rw [List.range_succ, List.map_append, List.flatten_append, ih (by omega)]
      simp only [List.map_cons, List.map_nil, List.flatten_cons, List.flatten_nil, List.append_nil]
      rw [hf j (by omega)]
      unfold St.line
      rw [show 64 * (j + 1) = 64 * j + 64 by omega, List.take_add]
  rw [key σ.n (Nat.le_refl _), List.take_of_length_le (by omega)]
end Go.Proofs.Ytkolhpddeoajjaa
namespace Go.Proofs.Ytkolhpddeoajjaa
open Go.RowKit
set_option linter.unusedVariables false

theorem Try.info22 : (Try.prog.info? 28).map (fun i => (i.zero, i.size, i.bytes)) = some (some (.slice none 0 0), 1, 24) := by kernel_rfl

theorem ownsRow_below {W W' : World} {base : Nat} {e : TypeId} {size : Nat} {v : Value} {k : Nat} {xs : List Value} (h : W.ownsRow base e size v k xs) (hb : Below W.heap.size W W') : W'.ownsRow base e size v k xs := by
  refine ⟨h.1, ?_⟩
  rcases h.2 with h2 | ⟨g, cap, cur, hv, hg, hh, r⟩
  · exact .inl h2
  · exact .inr ⟨g, cap, cur, hv, hg, (hb.block g (Array.getElem?_eq_some_iff.1 hh).1).trans hh, r⟩

/-- Bytes that lie ahead of the call's own memory, or in a block of bytes. -/
def Piece (W : World) (base : Nat) (a : Option Addr) (bs : List Nat) : Prop :=
  bs = [] ∨ ∃ b off, a = some ⟨b, off, none⟩ ∧ b < W.heap.size ∧ (b < base ∨ ∃ cur fr, W.heap[b]? = some (.cells cur 5 fr)) ∧ Seg W b off bs

theorem Piece.sl {W : World} {base : Nat} {a : Option Addr} {bs : List Nat} (h : Piece W base a bs) : Sl W a bs := by
  rcases h with h | ⟨b, off, ha, hl, _, hs⟩
  · exact .inl h
  · exact .inr ⟨b, off, ha, hl, hs⟩
theorem Piece.of_block {W W' : World} {base : Nat} {a : Option Addr} {bs : List Nat} (h : Piece W base a bs) (hs : W.heap.size ≤ W'.heap.size) (hk : ∀ b, b < W.heap.size → (b < base ∨ ∃ cur fr, W.heap[b]? = some (.cells cur 5 fr)) → W'.heap[b]? = W.heap[b]?) : Piece W' base a bs := by
  rcases h with h | ⟨b, off, ha, hl, ht, hg⟩
  · exact .inl h
  · have e := hk b hl ht
    refine .inr ⟨b, off, ha, Nat.lt_of_lt_of_le hl hs, ?_, fun i x hx => ⟨(World.cell?_of_block (w := W) (a := ⟨b, off + i, none⟩) e).trans (hg i x hx).1, (hg i x hx).2⟩⟩
    rcases ht with ht | ⟨cur, fr, ht⟩
    · exact .inl ht
    · exact .inr ⟨cur, fr, e.trans ht⟩
theorem Piece.below {W W' : World} {base : Nat} {a : Option Addr} {bs : List Nat} (h : Piece W base a bs) (hb : Below W.heap.size W W') : Piece W' base a bs :=
  h.of_block hb.size fun b hl _ => hb.block b hl
theorem Piece.grown {W W' : World} {base : Nat} {a : Option Addr} {bs : List Nat} {v : Value} {k : Nat} {xs : List Value} (h : Piece W base a bs) (hown : W.ownsRow base 28 1 v k xs) (hg : W.grownBy W' v.ownBlock) : Piece W' base a bs := by
  refine h.of_block hg.size fun b hl ht => hg.block b hl fun e => ?_
  rcases hown.2 with ⟨rfl, _⟩ | ⟨g, cap, cur, rfl, hb, hh, _⟩
  · simp [Value.ownBlock] at e
  · obtain rfl : b = g := by simpa [Value.ownBlock] using e
    rcases ht with ht | ⟨c2, fr, ht⟩
    · omega
    · rw [hh] at ht; simp at ht
theorem OwnB.piece {W : World} {g : Nat} {bs : List Nat} (h : OwnB W g bs) (base : Nat) (hx : ∀ x ∈ bs, x < 256) : Piece W base (some ⟨g, 0, none⟩) bs :=
  .inr ⟨g, 0, rfl, h.lt, .inr ⟨_, _, h⟩, fun i x hi => ⟨by rw [Nat.zero_add]; exact h.cell i x hi, hx x (List.mem_of_getElem? hi)⟩⟩

/-- Cells that hold slices of these bytes. -/
def Ties (W : World) (base : Nat) (cs : List Value) (rs : List (List Nat)) : Prop :=
  cs.length = rs.length ∧ ∀ (i : Nat) (r : List Nat), rs[i]? = some r → ∃ ai ci, cs[i]? = some (.slice ai r.length ci) ∧ Piece W base ai r ∧ r.length ≤ maxLen

theorem Ties.nil (W : World) (base : Nat) : Ties W base [] [] := ⟨rfl, fun i r h => by simp at h⟩
theorem Ties.below {W W' : World} {base : Nat} {cs : List Value} {rs : List (List Nat)} (h : Ties W base cs rs) (hb : Below W.heap.size W W') : Ties W' base cs rs :=
  ⟨h.1, fun i r hr => by obtain ⟨ai, ci, h1, h2, h3⟩ := h.2 i r hr; exact ⟨ai, ci, h1, h2.below hb, h3⟩⟩
theorem Ties.grown {W W' : World} {base : Nat} {cs : List Value} {rs : List (List Nat)} {v : Value} {k : Nat} {xs : List Value} (h : Ties W base cs rs) (hown : W.ownsRow base 28 1 v k xs) (hg : W.grownBy W' v.ownBlock) : Ties W' base cs rs :=
  ⟨h.1, fun i r hr => by obtain ⟨ai, ci, h1, h2, h3⟩ := h.2 i r hr; exact ⟨ai, ci, h1, h2.grown hown hg, h3⟩⟩
theorem Ties.snoc {W : World} {base : Nat} {cs : List Value} {rs : List (List Nat)} (h : Ties W base cs rs) {a : Option Addr} {r : List Nat} (c : Nat) (hp : Piece W base a r) (hl : r.length ≤ maxLen) : Ties W base (cs ++ [.slice a r.length c]) (rs ++ [r]) := by
  refine ⟨by simp [h.1], fun i r' hr => ?_⟩
  by_cases hi : i < rs.length
  · rw [List.getElem?_append_left hi] at hr
    rw [List.getElem?_append_left (by rw [h.1]; exact hi)]
    exact h.2 i r' hr
  · rw [List.getElem?_append_right (by omega)] at hr
    rw [List.getElem?_append_right (by rw [h.1]; omega), h.1]
    have h0 : i - rs.length = 0 := by
      have := (List.getElem?_eq_some_iff.1 hr).1
      simp at this
      omega
    rw [h0] at hr ⊢
    simp at hr
    subst hr
    exact ⟨a, c, by simp, hp, hl⟩
theorem slr_of_owns {W : World} {base : Nat} {v : Value} {cs : List Value} {rs : List (List Nat)} (h : W.ownsRow base 28 1 v cs.length cs) (ht : Ties W base cs rs) : ∃ a cap, v = .slice a rs.length cap ∧ SlR W a rs := by
  rcases h.2 with ⟨rfl, h0⟩ | ⟨g, cap, cur, rfl, _, hg, hn, _, hs, hc⟩
  · rw [ht.1] at h0
    exact ⟨none, 0, by rw [h0], .inl (List.eq_nil_of_length_eq_zero h0)⟩
  · refine ⟨_, cap, by rw [ht.1], .inr ⟨g, 0, rfl, (Array.getElem?_eq_some_iff.1 hg).1, fun i r hr => ?_⟩⟩
    obtain ⟨ai, ci, h1, h2, h3⟩ := ht.2 i r hr
    refine ⟨ai, ci, ?_, h2.sl, h3⟩
    have hi : i < cs.length := (List.getElem?_eq_some_iff.1 h1).1
    rw [← hc, List.getElem?_take, if_pos (by omega)] at h1
    simp only [Nat.zero_add, World.cell?, hg]
    simpa using h1

end Go.Proofs.Ytkolhpddeoajjaa
namespace Go.Proofs.Ytkolhpddeoajjaa
open Go.RowKit
set_option linter.unusedVariables false

theorem flat_at {rs : List (List Nat)} {i : Nat} {r : List Nat} (h : rs[i]? = some r) : (rs.take i).flatten.length + r.length ≤ rs.flatten.length := by
  have e := List.take_append_drop (i + 1) rs
  have l := congrArg (fun l => l.flatten.length) e
  simp only [List.flatten_append, List.length_append, List.take_add_one, h, Option.toList_some, List.flatten_cons, List.flatten_nil, List.append_nil] at l
  omega
theorem flat_next {rs : List (List Nat)} {i : Nat} {r : List Nat} (h : rs[i]? = some r) : (rs.take (i + 1)).flatten = (rs.take i).flatten ++ r := by
  simp [List.take_add_one, h]

set_option maxHeartbeats 1000000 in
theorem join_any (a : Option Addr) (cap : Nat) (rs : List (List Nat)) (w : World) (hg : SlR w a rs) (hn : rs.length ≤ 1000000000000) (hl : rs.flatten.length ≤ 140737488355328) :
    Calls Try.prog 17 #[.slice a rs.length cap] w fun e w' => ∃ v, e = .returned v ∧ w'.ownsRow w.heap.size 5 1 v rs.flatten.length (rs.flatten.map B8) ∧ Below w.heap.size w w' := by
  obtain ⟨i0, hi, hz0, hz1, hz2⟩ := info_parts Try.info5
  go_enter Try.func17, Try.ntmps17
  go_wp2
  go_loopw [3, 4] (fun v i wr => ∃ (k : Nat), k ≤ rs.length ∧ i = .int .i64 k ∧ wr.ownsRow w.heap.size 5 1 v (rs.take k).flatten.length ((rs.take k).flatten.map B8) ∧ Below w.heap.size w wr)
    (fun _ i _ => rs.length - (intOf i).toNat)
  case atStart => exact ⟨0, by omega, rfl, World.ownsRow_nil _ _ _ _, Below.refl _ _⟩
  case round =>
    obtain ⟨k, hk, rfl, hown, hB⟩ := hrel
    have HO := hide hown
    have HB := hide hB
    clear hown hB
    by_cases hlt : k < rs.length
    · obtain ⟨r, hrk⟩ : ∃ r, rs[k]? = some r := ⟨_, List.getElem?_eq_getElem hlt⟩
      obtain ⟨b, off, rfl, hbl, hseg⟩ : ∃ b off, a = some ⟨b, off, none⟩ ∧ b < w.heap.size ∧ ∀ (i : Nat) (r : List Nat), rs[i]? = some r → ∃ ai cap, w.cell? ⟨b, off + i, none⟩ = some (.slice ai r.length cap) ∧ Sl w ai r ∧ r.length ≤ maxLen := by
        rcases hg with rfl | h
        · simp at hlt
        · exact h
      obtain ⟨ai, ci, hc0, hsl, hm⟩ := hseg k r hrk
      have hfl := flat_at hrk
      have HF : Hid ((rs.take k).flatten.length + r.length ≤ 140737488355328) := Nat.le_trans hfl hl
      have hrl : r.length ≤ 140737488355328 := by omega
      have HX := hide hrk
      have HS := hide hsl
      have HC := hide hc0
      have HG := hide hg
      clear hrk hc0 hsl hm hseg hg hfl
      have hki : (k : Int) < (rs.length : Int) := by omega
      go_wp2
      generalize hPe : (rs.take k).flatten = P at HO HF
      have HP := hide hPe
      clear hPe
      go_loopw [3, 5] (fun v i wq => ∃ (j : Nat), j ≤ r.length ∧ i = .int .i64 j ∧ wq.ownsRow w.heap.size 5 1 v (P ++ r.take j).length ((P ++ r.take j).map B8) ∧ Below w.heap.size w wq)
        (fun _ i _ => r.length - (intOf i).toNat)
      case atStart => exact ⟨0, by omega, rfl, by simpa using HO.out, HB.out⟩
      case round =>
        obtain ⟨j, hj, rfl, hown, hB⟩ := hrel
        have HO2 := hide hown
        have HB2 := hide hB
        have hsz := hB.size
        have hc : wr.cell? ⟨b, off + k, none⟩ = some (.slice ai r.length ci) := (hB.cell (p := ⟨b, off + k, none⟩) hbl).trans HC.out
        clear hown hB
        by_cases hjl : j < r.length
        · obtain ⟨x, hx⟩ : ∃ x, r[j]? = some x := ⟨_, List.getElem?_eq_getElem hjl⟩
          obtain ⟨b2, o2, rfl, hb2, hs2⟩ : ∃ b off, ai = some ⟨b, off, none⟩ ∧ b < w.heap.size ∧ Seg w b off r := by
            rcases HS.out with rfl | h
            · simp at hjl
            · exact h
          have hcx : wr.cell? ⟨b2, o2 + j, none⟩ = some (.int .u8 (x : Int)) := (HB2.out.cell (p := ⟨b2, o2 + j, none⟩) hb2).trans (hs2 j x hx).1
          have hji : (j : Int) < (r.length : Int) := by omega
          have HXX := hide hx
          clear hx hs2
          have HPL : Hid ((P ++ r.take j).length + 1 ≤ 140737488355328) := show _ ≤ _ by have := HF.out; simp; omega
          go_wp2_with (at_builtin; refine wpList_append_own _ rfl _ _ 28 rfl w.heap.size 5 i0 (.int .u8 0) 1 1 Try.underlying28 hi hz0 hz1 hz2 rfl (by omega) _ _ _ rfl (HO2.out.alloc _) ⟨wr.heap.size, 0, none⟩ 1 1 [.int .u8 (x : Int)] rfl rfl (cell_one_new _ _ _) (by simp [Value.oneCell']) (by have := HPL.out; unfold maxLen; omega) (by have := HPL.out; omega) (by simp; omega) ?_; intro v3 w3 hown3 hgrow3 _)
          have HO3 := hide hown3
          have HB3 : Hid (Below w.heap.size w w3) := (HB2.out.alloc (by omega) _).grown hgrow3 (by simp; omega) (fun j e => (HO2.out.lt j e).1)
          clear hown3 hgrow3
          go_wp2
          go_roundw
          case rel =>
            refine ⟨j + 1, by omega, by go_num, ?_, HB3.out⟩
            have h := HO3.out
            rw [List.take_add_one, HXX.out]
            simpa [B8, Nat.add_assoc] using h
          case measure => simp [intOf]; omega
        · have hjj : j = r.length := by omega
          have HJ := hide hjj
          have hji : (r.length : Int) ≤ (j : Int) := by omega
          clear hjj
          go_wp2
          go_roundw
          case rel =>
            refine ⟨k + 1, by omega, by go_num, ?_, HB2.out⟩
            have h := HO2.out
            rw [HJ.out, List.take_length] at h
            rw [flat_next HX.out, HP.out]
            exact h
          case measure => simp [intOf]; omega
    · have hkk : k = rs.length := by omega
      have HK := hide hkk
      have hki : (rs.length : Int) ≤ (k : Int) := by omega
      clear hg hkk
      go_wp2
      go_ret
      have h := HO.out
      rw [HK.out, List.take_length] at h
      exact ⟨_, rfl, h, HB.out⟩


end Go.Proofs.Ytkolhpddeoajjaa
namespace Go.Proofs.Ytkolhpddeoajjaa
open Go.RowKit Go.Shelf
set_option linter.unusedVariables false

theorem index_bytes2 (g o i len cap : Nat) (hi : i < len) (w : World) : (Instr.indexAt 46 (.slice (some ⟨g, o, none⟩) len cap) (.int .i64 (i : Int))).run Try.prog w = .ok (.pointer (some ⟨g, o + i, none⟩)) w := by
  have h := index_at (t := 46) (e := 28) (sz := 1) Try.underlying46 (by kernel_rfl) g o i len cap hi w
  rwa [Nat.mul_one] at h
set_option maxRecDepth 100000 in
set_option maxHeartbeats 4000000 in
theorem pmemKeeps_walk (w : World) (li : Int) (a ka : Option Addr) (c ns kc nk : Nat) (xs : List StpR) (zs : List Int) (hli : -9223372036854775808 ≤ li ∧ li ≤ 9223372036854775807) (hx : ScrP w a ns xs) (hz : IntsP w ka zs) (hnk : zs.length = nk) (hk9 : nk ≤ 17592186043904) :
    Calls Try.prog 4 #[.int .i64 li, .slice a ns c, .slice ka nk kc] w fun e w' => e = .returned (.bool true) ∧ Below w.heap.size w w' := by
  obtain ⟨i0, hi0, hz0, hz1, hz2⟩ := infoRow
  have HX := hide hx
  have HZ := hide hz
  have HNK := hide hnk
  clear hx hz hnk
  go_enter Try.func4, Try.ntmps4
  go_upto_region 6 with (first
    | (go_at_call 5; refine (awake_any w).mono ?_; rintro e W1 ⟨rfl, hB⟩; have HB1 := hide hB; have hx1 := HX.out.below hB; have KBG := hide (begun_any W1 li a c ns xs hli hx1.row hx1.ok hx1.len hx1.few); clear hB hx1)
    | (go_at_call 6; refine (KBG.out).mono ?_; rintro e W2 ⟨p, b, m, K, L, B, σ, rfl, hpd, hst, hn, hmm, hm4, hops, hcap, hz9⟩; have HPD := hide hpd; have HST := hide hst; have HN := hide hn; have HOPS := hide hops; clear hpd hst hn hcap hz9 hops))
  have hm1 : 1 ≤ m := by omega
  have r := HST.out.rel
  obtain ⟨sg, sc, lg0, lc0, ug, uc, mg, mc, hli2⟩ := HPD.out.pl.lies (N := 8 * m) (m := m) (by rw [r.ls, HN.out]) (by rw [r.ll, HN.out]) (by rw [r.lu, HN.out]) (by rw [r.lm, HN.out]) (by omega) (by omega)
  have HLI := hide hli2
  have hz2w : IntsP W2 ka zs := (HZ.out.below HB1.out).below HPD.out.bel
  have kgo := good_any (w := W2) kc nk hz2w HNK.out (by omega)
  have mI : (m : Int) ≤ 4 := by omega
  have HMM := hide hmm
  clear r hli2 hmm KBG
  by_cases hng : nonneg zs = true
  · rw [hng] at kgo
    have KGO := hide kgo
    have HZ2 := hide hz2w
    have HNG := hide hng
    clear kgo hz2w hng
    go_upto_region 8 with (go_at_call 10; refine (KGO.out).mono ?_; rintro e w' ⟨rfl, hw⟩; obtain rfl := hw.symm)
    have hmk : K.mv = .slice (some ⟨mg, 0, none⟩) m mc := HLI.out.m
    have c5 : W2.cell? ⟨p, 5, none⟩ = some (.slice (some ⟨mg, 0, none⟩) m mc) := by rw [← hmk]; exact HPD.out.pl.c 5
    go_upto_region 10 with (fail)
    clear c5 hmk
    go_wp2_with (fail)
    try go_frame
    go_loopw [10, 11] (fun wv iv wr => ∃ (i : Nat) (vals : List Value), iv = .int .i64 (i : Int) ∧ i ≤ m ∧ wr.ownsRow W2.heap.size 28 1 wv i vals ∧ (∀ j, j < i → ∃ g, vals[j]? = some (.slice (some ⟨g, 0, none⟩) 64 64) ∧ OwnB wr g (lost σ (zs.map Int.toNat) j)) ∧ Below W2.heap.size W2 wr) (fun wv iv _ => (m - (intOf iv).toNat))
    case atStart => exact ⟨0, [], rfl, Nat.zero_le _, ⟨rfl, .inl ⟨rfl, rfl⟩⟩, fun j hj => by omega, Below.refl _ _⟩
    case round =>
      obtain ⟨i, vals, rfl, hi, hown, heach, hBr⟩ := hrel
      have hpd := HPD.out.below hBr
      have c0 : wr.cell? ⟨p, 0, none⟩ = some (.pointer (some ⟨b, 0, none⟩)) := hpd.pl.c 0
      by_cases hlt : i < m
      · have iI : (i : Int) < (m : Int) := by omega
        have hin : i < σ.n := by rw [HN.out]; exact hlt
        have KCT := hide (pcont_any i hpd.dev HST.out.ok hin)
        have hplen : (σ.past i).length ≤ 1353300000000 := by have := HST.out.ok.few i; have := HOPS.out; have := HX.out.few; omega
        have HOW := hide hown
        have HEA := hide heach
        have HBR := hide hBr
        clear hpd hown heach hBr
        go_upto_region 14 with (go_at_call 15; refine (KCT.out).mono ?_; rintro e W6 ⟨lv, rfl, hrb, hb6⟩; have HRB := hide hrb; have HB6 := hide hb6; clear hrb hb6)
        obtain ⟨vs, ho6, hvl, hve⟩ := HRB.out
        obtain ⟨n1, hn1⟩ : ∃ n1, (σ.past i).length + 1 = n1 := ⟨_, rfl⟩
        have hcl : (σ.past i ++ [σ.line i]).length = n1 := by rw [List.length_append]; exact hn1
        rw [hcl] at ho6 hvl
        obtain ⟨lg, lc, lcur, rfl, hlg, hlb, hlt6, hlc⟩ : ∃ lg lc lcur, lv = .slice (some ⟨lg, 0, none⟩) n1 lc ∧ wr.heap.size ≤ lg ∧ W6.heap[lg]? = some (.cells lcur 28 (0, 0)) ∧ n1 ≤ lcur.size ∧ ∀ (j : Nat) (x : Value), vs[j]? = some x → lcur[j]? = some x := by
          rcases ho6.2 with ⟨_, e⟩ | ⟨g, cap, cur, e, h1, h2, h3, _, h4, h5⟩
          · omega
          · refine ⟨g, cap, cur, e, h1, h2, by omega, fun j x hj => ?_⟩
            have hlt : j < vs.length := (List.getElem?_eq_some_iff.1 hj).1
            have h6 : (cur.toList.take (n1 * 1))[j]? = some x := by rw [h5]; exact hj
            rw [List.getElem?_take, if_pos (by omega)] at h6
            simpa using h6
        obtain ⟨k, hk⟩ : ∃ k, k = lostK σ (zs.map Int.toNat) i := ⟨_, rfl⟩
        have hpick := lost_pick hk
        have hkn : k < n1 := by have := (List.getElem?_eq_some_iff.1 hpick).1; omega
        obtain ⟨kg, hkg, hkb, hko⟩ := hve k _ hpick
        obtain ⟨eg, heg, heb, heo⟩ := hve (σ.past i).length (σ.line i) (by simp)
        have ck : W6.cell? ⟨lg, k, none⟩ = some (.slice (some ⟨kg, 0, none⟩) 64 64) := (cell8 hlb k).trans (hlc k _ hkg)
        have hbw6 : Below W2.heap.size W2 W6 := HBR.out.trans (HB6.out.mono HBR.out.size)
        have hown6 : W6.ownsRow W2.heap.size 28 1 u10 i vals := ownsRow_of_block HOW.out (fun g hg => by obtain ⟨c, hc⟩ := own_type HOW.out hg; exact HB6.out.block g (lt_of_heap hc))
        have hu10 : ∀ g, u10.ownBlock = some g → g < wr.heap.size ∧ W2.heap.size ≤ g ∧ ∃ c, wr.heap[g]? = some (.cells c 28 (0, 0)) := fun g hg => by
          obtain ⟨c, hc⟩ := own_type HOW.out hg
          refine ⟨lt_of_heap hc, ?_, c, hc⟩
          rcases HOW.out.2 with ⟨e1, _⟩ | ⟨g', cap, cur, e1, e2, _⟩
          · rw [e1] at hg; cases hg
          · rw [e1] at hg; cases hg; exact e2
        have ixk := fun X => index_bytes2 lg 0 k n1 lc hkn X
        have ixe := fun X => index_bytes2 lg 0 (σ.past i).length n1 lc (by omega) X
        rw [show (((σ.past i).length : Nat) : Int) = (n1 : Int) - 1 by omega] at ixe
        simp only [Nat.zero_add] at ixk ixe
        have app : ∀ v1 x1, x1.ownsRow W2.heap.size 28 1 v1 (i + 1) (vals ++ [.slice (some ⟨kg, 0, none⟩) 64 64]) → (W6.alloc (.cells #[.slice (some ⟨kg, 0, none⟩) 64 64] 28)).grownBy x1 u10.ownBlock →
            x1.cell? ⟨p, 0, none⟩ = some (.pointer (some ⟨b, 0, none⟩)) ∧ x1.cell? ⟨lg, (σ.past i).length, none⟩ = some (.slice (some ⟨eg, 0, none⟩) 64 64) ∧
            Calls Try.prog 7 #[.pointer (some ⟨b, 0, none⟩), .int .i64 (64 * (i : Int)), .int .i64 64] x1 fun e w' => ∃ R, e = .returned (.tuple #[.slice (some ⟨R, 0, none⟩) 64 64, .int .i64 0]) ∧ w'.cell? ⟨lg, (σ.past i).length, none⟩ = some (.slice (some ⟨eg, 0, none⟩) 64 64) ∧
              Calls Try.prog 16 #[.slice (some ⟨R, 0, none⟩) 64 64, .slice (some ⟨eg, 0, none⟩) 64 64] w' fun e w'' => e = .returned (.bool true) ∧ ∃ vals' : List Value, w''.ownsRow W2.heap.size 28 1 v1 (i + 1) vals' ∧ (∀ j, j < i + 1 → ∃ g, vals'[j]? = some (.slice (some ⟨g, 0, none⟩) 64 64) ∧ OwnB w'' g (lost σ (zs.map Int.toNat) j)) ∧ Below W2.heap.size W2 w'' := fun v1 x1 ho hg => by
          have hBa : Below W6.heap.size W6 (W6.alloc (.cells #[.slice (some ⟨kg, 0, none⟩) 64 64] 28)) := (Below.refl _ _).alloc (Nat.le_refl _) _
          have kp6 : ∀ g, g < W6.heap.size → u10.ownBlock ≠ some g → x1.heap[g]? = W6.heap[g]? := fun g h1 h2 => (hg.block g (Nat.lt_of_lt_of_le h1 hBa.size) (fun e => h2 e.symm)).trans (hBa.block g h1)
          have hbx : Below W2.heap.size W2 x1 := by
            have h5 := hbw6.trans (hBa.mono hbw6.size)
            exact ⟨hg.os.trans h5.os, hg.tape.trans h5.tape, hg.output.trans h5.output, Nat.le_trans h5.size hg.size, fun q hq => (hg.block q (Nat.lt_of_lt_of_le hq h5.size) (fun e => by have := (hu10 q e.symm).2.1; omega)).trans (h5.block q hq)⟩
          have hpdx := HPD.out.below hbx
          have hlx : x1.heap[lg]? = W6.heap[lg]? := kp6 lg (lt_of_heap hlb) (fun e => by have := (hu10 lg e).1; omega)
          have cle : x1.cell? ⟨lg, (σ.past i).length, none⟩ = some (.slice (some ⟨eg, 0, none⟩) 64 64) := (cell8 (hlx.trans hlb) _).trans (hlc _ _ heg)
          refine ⟨hpdx.pl.c 0, cle, ?_⟩
          have h5 := callsIn_wide.1 (pload_in (at_ := 64 * i) (n := 64) hpdx.dev HST.out.ok HST.out.off (by omega))
          rw [show ((64 * i : Nat) : Int) = 64 * (i : Int) by omega] at h5
          refine h5.mono ?_
          rintro e w' ⟨R, rfl, q1, q2, q3⟩
          have hli : (σ.bytes.drop (64 * i)).take 64 = σ.line i := rfl
          rw [hli] at q2
          have hll := line_len HST.out.ok hin
          have hegx : x1.heap[eg]? = W6.heap[eg]? := kp6 eg heo.lt (fun e => by have := (hu10 eg e).1; omega)
          have hkgx : x1.heap[kg]? = W6.heap[kg]? := kp6 kg hko.lt (fun e => by have := (hu10 kg e).1; omega)
          have heo1 : OwnB x1 eg (σ.line i) := hegx.trans heo
          have hko1 : OwnB x1 kg (lost σ (zs.map Int.toNat) i) := hkgx.trans hko
          have lb : ∀ x ∈ σ.line i, x < 256 := fun x hx => HST.out.ok.byte x (line_mem hx)
          have ke := eqBytes_any (some ⟨R, 0, none⟩) (some ⟨eg, 0, none⟩) 64 64 (σ.line i) (σ.line i) w' (OwnB.sl (show OwnB w' R (σ.line i) from q2) lb) ((heo1.below q3 heo1.lt).sl lb) (by rw [hll]; omega)
          rw [hll, decide_eq_true rfl] at ke
          refine ⟨R, rfl, (q3.cell (lt_of_heap (hlx.trans hlb))).trans cle, ke.mono ?_⟩
          rintro e w'' ⟨rfl, nq, rfl⟩
          have hbq : Below x1.heap.size x1 (w'.drewN nq) := below_drewN q3 nq
          refine ⟨rfl, vals ++ [.slice (some ⟨kg, 0, none⟩) 64 64], ownsRow_of_block ho (fun g hg2 => by obtain ⟨c, hc⟩ := own_type ho hg2; exact hbq.block g (lt_of_heap hc)), fun j hj => ?_, hbx.trans (hbq.mono hbx.size)⟩
          have hvl2 : vals.length = i := by have := HOW.out.1; omega
          by_cases e : j = i
          · subst e
            refine ⟨kg, by rw [List.getElem?_append_right (by omega), hvl2, Nat.sub_self]; rfl, hko1.below hbq hko1.lt⟩
          · obtain ⟨g, hg1, hg2⟩ := HEA.out j (by omega)
            have hgl := hg2.lt
            have hgx : x1.heap[g]? = wr.heap[g]? := (kp6 g (Nat.lt_of_lt_of_le hgl HB6.out.size) (fun e => by
              obtain ⟨_, _, c, hc⟩ := hu10 g e
              exact ne_ty (show wr.heap[g]? = _ from hg2) hc (by decide) rfl)).trans (HB6.out.block g hgl)
            have hg3 : OwnB x1 g (lost σ (zs.map Int.toNat) j) := hgx.trans hg2
            exact ⟨g, by rw [List.getElem?_append_left (by omega)]; exact hg1, hg3.below hbq hg3.lt⟩
        have ho2 : (W6.alloc (.cells #[.slice (some ⟨kg, 0, none⟩) 64 64] 28)).ownsRow W2.heap.size 28 1 u10 i vals := ownsRow_of_block hown6 (fun g hg => by obtain ⟨c, hc⟩ := own_type hown6 hg; exact ((Below.refl _ W6).alloc (Nat.le_refl _) _).block g (lt_of_heap hc))
        have hbs : W2.heap.size ≤ (W6.alloc (.cells #[.slice (some ⟨kg, 0, none⟩) 64 64] 28)).heap.size := by rw [World.size_alloc]; have := hbw6.size; omega
        have APP := hide app
        have HO2 := hide ho2
        have HBS := hide hbs
        have hzw := HZ2.out.below hbw6
        have n1I : (n1 : Int) ≤ 1353300000001 := by omega
        have n1P : (1 : Int) ≤ (n1 : Int) := by omega
        have kI : (k : Int) < (n1 : Int) := by omega
        have hkA : ∀ z, (zs)[i]? = some z → k = z.toNat % n1 := fun z hz => by
          rw [hk]
          unfold lostK
          rw [List.getElem?_map, hz]
          show z.toNat % _ = _
          rw [← hn1]
        have hkB : nk ≤ i → k = 0 := fun hge => by
          rw [hk]
          unfold lostK
          rw [List.getElem?_map, List.getElem?_eq_none (by rw [HNK.out]; omega)]
          rfl
        clear hk
        generalize (σ.past i).length = pl at *
        clear app ho2 hbs hown6 hbw6 hu10 hve ho6 hvl hlc hlb hlt6 HRB KCT hkg hkb hko heg heb heo hpick hcl hlg c0
        by_cases hik : i < nk
        · obtain ⟨z, hz⟩ : ∃ z, (zs)[i]? = some z := ⟨_, List.getElem?_eq_getElem (by rw [HNK.out]; exact hik)⟩
          obtain ⟨zg, zo, ekz, cz, hzb⟩ := hzw.at hz
          have hz0' : 0 ≤ z := by
            have h5 := HNG.out
            unfold nonneg at h5
            rw [List.all_eq_true] at h5
            simpa using h5 z (List.mem_of_getElem? hz)
          have hkz : k = z.toNat % n1 := hkA z hz
          have htm : z.tmod (n1 : Int) = (k : Int) := by
            rw [Int.tmod_eq_emod_of_nonneg hz0', hkz]
            obtain ⟨q, rfl⟩ := Int.eq_ofNat_of_zero_le hz0'
            rw [show (q : Int).toNat = q from rfl]
            first | exact (Int.natCast_emod _ _).symm | exact (Int.natCast_mod _ _).symm | rfl
          have ikI : (i : Int) < (nk : Int) := by omega
          have n1N : ¬ (n1 : Int) = 0 := by omega
          have ixz := fun X => index_int zg zo i nk kc hik X
          have zI : z ≤ 9223372036854775807 := hzb.2
          clear hz hkz hkA hkB hn1 hzb hzw
          subst ekz
          go_upto_region 19 with (fail)
          go_upto_region 20 with (at_builtin; refine wpList_append_own_at _ rfl _ _ 46 rfl W2.heap.size 28 i0 (.slice none 0 0) 1 24 Try.underlying46 hi0 hz0 hz1 hz2 rfl (by decide) u10 i vals rfl HO2.out ⟨W6.heap.size, 0, none⟩ 1 1 [.slice (some ⟨kg, 0, none⟩) 64 64] rfl rfl (cellOneK W6 _ _) (by simp [Value.oneCell']) (by unfold maxLen; omega) (by omega) HBS.out ?_; intro v1 x1 ho3 hg3 hnn hat; clear hnn hat; obtain ⟨t1, t2, kld⟩ := APP.out v1 x1 ho3 hg3; obtain ⟨v1a, v1c, rfl⟩ := own_slice ho3; have KLD := hide kld; clear ho3 hg3 kld)
          go_wp2_with (first
            | (go_at_call 7; refine (KLD.out).mono ?_; rintro e W9 ⟨R, rfl, t3, ke⟩; have KE := hide ke; clear ke)
            | (go_at_call 16; refine (KE.out).mono ?_; rintro e WA ⟨rfl, hr⟩; have HR := hide hr; clear hr))
          go_roundw
          case rel =>
            obtain ⟨vals', q1, q2, q3⟩ := HR.out
            exact ⟨i + 1, vals', int_congrP (by omega), by omega, q1, q2, q3⟩
          case measure => simp [intOf]; omega
        · have ikI : ¬ (i : Int) < (nk : Int) := by omega
          have hk0 : k = 0 := hkB (by omega)
          subst hk0
          clear hkA hkB hn1 hzw
          go_upto_region 19 with (fail)
          go_upto_region 20 with (at_builtin; refine wpList_append_own_at _ rfl _ _ 46 rfl W2.heap.size 28 i0 (.slice none 0 0) 1 24 Try.underlying46 hi0 hz0 hz1 hz2 rfl (by decide) u10 i vals rfl HO2.out ⟨W6.heap.size, 0, none⟩ 1 1 [.slice (some ⟨kg, 0, none⟩) 64 64] rfl rfl (cellOneK W6 _ _) (by simp [Value.oneCell']) (by unfold maxLen; omega) (by omega) HBS.out ?_; intro v1 x1 ho3 hg3 hnn hat; clear hnn hat; obtain ⟨t1, t2, kld⟩ := APP.out v1 x1 ho3 hg3; obtain ⟨v1a, v1c, rfl⟩ := own_slice ho3; have KLD := hide kld; clear ho3 hg3 kld)
          go_wp2_with (first
            | (go_at_call 7; refine (KLD.out).mono ?_; rintro e W9 ⟨R, rfl, t3, ke⟩; have KE := hide ke; clear ke)
            | (go_at_call 16; refine (KE.out).mono ?_; rintro e WA ⟨rfl, hr⟩; have HR := hide hr; clear hr))
          go_roundw
          case rel =>
            obtain ⟨vals', q1, q2, q3⟩ := HR.out
            exact ⟨i + 1, vals', int_congrP (by omega), by omega, q1, q2, q3⟩
          case measure => simp [intOf]; omega
      · have iI : ¬ (i : Int) < (m : Int) := by omega
        obtain rfl : m = i := by omega
        have kci : Calls Try.prog 9 #[.slice ka nk kc] wr.drew fun e w' => ∃ ca cc, e = .returned (.slice ca nk cc) ∧ OwnI w' wr.heap.size (.slice ca nk cc) zs ∧ Below wr.heap.size wr w' := by
          refine (copyInts_any kc nk ((HZ2.out.below hBr).below (Below.refl _ wr).drew) HNK.out (by omega)).mono ?_
          rintro e w' ⟨ca, cc, rfl, q1, q2⟩
          exact ⟨ca, cc, rfl, q1, (Below.refl _ wr).drew.trans q2⟩
        have KCI := hide kci
        have S9 := hide (show wr.drew.cell? ⟨p, 0, none⟩ = some (.pointer (some ⟨b, 0, none⟩)) from c0)
        obtain ⟨wg, wc, wcur, rfl, hwg, hwb, hwc⟩ : ∃ wg wc wcur, u10 = .slice (some ⟨wg, 0, none⟩) m wc ∧ W2.heap.size ≤ wg ∧ wr.heap[wg]? = some (.cells wcur 28 (0, 0)) ∧ ∀ (j : Nat) (x : Value), vals[j]? = some x → wcur[j]? = some x := by
          rcases hown.2 with ⟨_, e⟩ | ⟨g, cap, cur, e, h1, h2, h3, _, h4, h5⟩
          · omega
          · refine ⟨g, cap, cur, e, h1, h2, fun j x hj => ?_⟩
            have hlt : j < vals.length := (List.getElem?_eq_some_iff.1 hj).1
            have h6 : (cur.toList.take (m * 1))[j]? = some x := by rw [h5]; exact hj
            have hvl := hown.1
            rw [List.getElem?_take, if_pos (by omega)] at h6
            simpa using h6
        have kcr : ∀ (W4 : World) (ca : Option Addr) (cc : Nat), OwnI W4 wr.heap.size (.slice ca nk cc) zs → Below wr.heap.size wr W4 → W4.cell? ⟨p, 0, none⟩ = some (.pointer (some ⟨b, 0, none⟩)) ∧ Calls Try.prog 8 #[.pointer (some ⟨b, 0, none⟩), .slice ca nk cc] W4 fun e W5 => e = .returned (.int .i64 0) ∧ W5.cell? ⟨p, 0, none⟩ = some (.pointer (some ⟨b, 0, none⟩)) ∧ ∃ L' σ', Lost σ (zs.map Int.toNat) σ' ∧ Pd W1 W5 p b K L' B σ' ∧ (W5.heap[wg]? = some (.cells wcur 28 (0, 0)) ∧ ∀ j, j < m → ∃ g, vals[j]? = some (.slice (some ⟨g, 0, none⟩) 64 64) ∧ OwnB W5 g (lost σ (zs.map Int.toNat) j)) := fun W4 ca cc h1 h2 => by
          refine ⟨(hpd.pl.below h2).c 0, (pd_crash hpd HST.out HN.out HZ2.out.1 HNK.out (by omega) HNG.out h1 h2).mono ?_⟩
          rintro e W5 ⟨rfl, q0, L', σ', q1, q2, q3⟩
          refine ⟨rfl, q0, L', σ', q1, q2, ?_, fun j hj => ?_⟩
          · refine (q3.block (Nat.lt_of_lt_of_le (lt_of_heap hwb) h2.size) (fun e => ?_)).trans ((h2.block wg (lt_of_heap hwb)).trans hwb)
            rcases e with e | e
            · exact ne_ty hwb hpd.dev.dev (by decide) e
            · exact ne_ty hwb hpd.dev.seen (by decide) e
          · obtain ⟨g, hg1, hg2⟩ := heach j hj
            have hgl := hg2.lt
            refine ⟨g, hg1, (q3.block (Nat.lt_of_lt_of_le hgl h2.size) (fun e => ?_)).trans ((h2.block g hgl).trans hg2)⟩
            rcases e with e | e
            · exact ne_ty (show wr.heap[g]? = _ from hg2) hpd.dev.dev (by decide) e
            · exact ne_ty (show wr.heap[g]? = _ from hg2) hpd.dev.seen (by decide) e
        have KCR := hide kcr
        clear kci kcr hpd hown heach hBr hwb c0
        go_wp2_with (fail)
        refine wp_region_held_drew (S := fun Y => Y.cell? ⟨p, 0, none⟩ = some (.pointer (some ⟨b, 0, none⟩))) (by kernel_rfl) S9.out (fun hS => ?_)
        refine wpAnyH_take (i := 0) (v := (.pointer (some ⟨p, 0, none⟩))) rfl (by kernel_rfl) (by kernel_rfl) (by kernel_rfl) (fun _ _ _ h => h) (Or.inl ⟨by kernel_rfl, fun w' hw => by (go_simp)⟩) hS ?_
        refine wpAnyH_take (i := 1) (v := (.pointer (some ⟨p, 0, none⟩))) rfl (by kernel_rfl) (by kernel_rfl) (by kernel_rfl) (fun _ _ _ h => h) (Or.inl ⟨by kernel_rfl, fun w' hw => by (go_simp)⟩) hS ?_
        refine wpAnyH_take (i := 2) (v := (.pointer (some ⟨p, 0, none⟩))) rfl (by kernel_rfl) (by kernel_rfl) (by kernel_rfl) (fun _ _ _ h => h) (Or.inl ⟨by kernel_rfl, fun w' hw => by (go_simp)⟩) hS ?_
        refine wpAnyH_take (i := 3) (v := (.pointer (some ⟨b, 0, none⟩))) rfl (by kernel_rfl) (by kernel_rfl) (by kernel_rfl) (fun _ _ _ h => h) (Or.inl ⟨by kernel_rfl, fun w' hw => by (have z0 := hw; go_simp)⟩) hS ?_
        refine wpAnyH_take (i := 4) (v := (.slice ka nk kc)) rfl (by kernel_rfl) (by kernel_rfl) (by kernel_rfl) (fun _ _ _ h => h) (Or.inl ⟨by kernel_rfl, fun w' hw => by (go_simp)⟩) hS ?_
        refine wpAnyH_goS (i := 5) (by kernel_rfl) rfl (by kernel_rfl) (fun K hK => ?_)
        go_wp2_with (go_at_call 9; refine (KCI.out).mono ?_; rintro e W4 ⟨ca, cc, rfl, ho4, hb4⟩; have HO4 := hide ho4; have HB4 := hide hb4; clear ho4 hb4)
        obtain ⟨s9b, kcr⟩ := KCR.out W4 ca cc HO4.out HB4.out
        have KC4 := hide kcr
        clear kcr
        refine hK.out _ _ s9b ?_
        clear hK K
        refine wpAnyH_goS (i := 6) (by kernel_rfl) rfl (by kernel_rfl) (fun K hK => ?_)
        go_wp2_with (go_at_call 8; refine (KC4.out).mono ?_; rintro e W5 ⟨rfl, s9c, hc5⟩; have HC5 := hide hc5; clear hc5)
        refine hK.out _ _ s9c ?_
        clear hK K
        refine wpAnyH_take (i := 7) (v := (.bool false)) rfl (by kernel_rfl) (by kernel_rfl) (by kernel_rfl) (fun _ _ _ h => h) (Or.inl ⟨by kernel_rfl, fun w' hw => by (go_simp)⟩) s9c ?_
        refine wpAnyH_done (by kernel_rfl) ?_ _
        simp only [Act.put, List.getElem_toArray, List.getElem_cons_zero, List.getElem_cons_succ, List.setIfInBounds_toArray, List.set_cons_zero, List.set_cons_succ]
        obtain ⟨L5, σ5, hlost, hpd5, hw5, hea5⟩ := HC5.out
        have hok5 := Lost.ok HST.out.ok hlost
        have hn5 : σ5.n = m := hlost.n.trans HN.out
        have HL5 := hide hlost
        have HPD5 := hide hpd5
        have HW5 := hide hw5
        have HE5 := hide hea5
        have HOK5 := hide hok5
        have HN5 := hide hn5
        clear hlost hpd5 hw5 hea5 hok5 hn5 HC5 KC4 KCI KCR S9 s9b s9c
        go_wp2_with (fail)
        try go_frame
        go_loopw [16] (fun iv wr => ∃ i : Nat, iv = .int .i64 (i : Int) ∧ i ≤ m ∧ Below W5.heap.size W5 wr) (fun iv _ => (m - (intOf iv).toNat))
        case atStart => exact ⟨0, rfl, Nat.zero_le _, Below.refl _ _⟩
        case round =>
          obtain ⟨i, rfl, hi, hBr⟩ := hrel
          have hpd := HPD5.out.below hBr
          have c0 : wr.cell? ⟨p, 0, none⟩ = some (.pointer (some ⟨b, 0, none⟩)) := hpd.pl.c 0
          by_cases hlt : i < m
          · have iI : (i : Int) < (m : Int) := by omega
            have kct := pcont_any i hpd.dev HOK5.out (by rw [HN5.out]; exact hlt)
            rw [show σ5.past i = [] from by rw [HL5.out.past], List.nil_append, HL5.out.lines i (by rw [HN.out]; exact hlt)] at kct
            have KCT := hide kct
            have HBR := hide hBr
            clear kct hpd hBr
            go_upto_region 29 with (go_at_call 15; refine (KCT.out).mono ?_; rintro e W6 ⟨lv, rfl, hrb, hb6⟩; have HRB := hide hrb; have HB6 := hide hb6; clear hrb hb6)
            obtain ⟨vs, ho6, hvl, hve⟩ := HRB.out
            obtain ⟨cg, hcg, hcb, hco⟩ := hve 0 (lost σ (zs.map Int.toNat) i) rfl
            obtain ⟨lg, lc, rfl, clg⟩ : ∃ lg lc, lv = .slice (some ⟨lg, 0, none⟩) 1 lc ∧ W6.cell? ⟨lg, 0, none⟩ = some (.slice (some ⟨cg, 0, none⟩) 64 64) := by
              rcases ho6.2 with ⟨_, e⟩ | ⟨g, cap, cur, e, h1, h2, h3, _, h4, h5⟩
              · simp at e
              · refine ⟨g, cap, e, ?_⟩
                have h6 : (cur.toList.take (1 * 1))[0]? = some (.slice (some ⟨cg, 0, none⟩) 64 64) := by
                  have h7 : cur.toList.take (1 * 1) = vs := h5
                  rw [h7]; exact hcg
                rw [List.getElem?_take, if_pos (by omega)] at h6
                rw [cell8 h2]
                simpa using h6
            obtain ⟨kg, hkg, hko⟩ := HE5.out i hlt
            have hb56 : Below W5.heap.size W5 W6 := HBR.out.trans (HB6.out.mono HBR.out.size)
            have cwg : W6.cell? ⟨wg, i, none⟩ = some (.slice (some ⟨kg, 0, none⟩) 64 64) := (hb56.cell (lt_of_heap HW5.out)).trans ((cell8 HW5.out i).trans (hwc i _ hkg))
            have hk6 : OwnB W6 kg (lost σ (zs.map Int.toNat) i) := hko.below hb56 hko.lt
            have hlb := lost_byte (σ := σ) (kp := zs.map Int.toNat) (i := i) HST.out.ok
            have hll := lost_len (σ := σ) (kp := zs.map Int.toNat) (i := i) HST.out.ok (by rw [HN.out]; exact hlt)
            have ke := eqBytes_any (some ⟨cg, 0, none⟩) (some ⟨kg, 0, none⟩) 64 64 (lost σ (zs.map Int.toNat) i) (lost σ (zs.map Int.toNat) i) W6.drew (OwnB.sl (show OwnB W6.drew cg _ from hco) hlb) (OwnB.sl (show OwnB W6.drew kg _ from hk6) hlb) (by rw [hll]; omega)
            rw [hll, decide_eq_true rfl] at ke
            have KE := hide ke
            have S29 := hide (show W6.drew.cell? ⟨lg, 0, none⟩ = some (.slice (some ⟨cg, 0, none⟩) 64 64) ∧ W6.drew.cell? ⟨wg, i, none⟩ = some (.slice (some ⟨kg, 0, none⟩) 64 64) from ⟨clg, cwg⟩)
            have S29N := hide (fun nq => (show (W6.drew.drewN nq).cell? ⟨lg, 0, none⟩ = some (.slice (some ⟨cg, 0, none⟩) 64 64) ∧ (W6.drew.drewN nq).cell? ⟨wg, i, none⟩ = some (.slice (some ⟨kg, 0, none⟩) 64 64) from ⟨clg, cwg⟩))
            have IXL := hide (fun X => by have h := index_bytes2 lg 0 0 1 lc (by omega) X; rwa [Nat.zero_add] at h : ∀ X : World, (Instr.indexAt 46 (.slice (some ⟨lg, 0, none⟩) 1 lc) (.int .i64 0)).run Try.prog X = .ok (.pointer (some ⟨lg, 0, none⟩)) X)
            have IXW := hide (fun X => by have h := index_bytes2 wg 0 i m wc hlt X; rwa [Nat.zero_add] at h : ∀ X : World, (Instr.indexAt 46 (.slice (some ⟨wg, 0, none⟩) m wc) (.int .i64 (i : Int))).run Try.prog X = .ok (.pointer (some ⟨wg, i, none⟩)) X)
            have HB56 := hide hb56
            clear ke hk6 hko hkg hve hcg hcb hco ho6 hvl HRB hb56 clg cwg c0 hlb hll
            refine wp_region_held_drew (S := fun Y => Y.cell? ⟨lg, 0, none⟩ = some (.slice (some ⟨cg, 0, none⟩) 64 64) ∧ Y.cell? ⟨wg, i, none⟩ = some (.slice (some ⟨kg, 0, none⟩) 64 64)) (by kernel_rfl) S29.out (fun hS => ?_)
            refine wpAnyH_take (i := 0) (v := (.slice (some ⟨lg, 0, none⟩) 1 lc)) rfl (by kernel_rfl) (by kernel_rfl) (by kernel_rfl) (fun _ _ _ h => h) (Or.inl ⟨by kernel_rfl, fun w' hw => by (go_simp)⟩) hS ?_
            refine wpAnyH_take (i := 1) (v := (.int .i64 1)) rfl (by kernel_rfl) (by kernel_rfl) (by kernel_rfl) (fun _ _ _ h => h) (Or.inl ⟨by kernel_rfl, fun w' hw => by (go_simp)⟩) hS ?_
            refine wpAnyH_take (i := 2) (v := (.bool false)) rfl (by kernel_rfl) (by kernel_rfl) (by kernel_rfl) (fun _ _ _ h => h) (Or.inl ⟨by kernel_rfl, fun w' hw => by (go_simp)⟩) hS ?_
            refine wpAnyH_take (i := 3) (v := (.bool false)) rfl (by kernel_rfl) (by kernel_rfl) (by kernel_rfl) (fun _ _ _ h => h) (Or.inl ⟨by kernel_rfl, fun w' hw => by (go_simp)⟩) hS ?_
            refine wpAnyH_take (i := 4) (v := (.slice (some ⟨lg, 0, none⟩) 1 lc)) rfl (by kernel_rfl) (by kernel_rfl) (by kernel_rfl) (fun _ _ _ h => h) (Or.inl ⟨by kernel_rfl, fun w' hw => by (go_simp)⟩) hS ?_
            refine wpAnyH_take (i := 5) (v := (.pointer (some ⟨lg, 0, none⟩))) rfl (by kernel_rfl) (by kernel_rfl) (by kernel_rfl) (fun _ _ _ h => h) (Or.inl ⟨by kernel_rfl, fun w' hw => by (have e := IXL.out w'; go_simp)⟩) hS ?_
            refine wpAnyH_take (i := 6) (v := (.slice (some ⟨cg, 0, none⟩) 64 64)) rfl (by kernel_rfl) (by kernel_rfl) (by kernel_rfl) (fun _ _ _ h => h) (Or.inl ⟨by kernel_rfl, fun w' hw => by (obtain ⟨z0, z1⟩ := hw; go_simp)⟩) hS ?_
            refine wpAnyH_take (i := 7) (v := (.slice (some ⟨wg, 0, none⟩) m wc)) rfl (by kernel_rfl) (by kernel_rfl) (by kernel_rfl) (fun _ _ _ h => h) (Or.inl ⟨by kernel_rfl, fun w' hw => by (go_simp)⟩) hS ?_
            refine wpAnyH_take (i := 8) (v := (.int .i64 (i : Int))) rfl (by kernel_rfl) (by kernel_rfl) (by kernel_rfl) (fun _ _ _ h => h) (Or.inl ⟨by kernel_rfl, fun w' hw => by (go_simp)⟩) hS ?_
            refine wpAnyH_take (i := 9) (v := (.pointer (some ⟨wg, i, none⟩))) rfl (by kernel_rfl) (by kernel_rfl) (by kernel_rfl) (fun _ _ _ h => h) (Or.inl ⟨by kernel_rfl, fun w' hw => by (have e := IXW.out w'; go_simp)⟩) hS ?_
            refine wpAnyH_take (i := 10) (v := (.slice (some ⟨kg, 0, none⟩) 64 64)) rfl (by kernel_rfl) (by kernel_rfl) (by kernel_rfl) (fun _ _ _ h => h) (Or.inl ⟨by kernel_rfl, fun w' hw => by (obtain ⟨z0, z1⟩ := hw; go_simp)⟩) hS ?_
            refine wpAnyH_goS (i := 11) (by kernel_rfl) rfl (by kernel_rfl) (fun K hK => ?_)
            go_wp2_with (go_at_call 16; refine (KE.out).mono ?_; rintro e w' ⟨rfl, nq, hw⟩; obtain rfl := hw)
            have hS2 := S29N.out nq
            refine hK.out _ _ hS2 ?_
            clear hK K
            refine wpAnyH_take (i := 12) (v := (.bool false)) rfl (by kernel_rfl) (by kernel_rfl) (by kernel_rfl) (fun _ _ _ h => h) (Or.inl ⟨by kernel_rfl, fun w' hw => by (go_simp)⟩) hS2 ?_
            refine wpAnyH_take (i := 13) (v := (.bool false)) rfl (by kernel_rfl) (by kernel_rfl) (by kernel_rfl) (fun _ _ _ h => h) (Or.inl ⟨by kernel_rfl, fun w' hw => by (go_simp)⟩) hS2 ?_
            refine wpAnyH_done (by kernel_rfl) ?_ _
            simp only [Act.put, List.getElem_toArray, List.getElem_cons_zero, List.getElem_cons_succ, List.setIfInBounds_toArray, List.set_cons_zero, List.set_cons_succ]
            go_wp2_with (fail)
            go_roundw
            case rel => exact ⟨i + 1, int_congrP (by omega), by omega, below_drewN HB56.out (1 + nq)⟩
            case measure => simp [intOf]; omega
          · have iI : ¬ (i : Int) < (m : Int) := by omega
            obtain rfl : m = i := by omega
            have ki := pimg_any hpd.dev HOK5.out
            obtain ⟨nb, hnb⟩ : ∃ nb, 64 * σ5.n = nb := ⟨_, rfl⟩
            rw [hnb] at ki
            have hbl : σ5.bytes.length = nb := by rw [HOK5.out.len, hnb]
            have hnb2 : nb = 64 * m := by rw [← hnb, HN5.out]
            have hfl : ((List.range m).map (lost σ (zs.map Int.toNat))).flatten = σ5.bytes := by
              have h9 := flat_lines (σ := σ5) HOK5.out.len (lost σ (zs.map Int.toNat)) (fun j hj => (HL5.out.lines j (by rw [← HL5.out.n]; exact hj)).symm)
              rw [HN5.out] at h9
              exact h9
            have hslr : ∀ X, Below W5.heap.size W5 X → SlR X (some ⟨wg, 0, none⟩) ((List.range m).map (lost σ (zs.map Int.toNat))) := fun X hX => by
              refine .inr ⟨wg, 0, rfl, Nat.lt_of_lt_of_le (lt_of_heap HW5.out) hX.size, fun j rr hj => ?_⟩
              rw [List.getElem?_map] at hj
              obtain ⟨j', hj', rfl⟩ := Option.map_eq_some_iff.1 hj
              have hjm : j < m := by have := (List.getElem?_eq_some_iff.1 hj').1; simpa using this
              obtain rfl : j' = j := by rw [List.getElem?_range hjm] at hj'; cases hj'; rfl
              obtain ⟨kg, hkg, hko⟩ := HE5.out j' hjm
              have hll := lost_len (σ := σ) (kp := zs.map Int.toNat) (i := j') HST.out.ok (by rw [HN.out]; exact hjm)
              refine ⟨some ⟨kg, 0, none⟩, 64, ?_, (hko.below hX hko.lt).sl (lost_byte HST.out.ok), by rw [hll]; unfold maxLen; omega⟩
              rw [Nat.zero_add, hll]
              exact (hX.cell (lt_of_heap HW5.out)).trans ((cell8 HW5.out j').trans (hwc j' _ hkg))
            have kj : ∀ X, Below W5.heap.size W5 X → Calls Try.prog 17 #[.slice (some ⟨wg, 0, none⟩) m wc] X fun e w' => ∃ jg jc, e = .returned (.slice (some ⟨jg, 0, none⟩) nb jc) ∧ Sl w' (some ⟨jg, 0, none⟩) σ5.bytes ∧ Below X.heap.size X w' := fun X hX => by
              have h9 := join_any (some ⟨wg, 0, none⟩) wc ((List.range m).map (lost σ (zs.map Int.toNat))) X (hslr X hX) (by simp; omega) (by rw [hfl, hbl]; omega)
              rw [hfl, hbl, List.length_map, List.length_range] at h9
              refine h9.mono ?_
              rintro e w' ⟨v, rfl, ho, hb⟩
              rcases ho.2 with ⟨_, e⟩ | ⟨g, cap, cur, e, h1, h2, h3, _, h4, h5⟩
              · omega
              · refine ⟨g, cap, by rw [e], .inr ⟨g, 0, rfl, lt_of_heap h2, fun q x hq => ⟨?_, HOK5.out.byte x (List.mem_of_getElem? hq)⟩⟩, hb⟩
                have hlt : q < σ5.bytes.length := (List.getElem?_eq_some_iff.1 hq).1
                have h6 : (cur.toList.take (nb * 1))[q]? = some (B8 x) := by rw [h5, List.getElem?_map, hq]; rfl
                rw [List.getElem?_take, if_pos (by omega)] at h6
                rw [Nat.zero_add, cell8 h2]
                simpa [B8] using h6
            have KI := hide ki
            have KJ := hide kj
            have HBL := hide hbl
            have HBR := hide hBr
            have fxp := hide (fun (X : World) (hX : Below W5.heap.size W5 X) => (HPD5.out.below hX))
            have M1 := hide trivial
            have nbI : (nb : Int) ≤ 256 := by omega
            have N5I : (σ5.n : Int) ≤ (m : Int) := by rw [HN5.out]; exact Int.le_refl _
            clear ki kj hslr hfl hbl hnb hnb2 hpd hBr
            go_wp2_with (first
              | (go_at_call 13; refine (KI.out).mono ?_; rintro e W7 ⟨rfl, ho7, hb7⟩; have HB7 := hide (HBR.out.trans (hb7.mono HBR.out.size)); have HO7 := hide ho7; have K7 := hide (KJ.out W7 (HBR.out.trans (hb7.mono HBR.out.size))); clear ho7 hb7)
              | (go_at_call 17; refine (K7.out).mono ?_; rintro e W8 ⟨jg, jc, rfl, hs8, hb8⟩; have HB8 := hide (HB7.out.trans (hb8.mono HB7.out.size)); have ke := eqBytes_any (some ⟨wr.heap.size, 0, none⟩) (some ⟨jg, 0, none⟩) nb jc σ5.bytes σ5.bytes W8 ((HO7.out.below hb8 HO7.out.lt).sl HOK5.out.byte) hs8 (by rw [HBL.out]; omega); rw [HBL.out, decide_eq_true rfl] at ke; have KE := hide ke; clear ke hs8 hb8)
              | (go_at_call 16; refine (KE.out).mono ?_; rintro e w' ⟨rfl, nq, hw⟩; have hpd9 := fxp.out (W8.drewN nq) (below_drewN HB8.out nq); have KC1 := hide (pcont_out hpd9.dev HOK5.out (m : Int) (.inr N5I)); have KC2 := hide (pcont_out hpd9.dev HOK5.out (-1) (.inl (by omega))); have c09 : (W8.drewN nq).cell? ⟨p, 0, none⟩ = some (.pointer (some ⟨b, 0, none⟩)) := hpd9.pl.c 0; have HF := hide (HB1.out.trans (hpd9.bel.mono HB1.out.size)); clear hpd9; obtain rfl := hw)
              | (go_at_call 15; have M1' := M1; clear M1' M1; refine (KC1.out).mono ?_; rintro e w' ⟨rfl, hw⟩; obtain rfl := hw.symm)
              | (go_at_call 15; refine (KC2.out).mono ?_; rintro e w' ⟨rfl, hw⟩; obtain rfl := hw.symm))
            go_ret
            exact ⟨rfl, HF.out⟩
  · have hng2 : nonneg zs = false := by simpa using hng
    rw [hng2] at kgo
    have KGO := hide kgo
    have HZ2 := hide (show IntsP W2 none [] from ⟨by simp, .inl rfl⟩)
    have HNG := hide (show nonneg [] = true from rfl)
    replace HNK := hide (show ([] : List Int).length = 0 from rfl)
    clear kgo hz2w hng hng2
    go_upto_region 8 with (go_at_call 10; refine (KGO.out).mono ?_; rintro e w' ⟨rfl, hw⟩; obtain rfl := hw.symm)
    have hmk : K.mv = .slice (some ⟨mg, 0, none⟩) m mc := HLI.out.m
    have c5 : W2.cell? ⟨p, 5, none⟩ = some (.slice (some ⟨mg, 0, none⟩) m mc) := by rw [← hmk]; exact HPD.out.pl.c 5
    go_upto_region 10 with (fail)
    clear c5 hmk
    go_wp2_with (fail)
    try go_frame
    go_loopw [10, 11] (fun wv iv wr => ∃ (i : Nat) (vals : List Value), iv = .int .i64 (i : Int) ∧ i ≤ m ∧ wr.ownsRow W2.heap.size 28 1 wv i vals ∧ (∀ j, j < i → ∃ g, vals[j]? = some (.slice (some ⟨g, 0, none⟩) 64 64) ∧ OwnB wr g (lost σ (([] : List Int).map Int.toNat) j)) ∧ Below W2.heap.size W2 wr) (fun wv iv _ => (m - (intOf iv).toNat))
    case atStart => exact ⟨0, [], rfl, Nat.zero_le _, ⟨rfl, .inl ⟨rfl, rfl⟩⟩, fun j hj => by omega, Below.refl _ _⟩
    case round =>
      obtain ⟨i, vals, rfl, hi, hown, heach, hBr⟩ := hrel
      have hpd := HPD.out.below hBr
      have c0 : wr.cell? ⟨p, 0, none⟩ = some (.pointer (some ⟨b, 0, none⟩)) := hpd.pl.c 0
      by_cases hlt : i < m
      · have iI : (i : Int) < (m : Int) := by omega
        have hin : i < σ.n := by rw [HN.out]; exact hlt
        have KCT := hide (pcont_any i hpd.dev HST.out.ok hin)
        have hplen : (σ.past i).length ≤ 1353300000000 := by have := HST.out.ok.few i; have := HOPS.out; have := HX.out.few; omega
        have HOW := hide hown
        have HEA := hide heach
        have HBR := hide hBr
        clear hpd hown heach hBr
        go_upto_region 14 with (go_at_call 15; refine (KCT.out).mono ?_; rintro e W6 ⟨lv, rfl, hrb, hb6⟩; have HRB := hide hrb; have HB6 := hide hb6; clear hrb hb6)
        obtain ⟨vs, ho6, hvl, hve⟩ := HRB.out
        obtain ⟨n1, hn1⟩ : ∃ n1, (σ.past i).length + 1 = n1 := ⟨_, rfl⟩
        have hcl : (σ.past i ++ [σ.line i]).length = n1 := by rw [List.length_append]; exact hn1
        rw [hcl] at ho6 hvl
        obtain ⟨lg, lc, lcur, rfl, hlg, hlb, hlt6, hlc⟩ : ∃ lg lc lcur, lv = .slice (some ⟨lg, 0, none⟩) n1 lc ∧ wr.heap.size ≤ lg ∧ W6.heap[lg]? = some (.cells lcur 28 (0, 0)) ∧ n1 ≤ lcur.size ∧ ∀ (j : Nat) (x : Value), vs[j]? = some x → lcur[j]? = some x := by
          rcases ho6.2 with ⟨_, e⟩ | ⟨g, cap, cur, e, h1, h2, h3, _, h4, h5⟩
          · omega
          · refine ⟨g, cap, cur, e, h1, h2, by omega, fun j x hj => ?_⟩
            have hlt : j < vs.length := (List.getElem?_eq_some_iff.1 hj).1
            have h6 : (cur.toList.take (n1 * 1))[j]? = some x := by rw [h5]; exact hj
            rw [List.getElem?_take, if_pos (by omega)] at h6
            simpa using h6
        obtain ⟨k, hk⟩ : ∃ k, k = lostK σ (([] : List Int).map Int.toNat) i := ⟨_, rfl⟩
        have hpick := lost_pick hk
        have hkn : k < n1 := by have := (List.getElem?_eq_some_iff.1 hpick).1; omega
        obtain ⟨kg, hkg, hkb, hko⟩ := hve k _ hpick
        obtain ⟨eg, heg, heb, heo⟩ := hve (σ.past i).length (σ.line i) (by simp)
        have ck : W6.cell? ⟨lg, k, none⟩ = some (.slice (some ⟨kg, 0, none⟩) 64 64) := (cell8 hlb k).trans (hlc k _ hkg)
        have hbw6 : Below W2.heap.size W2 W6 := HBR.out.trans (HB6.out.mono HBR.out.size)
        have hown6 : W6.ownsRow W2.heap.size 28 1 u10 i vals := ownsRow_of_block HOW.out (fun g hg => by obtain ⟨c, hc⟩ := own_type HOW.out hg; exact HB6.out.block g (lt_of_heap hc))
        have hu10 : ∀ g, u10.ownBlock = some g → g < wr.heap.size ∧ W2.heap.size ≤ g ∧ ∃ c, wr.heap[g]? = some (.cells c 28 (0, 0)) := fun g hg => by
          obtain ⟨c, hc⟩ := own_type HOW.out hg
          refine ⟨lt_of_heap hc, ?_, c, hc⟩
          rcases HOW.out.2 with ⟨e1, _⟩ | ⟨g', cap, cur, e1, e2, _⟩
          · rw [e1] at hg; cases hg
          · rw [e1] at hg; cases hg; exact e2
        have ixk := fun X => index_bytes2 lg 0 k n1 lc hkn X
        have ixe := fun X => index_bytes2 lg 0 (σ.past i).length n1 lc (by omega) X
        rw [show (((σ.past i).length : Nat) : Int) = (n1 : Int) - 1 by omega] at ixe
        simp only [Nat.zero_add] at ixk ixe
        have app : ∀ v1 x1, x1.ownsRow W2.heap.size 28 1 v1 (i + 1) (vals ++ [.slice (some ⟨kg, 0, none⟩) 64 64]) → (W6.alloc (.cells #[.slice (some ⟨kg, 0, none⟩) 64 64] 28)).grownBy x1 u10.ownBlock →
            x1.cell? ⟨p, 0, none⟩ = some (.pointer (some ⟨b, 0, none⟩)) ∧ x1.cell? ⟨lg, (σ.past i).length, none⟩ = some (.slice (some ⟨eg, 0, none⟩) 64 64) ∧
            Calls Try.prog 7 #[.pointer (some ⟨b, 0, none⟩), .int .i64 (64 * (i : Int)), .int .i64 64] x1 fun e w' => ∃ R, e = .returned (.tuple #[.slice (some ⟨R, 0, none⟩) 64 64, .int .i64 0]) ∧ w'.cell? ⟨lg, (σ.past i).length, none⟩ = some (.slice (some ⟨eg, 0, none⟩) 64 64) ∧
              Calls Try.prog 16 #[.slice (some ⟨R, 0, none⟩) 64 64, .slice (some ⟨eg, 0, none⟩) 64 64] w' fun e w'' => e = .returned (.bool true) ∧ ∃ vals' : List Value, w''.ownsRow W2.heap.size 28 1 v1 (i + 1) vals' ∧ (∀ j, j < i + 1 → ∃ g, vals'[j]? = some (.slice (some ⟨g, 0, none⟩) 64 64) ∧ OwnB w'' g (lost σ (([] : List Int).map Int.toNat) j)) ∧ Below W2.heap.size W2 w'' := fun v1 x1 ho hg => by
          have hBa : Below W6.heap.size W6 (W6.alloc (.cells #[.slice (some ⟨kg, 0, none⟩) 64 64] 28)) := (Below.refl _ _).alloc (Nat.le_refl _) _
          have kp6 : ∀ g, g < W6.heap.size → u10.ownBlock ≠ some g → x1.heap[g]? = W6.heap[g]? := fun g h1 h2 => (hg.block g (Nat.lt_of_lt_of_le h1 hBa.size) (fun e => h2 e.symm)).trans (hBa.block g h1)
          have hbx : Below W2.heap.size W2 x1 := by
            have h5 := hbw6.trans (hBa.mono hbw6.size)
            exact ⟨hg.os.trans h5.os, hg.tape.trans h5.tape, hg.output.trans h5.output, Nat.le_trans h5.size hg.size, fun q hq => (hg.block q (Nat.lt_of_lt_of_le hq h5.size) (fun e => by have := (hu10 q e.symm).2.1; omega)).trans (h5.block q hq)⟩
          have hpdx := HPD.out.below hbx
          have hlx : x1.heap[lg]? = W6.heap[lg]? := kp6 lg (lt_of_heap hlb) (fun e => by have := (hu10 lg e).1; omega)
          have cle : x1.cell? ⟨lg, (σ.past i).length, none⟩ = some (.slice (some ⟨eg, 0, none⟩) 64 64) := (cell8 (hlx.trans hlb) _).trans (hlc _ _ heg)
          refine ⟨hpdx.pl.c 0, cle, ?_⟩
          have h5 := callsIn_wide.1 (pload_in (at_ := 64 * i) (n := 64) hpdx.dev HST.out.ok HST.out.off (by omega))
          rw [show ((64 * i : Nat) : Int) = 64 * (i : Int) by omega] at h5
          refine h5.mono ?_
          rintro e w' ⟨R, rfl, q1, q2, q3⟩
          have hli : (σ.bytes.drop (64 * i)).take 64 = σ.line i := rfl
          rw [hli] at q2
          have hll := line_len HST.out.ok hin
          have hegx : x1.heap[eg]? = W6.heap[eg]? := kp6 eg heo.lt (fun e => by have := (hu10 eg e).1; omega)
          have hkgx : x1.heap[kg]? = W6.heap[kg]? := kp6 kg hko.lt (fun e => by have := (hu10 kg e).1; omega)
          have heo1 : OwnB x1 eg (σ.line i) := hegx.trans heo
          have hko1 : OwnB x1 kg (lost σ (([] : List Int).map Int.toNat) i) := hkgx.trans hko
          have lb : ∀ x ∈ σ.line i, x < 256 := fun x hx => HST.out.ok.byte x (line_mem hx)
          have ke := eqBytes_any (some ⟨R, 0, none⟩) (some ⟨eg, 0, none⟩) 64 64 (σ.line i) (σ.line i) w' (OwnB.sl (show OwnB w' R (σ.line i) from q2) lb) ((heo1.below q3 heo1.lt).sl lb) (by rw [hll]; omega)
          rw [hll, decide_eq_true rfl] at ke
          refine ⟨R, rfl, (q3.cell (lt_of_heap (hlx.trans hlb))).trans cle, ke.mono ?_⟩
          rintro e w'' ⟨rfl, nq, rfl⟩
          have hbq : Below x1.heap.size x1 (w'.drewN nq) := below_drewN q3 nq
          refine ⟨rfl, vals ++ [.slice (some ⟨kg, 0, none⟩) 64 64], ownsRow_of_block ho (fun g hg2 => by obtain ⟨c, hc⟩ := own_type ho hg2; exact hbq.block g (lt_of_heap hc)), fun j hj => ?_, hbx.trans (hbq.mono hbx.size)⟩
          have hvl2 : vals.length = i := by have := HOW.out.1; omega
          by_cases e : j = i
          · subst e
            refine ⟨kg, by rw [List.getElem?_append_right (by omega), hvl2, Nat.sub_self]; rfl, hko1.below hbq hko1.lt⟩
          · obtain ⟨g, hg1, hg2⟩ := HEA.out j (by omega)
            have hgl := hg2.lt
            have hgx : x1.heap[g]? = wr.heap[g]? := (kp6 g (Nat.lt_of_lt_of_le hgl HB6.out.size) (fun e => by
              obtain ⟨_, _, c, hc⟩ := hu10 g e
              exact ne_ty (show wr.heap[g]? = _ from hg2) hc (by decide) rfl)).trans (HB6.out.block g hgl)
            have hg3 : OwnB x1 g (lost σ (([] : List Int).map Int.toNat) j) := hgx.trans hg2
            exact ⟨g, by rw [List.getElem?_append_left (by omega)]; exact hg1, hg3.below hbq hg3.lt⟩
        have ho2 : (W6.alloc (.cells #[.slice (some ⟨kg, 0, none⟩) 64 64] 28)).ownsRow W2.heap.size 28 1 u10 i vals := ownsRow_of_block hown6 (fun g hg => by obtain ⟨c, hc⟩ := own_type hown6 hg; exact ((Below.refl _ W6).alloc (Nat.le_refl _) _).block g (lt_of_heap hc))
        have hbs : W2.heap.size ≤ (W6.alloc (.cells #[.slice (some ⟨kg, 0, none⟩) 64 64] 28)).heap.size := by rw [World.size_alloc]; have := hbw6.size; omega
        have APP := hide app
        have HO2 := hide ho2
        have HBS := hide hbs
        have hzw := HZ2.out.below hbw6
        have n1I : (n1 : Int) ≤ 1353300000001 := by omega
        have n1P : (1 : Int) ≤ (n1 : Int) := by omega
        have kI : (k : Int) < (n1 : Int) := by omega
        have hkA : ∀ z, (([] : List Int))[i]? = some z → k = z.toNat % n1 := fun z hz => by
          rw [hk]
          unfold lostK
          rw [List.getElem?_map, hz]
          show z.toNat % _ = _
          rw [← hn1]
        have hkB : 0 ≤ i → k = 0 := fun hge => by
          rw [hk]
          unfold lostK
          rw [List.getElem?_map, List.getElem?_eq_none (by rw [HNK.out]; omega)]
          rfl
        clear hk
        generalize (σ.past i).length = pl at *
        clear app ho2 hbs hown6 hbw6 hu10 hve ho6 hvl hlc hlb hlt6 HRB KCT hkg hkb hko heg heb heo hpick hcl hlg c0
        by_cases hik : i < 0
        · exact absurd hik (by omega)
        · have ikI : ¬ (i : Int) < (0 : Int) := by omega
          have hk0 : k = 0 := hkB (by omega)
          subst hk0
          clear hkA hkB hn1 hzw
          go_upto_region 19 with (fail)
          go_upto_region 20 with (at_builtin; refine wpList_append_own_at _ rfl _ _ 46 rfl W2.heap.size 28 i0 (.slice none 0 0) 1 24 Try.underlying46 hi0 hz0 hz1 hz2 rfl (by decide) u10 i vals rfl HO2.out ⟨W6.heap.size, 0, none⟩ 1 1 [.slice (some ⟨kg, 0, none⟩) 64 64] rfl rfl (cellOneK W6 _ _) (by simp [Value.oneCell']) (by unfold maxLen; omega) (by omega) HBS.out ?_; intro v1 x1 ho3 hg3 hnn hat; clear hnn hat; obtain ⟨t1, t2, kld⟩ := APP.out v1 x1 ho3 hg3; obtain ⟨v1a, v1c, rfl⟩ := own_slice ho3; have KLD := hide kld; clear ho3 hg3 kld)
          go_wp2_with (first
            | (go_at_call 7; refine (KLD.out).mono ?_; rintro e W9 ⟨R, rfl, t3, ke⟩; have KE := hide ke; clear ke)
            | (go_at_call 16; refine (KE.out).mono ?_; rintro e WA ⟨rfl, hr⟩; have HR := hide hr; clear hr))
          go_roundw
          case rel =>
            obtain ⟨vals', q1, q2, q3⟩ := HR.out
            exact ⟨i + 1, vals', int_congrP (by omega), by omega, q1, q2, q3⟩
          case measure => simp [intOf]; omega
      · have iI : ¬ (i : Int) < (m : Int) := by omega
        obtain rfl : m = i := by omega
        have kci : Calls Try.prog 9 #[.slice none 0 0] wr.drew fun e w' => ∃ ca cc, e = .returned (.slice ca 0 cc) ∧ OwnI w' wr.heap.size (.slice ca 0 cc) ([] : List Int) ∧ Below wr.heap.size wr w' := by
          refine (copyInts_any 0 0 ((HZ2.out.below hBr).below (Below.refl _ wr).drew) HNK.out (by omega)).mono ?_
          rintro e w' ⟨ca, cc, rfl, q1, q2⟩
          exact ⟨ca, cc, rfl, q1, (Below.refl _ wr).drew.trans q2⟩
        have KCI := hide kci
        have S9 := hide (show wr.drew.cell? ⟨p, 0, none⟩ = some (.pointer (some ⟨b, 0, none⟩)) from c0)
        obtain ⟨wg, wc, wcur, rfl, hwg, hwb, hwc⟩ : ∃ wg wc wcur, u10 = .slice (some ⟨wg, 0, none⟩) m wc ∧ W2.heap.size ≤ wg ∧ wr.heap[wg]? = some (.cells wcur 28 (0, 0)) ∧ ∀ (j : Nat) (x : Value), vals[j]? = some x → wcur[j]? = some x := by
          rcases hown.2 with ⟨_, e⟩ | ⟨g, cap, cur, e, h1, h2, h3, _, h4, h5⟩
          · omega
          · refine ⟨g, cap, cur, e, h1, h2, fun j x hj => ?_⟩
            have hlt : j < vals.length := (List.getElem?_eq_some_iff.1 hj).1
            have h6 : (cur.toList.take (m * 1))[j]? = some x := by rw [h5]; exact hj
            have hvl := hown.1
            rw [List.getElem?_take, if_pos (by omega)] at h6
            simpa using h6
        have kcr : ∀ (W4 : World) (ca : Option Addr) (cc : Nat), OwnI W4 wr.heap.size (.slice ca 0 cc) ([] : List Int) → Below wr.heap.size wr W4 → W4.cell? ⟨p, 0, none⟩ = some (.pointer (some ⟨b, 0, none⟩)) ∧ Calls Try.prog 8 #[.pointer (some ⟨b, 0, none⟩), .slice ca 0 cc] W4 fun e W5 => e = .returned (.int .i64 0) ∧ W5.cell? ⟨p, 0, none⟩ = some (.pointer (some ⟨b, 0, none⟩)) ∧ ∃ L' σ', Lost σ (([] : List Int).map Int.toNat) σ' ∧ Pd W1 W5 p b K L' B σ' ∧ (W5.heap[wg]? = some (.cells wcur 28 (0, 0)) ∧ ∀ j, j < m → ∃ g, vals[j]? = some (.slice (some ⟨g, 0, none⟩) 64 64) ∧ OwnB W5 g (lost σ (([] : List Int).map Int.toNat) j)) := fun W4 ca cc h1 h2 => by
          refine ⟨(hpd.pl.below h2).c 0, (pd_crash hpd HST.out HN.out HZ2.out.1 HNK.out (by omega) HNG.out h1 h2).mono ?_⟩
          rintro e W5 ⟨rfl, q0, L', σ', q1, q2, q3⟩
          refine ⟨rfl, q0, L', σ', q1, q2, ?_, fun j hj => ?_⟩
          · refine (q3.block (Nat.lt_of_lt_of_le (lt_of_heap hwb) h2.size) (fun e => ?_)).trans ((h2.block wg (lt_of_heap hwb)).trans hwb)
            rcases e with e | e
            · exact ne_ty hwb hpd.dev.dev (by decide) e
            · exact ne_ty hwb hpd.dev.seen (by decide) e
          · obtain ⟨g, hg1, hg2⟩ := heach j hj
            have hgl := hg2.lt
            refine ⟨g, hg1, (q3.block (Nat.lt_of_lt_of_le hgl h2.size) (fun e => ?_)).trans ((h2.block g hgl).trans hg2)⟩
            rcases e with e | e
            · exact ne_ty (show wr.heap[g]? = _ from hg2) hpd.dev.dev (by decide) e
            · exact ne_ty (show wr.heap[g]? = _ from hg2) hpd.dev.seen (by decide) e
        have KCR := hide kcr
        clear kci kcr hpd hown heach hBr hwb c0
        go_wp2_with (fail)
        refine wp_region_held_drew (S := fun Y => Y.cell? ⟨p, 0, none⟩ = some (.pointer (some ⟨b, 0, none⟩))) (by kernel_rfl) S9.out (fun hS => ?_)
        refine wpAnyH_take (i := 0) (v := (.pointer (some ⟨p, 0, none⟩))) rfl (by kernel_rfl) (by kernel_rfl) (by kernel_rfl) (fun _ _ _ h => h) (Or.inl ⟨by kernel_rfl, fun w' hw => by (go_simp)⟩) hS ?_
        refine wpAnyH_take (i := 1) (v := (.pointer (some ⟨p, 0, none⟩))) rfl (by kernel_rfl) (by kernel_rfl) (by kernel_rfl) (fun _ _ _ h => h) (Or.inl ⟨by kernel_rfl, fun w' hw => by (go_simp)⟩) hS ?_
        refine wpAnyH_take (i := 2) (v := (.pointer (some ⟨p, 0, none⟩))) rfl (by kernel_rfl) (by kernel_rfl) (by kernel_rfl) (fun _ _ _ h => h) (Or.inl ⟨by kernel_rfl, fun w' hw => by (go_simp)⟩) hS ?_
        refine wpAnyH_take (i := 3) (v := (.pointer (some ⟨b, 0, none⟩))) rfl (by kernel_rfl) (by kernel_rfl) (by kernel_rfl) (fun _ _ _ h => h) (Or.inl ⟨by kernel_rfl, fun w' hw => by (have z0 := hw; go_simp)⟩) hS ?_
        refine wpAnyH_take (i := 4) (v := (.slice none 0 0)) rfl (by kernel_rfl) (by kernel_rfl) (by kernel_rfl) (fun _ _ _ h => h) (Or.inl ⟨by kernel_rfl, fun w' hw => by (go_simp)⟩) hS ?_
        refine wpAnyH_goS (i := 5) (by kernel_rfl) rfl (by kernel_rfl) (fun K hK => ?_)
        go_wp2_with (go_at_call 9; refine (KCI.out).mono ?_; rintro e W4 ⟨ca, cc, rfl, ho4, hb4⟩; have HO4 := hide ho4; have HB4 := hide hb4; clear ho4 hb4)
        obtain ⟨s9b, kcr⟩ := KCR.out W4 ca cc HO4.out HB4.out
        have KC4 := hide kcr
        clear kcr
        refine hK.out _ _ s9b ?_
        clear hK K
        refine wpAnyH_goS (i := 6) (by kernel_rfl) rfl (by kernel_rfl) (fun K hK => ?_)
        go_wp2_with (go_at_call 8; refine (KC4.out).mono ?_; rintro e W5 ⟨rfl, s9c, hc5⟩; have HC5 := hide hc5; clear hc5)
        refine hK.out _ _ s9c ?_
        clear hK K
        refine wpAnyH_take (i := 7) (v := (.bool false)) rfl (by kernel_rfl) (by kernel_rfl) (by kernel_rfl) (fun _ _ _ h => h) (Or.inl ⟨by kernel_rfl, fun w' hw => by (go_simp)⟩) s9c ?_
        refine wpAnyH_done (by kernel_rfl) ?_ _
        simp only [Act.put, List.getElem_toArray, List.getElem_cons_zero, List.getElem_cons_succ, List.setIfInBounds_toArray, List.set_cons_zero, List.set_cons_succ]
        obtain ⟨L5, σ5, hlost, hpd5, hw5, hea5⟩ := HC5.out
        have hok5 := Lost.ok HST.out.ok hlost
        have hn5 : σ5.n = m := hlost.n.trans HN.out
        have HL5 := hide hlost
        have HPD5 := hide hpd5
        have HW5 := hide hw5
        have HE5 := hide hea5
        have HOK5 := hide hok5
        have HN5 := hide hn5
        clear hlost hpd5 hw5 hea5 hok5 hn5 HC5 KC4 KCI KCR S9 s9b s9c
        go_wp2_with (fail)
        try go_frame
        go_loopw [16] (fun iv wr => ∃ i : Nat, iv = .int .i64 (i : Int) ∧ i ≤ m ∧ Below W5.heap.size W5 wr) (fun iv _ => (m - (intOf iv).toNat))
        case atStart => exact ⟨0, rfl, Nat.zero_le _, Below.refl _ _⟩
        case round =>
          obtain ⟨i, rfl, hi, hBr⟩ := hrel
          have hpd := HPD5.out.below hBr
          have c0 : wr.cell? ⟨p, 0, none⟩ = some (.pointer (some ⟨b, 0, none⟩)) := hpd.pl.c 0
          by_cases hlt : i < m
          · have iI : (i : Int) < (m : Int) := by omega
            have kct := pcont_any i hpd.dev HOK5.out (by rw [HN5.out]; exact hlt)
            rw [show σ5.past i = [] from by rw [HL5.out.past], List.nil_append, HL5.out.lines i (by rw [HN.out]; exact hlt)] at kct
            have KCT := hide kct
            have HBR := hide hBr
            clear kct hpd hBr
            go_upto_region 29 with (go_at_call 15; refine (KCT.out).mono ?_; rintro e W6 ⟨lv, rfl, hrb, hb6⟩; have HRB := hide hrb; have HB6 := hide hb6; clear hrb hb6)
            obtain ⟨vs, ho6, hvl, hve⟩ := HRB.out
            obtain ⟨cg, hcg, hcb, hco⟩ := hve 0 (lost σ (([] : List Int).map Int.toNat) i) rfl
            obtain ⟨lg, lc, rfl, clg⟩ : ∃ lg lc, lv = .slice (some ⟨lg, 0, none⟩) 1 lc ∧ W6.cell? ⟨lg, 0, none⟩ = some (.slice (some ⟨cg, 0, none⟩) 64 64) := by
              rcases ho6.2 with ⟨_, e⟩ | ⟨g, cap, cur, e, h1, h2, h3, _, h4, h5⟩
              · simp at e
              · refine ⟨g, cap, e, ?_⟩
                have h6 : (cur.toList.take (1 * 1))[0]? = some (.slice (some ⟨cg, 0, none⟩) 64 64) := by
                  have h7 : cur.toList.take (1 * 1) = vs := h5
                  rw [h7]; exact hcg
                rw [List.getElem?_take, if_pos (by omega)] at h6
                rw [cell8 h2]
                simpa using h6
            obtain ⟨kg, hkg, hko⟩ := HE5.out i hlt
            have hb56 : Below W5.heap.size W5 W6 := HBR.out.trans (HB6.out.mono HBR.out.size)
            have cwg : W6.cell? ⟨wg, i, none⟩ = some (.slice (some ⟨kg, 0, none⟩) 64 64) := (hb56.cell (lt_of_heap HW5.out)).trans ((cell8 HW5.out i).trans (hwc i _ hkg))
            have hk6 : OwnB W6 kg (lost σ (([] : List Int).map Int.toNat) i) := hko.below hb56 hko.lt
            have hlb := lost_byte (σ := σ) (kp := ([] : List Int).map Int.toNat) (i := i) HST.out.ok
            have hll := lost_len (σ := σ) (kp := ([] : List Int).map Int.toNat) (i := i) HST.out.ok (by rw [HN.out]; exact hlt)
            have ke := eqBytes_any (some ⟨cg, 0, none⟩) (some ⟨kg, 0, none⟩) 64 64 (lost σ (([] : List Int).map Int.toNat) i) (lost σ (([] : List Int).map Int.toNat) i) W6.drew (OwnB.sl (show OwnB W6.drew cg _ from hco) hlb) (OwnB.sl (show OwnB W6.drew kg _ from hk6) hlb) (by rw [hll]; omega)
            rw [hll, decide_eq_true rfl] at ke
            have KE := hide ke
            have S29 := hide (show W6.drew.cell? ⟨lg, 0, none⟩ = some (.slice (some ⟨cg, 0, none⟩) 64 64) ∧ W6.drew.cell? ⟨wg, i, none⟩ = some (.slice (some ⟨kg, 0, none⟩) 64 64) from ⟨clg, cwg⟩)
            have S29N := hide (fun nq => (show (W6.drew.drewN nq).cell? ⟨lg, 0, none⟩ = some (.slice (some ⟨cg, 0, none⟩) 64 64) ∧ (W6.drew.drewN nq).cell? ⟨wg, i, none⟩ = some (.slice (some ⟨kg, 0, none⟩) 64 64) from ⟨clg, cwg⟩))
            have IXL := hide (fun X => by have h := index_bytes2 lg 0 0 1 lc (by omega) X; rwa [Nat.zero_add] at h : ∀ X : World, (Instr.indexAt 46 (.slice (some ⟨lg, 0, none⟩) 1 lc) (.int .i64 0)).run Try.prog X = .ok (.pointer (some ⟨lg, 0, none⟩)) X)
            have IXW := hide (fun X => by have h := index_bytes2 wg 0 i m wc hlt X; rwa [Nat.zero_add] at h : ∀ X : World, (Instr.indexAt 46 (.slice (some ⟨wg, 0, none⟩) m wc) (.int .i64 (i : Int))).run Try.prog X = .ok (.pointer (some ⟨wg, i, none⟩)) X)
            have HB56 := hide hb56
            clear ke hk6 hko hkg hve hcg hcb hco ho6 hvl HRB hb56 clg cwg c0 hlb hll
            refine wp_region_held_drew (S := fun Y => Y.cell? ⟨lg, 0, none⟩ = some (.slice (some ⟨cg, 0, none⟩) 64 64) ∧ Y.cell? ⟨wg, i, none⟩ = some (.slice (some ⟨kg, 0, none⟩) 64 64)) (by kernel_rfl) S29.out (fun hS => ?_)
            refine wpAnyH_take (i := 0) (v := (.slice (some ⟨lg, 0, none⟩) 1 lc)) rfl (by kernel_rfl) (by kernel_rfl) (by kernel_rfl) (fun _ _ _ h => h) (Or.inl ⟨by kernel_rfl, fun w' hw => by (go_simp)⟩) hS ?_
            refine wpAnyH_take (i := 1) (v := (.int .i64 1)) rfl (by kernel_rfl) (by kernel_rfl) (by kernel_rfl) (fun _ _ _ h => h) (Or.inl ⟨by kernel_rfl, fun w' hw => by (go_simp)⟩) hS ?_
            refine wpAnyH_take (i := 2) (v := (.bool false)) rfl (by kernel_rfl) (by kernel_rfl) (by kernel_rfl) (fun _ _ _ h => h) (Or.inl ⟨by kernel_rfl, fun w' hw => by (go_simp)⟩) hS ?_
            refine wpAnyH_take (i := 3) (v := (.bool false)) rfl (by kernel_rfl) (by kernel_rfl) (by kernel_rfl) (fun _ _ _ h => h) (Or.inl ⟨by kernel_rfl, fun w' hw => by (go_simp)⟩) hS ?_
            refine wpAnyH_take (i := 4) (v := (.slice (some ⟨lg, 0, none⟩) 1 lc)) rfl (by kernel_rfl) (by kernel_rfl) (by kernel_rfl) (fun _ _ _ h => h) (Or.inl ⟨by kernel_rfl, fun w' hw => by (go_simp)⟩) hS ?_
            refine wpAnyH_take (i := 5) (v := (.pointer (some ⟨lg, 0, none⟩))) rfl (by kernel_rfl) (by kernel_rfl) (by kernel_rfl) (fun _ _ _ h => h) (Or.inl ⟨by kernel_rfl, fun w' hw => by (have e := IXL.out w'; go_simp)⟩) hS ?_
            refine wpAnyH_take (i := 6) (v := (.slice (some ⟨cg, 0, none⟩) 64 64)) rfl (by kernel_rfl) (by kernel_rfl) (by kernel_rfl) (fun _ _ _ h => h) (Or.inl ⟨by kernel_rfl, fun w' hw => by (obtain ⟨z0, z1⟩ := hw; go_simp)⟩) hS ?_
            refine wpAnyH_take (i := 7) (v := (.slice (some ⟨wg, 0, none⟩) m wc)) rfl (by kernel_rfl) (by kernel_rfl) (by kernel_rfl) (fun _ _ _ h => h) (Or.inl ⟨by kernel_rfl, fun w' hw => by (go_simp)⟩) hS ?_
            refine wpAnyH_take (i := 8) (v := (.int .i64 (i : Int))) rfl (by kernel_rfl) (by kernel_rfl) (by kernel_rfl) (fun _ _ _ h => h) (Or.inl ⟨by kernel_rfl, fun w' hw => by (go_simp)⟩) hS ?_
            refine wpAnyH_take (i := 9) (v := (.pointer (some ⟨wg, i, none⟩))) rfl (by kernel_rfl) (by kernel_rfl) (by kernel_rfl) (fun _ _ _ h => h) (Or.inl ⟨by kernel_rfl, fun w' hw => by (have e := IXW.out w'; go_simp)⟩) hS ?_
            refine wpAnyH_take (i := 10) (v := (.slice (some ⟨kg, 0, none⟩) 64 64)) rfl (by kernel_rfl) (by kernel_rfl) (by kernel_rfl) (fun _ _ _ h => h) (Or.inl ⟨by kernel_rfl, fun w' hw => by (obtain ⟨z0, z1⟩ := hw; go_simp)⟩) hS ?_
            refine wpAnyH_goS (i := 11) (by kernel_rfl) rfl (by kernel_rfl) (fun K hK => ?_)
            go_wp2_with (go_at_call 16; refine (KE.out).mono ?_; rintro e w' ⟨rfl, nq, hw⟩; obtain rfl := hw)
            have hS2 := S29N.out nq
            refine hK.out _ _ hS2 ?_
            clear hK K
            refine wpAnyH_take (i := 12) (v := (.bool false)) rfl (by kernel_rfl) (by kernel_rfl) (by kernel_rfl) (fun _ _ _ h => h) (Or.inl ⟨by kernel_rfl, fun w' hw => by (go_simp)⟩) hS2 ?_
            refine wpAnyH_take (i := 13) (v := (.bool false)) rfl (by kernel_rfl) (by kernel_rfl) (by kernel_rfl) (fun _ _ _ h => h) (Or.inl ⟨by kernel_rfl, fun w' hw => by (go_simp)⟩) hS2 ?_
            refine wpAnyH_done (by kernel_rfl) ?_ _
            simp only [Act.put, List.getElem_toArray, List.getElem_cons_zero, List.getElem_cons_succ, List.setIfInBounds_toArray, List.set_cons_zero, List.set_cons_succ]
            go_wp2_with (fail)
            go_roundw
            case rel => exact ⟨i + 1, int_congrP (by omega), by omega, below_drewN HB56.out (1 + nq)⟩
            case measure => simp [intOf]; omega
          · have iI : ¬ (i : Int) < (m : Int) := by omega
            obtain rfl : m = i := by omega
            have ki := pimg_any hpd.dev HOK5.out
            obtain ⟨nb, hnb⟩ : ∃ nb, 64 * σ5.n = nb := ⟨_, rfl⟩
            rw [hnb] at ki
            have hbl : σ5.bytes.length = nb := by rw [HOK5.out.len, hnb]
            have hnb2 : nb = 64 * m := by rw [← hnb, HN5.out]
            have hfl : ((List.range m).map (lost σ (([] : List Int).map Int.toNat))).flatten = σ5.bytes := by
              have h9 := flat_lines (σ := σ5) HOK5.out.len (lost σ (([] : List Int).map Int.toNat)) (fun j hj => (HL5.out.lines j (by rw [← HL5.out.n]; exact hj)).symm)
              rw [HN5.out] at h9
              exact h9
            have hslr : ∀ X, Below W5.heap.size W5 X → SlR X (some ⟨wg, 0, none⟩) ((List.range m).map (lost σ (([] : List Int).map Int.toNat))) := fun X hX => by
              refine .inr ⟨wg, 0, rfl, Nat.lt_of_lt_of_le (lt_of_heap HW5.out) hX.size, fun j rr hj => ?_⟩
              rw [List.getElem?_map] at hj
              obtain ⟨j', hj', rfl⟩ := Option.map_eq_some_iff.1 hj
              have hjm : j < m := by have := (List.getElem?_eq_some_iff.1 hj').1; simpa using this
              obtain rfl : j' = j := by rw [List.getElem?_range hjm] at hj'; cases hj'; rfl
              obtain ⟨kg, hkg, hko⟩ := HE5.out j' hjm
              have hll := lost_len (σ := σ) (kp := ([] : List Int).map Int.toNat) (i := j') HST.out.ok (by rw [HN.out]; exact hjm)
              refine ⟨some ⟨kg, 0, none⟩, 64, ?_, (hko.below hX hko.lt).sl (lost_byte HST.out.ok), by rw [hll]; unfold maxLen; omega⟩
              rw [Nat.zero_add, hll]
              exact (hX.cell (lt_of_heap HW5.out)).trans ((cell8 HW5.out j').trans (hwc j' _ hkg))
            have kj : ∀ X, Below W5.heap.size W5 X → Calls Try.prog 17 #[.slice (some ⟨wg, 0, none⟩) m wc] X fun e w' => ∃ jg jc, e = .returned (.slice (some ⟨jg, 0, none⟩) nb jc) ∧ Sl w' (some ⟨jg, 0, none⟩) σ5.bytes ∧ Below X.heap.size X w' := fun X hX => by
              have h9 := join_any (some ⟨wg, 0, none⟩) wc ((List.range m).map (lost σ (([] : List Int).map Int.toNat))) X (hslr X hX) (by simp; omega) (by rw [hfl, hbl]; omega)
              rw [hfl, hbl, List.length_map, List.length_range] at h9
              refine h9.mono ?_
              rintro e w' ⟨v, rfl, ho, hb⟩
              rcases ho.2 with ⟨_, e⟩ | ⟨g, cap, cur, e, h1, h2, h3, _, h4, h5⟩
              · omega
              · refine ⟨g, cap, by rw [e], .inr ⟨g, 0, rfl, lt_of_heap h2, fun q x hq => ⟨?_, HOK5.out.byte x (List.mem_of_getElem? hq)⟩⟩, hb⟩
                have hlt : q < σ5.bytes.length := (List.getElem?_eq_some_iff.1 hq).1
                have h6 : (cur.toList.take (nb * 1))[q]? = some (B8 x) := by rw [h5, List.getElem?_map, hq]; rfl
                rw [List.getElem?_take, if_pos (by omega)] at h6
                rw [Nat.zero_add, cell8 h2]
                simpa [B8] using h6
            have KI := hide ki
            have KJ := hide kj
            have HBL := hide hbl
            have HBR := hide hBr
            have fxp := hide (fun (X : World) (hX : Below W5.heap.size W5 X) => (HPD5.out.below hX))
            have M1 := hide trivial
            have nbI : (nb : Int) ≤ 256 := by omega
            have N5I : (σ5.n : Int) ≤ (m : Int) := by rw [HN5.out]; exact Int.le_refl _
            clear ki kj hslr hfl hbl hnb hnb2 hpd hBr
            go_wp2_with (first
              | (go_at_call 13; refine (KI.out).mono ?_; rintro e W7 ⟨rfl, ho7, hb7⟩; have HB7 := hide (HBR.out.trans (hb7.mono HBR.out.size)); have HO7 := hide ho7; have K7 := hide (KJ.out W7 (HBR.out.trans (hb7.mono HBR.out.size))); clear ho7 hb7)
              | (go_at_call 17; refine (K7.out).mono ?_; rintro e W8 ⟨jg, jc, rfl, hs8, hb8⟩; have HB8 := hide (HB7.out.trans (hb8.mono HB7.out.size)); have ke := eqBytes_any (some ⟨wr.heap.size, 0, none⟩) (some ⟨jg, 0, none⟩) nb jc σ5.bytes σ5.bytes W8 ((HO7.out.below hb8 HO7.out.lt).sl HOK5.out.byte) hs8 (by rw [HBL.out]; omega); rw [HBL.out, decide_eq_true rfl] at ke; have KE := hide ke; clear ke hs8 hb8)
              | (go_at_call 16; refine (KE.out).mono ?_; rintro e w' ⟨rfl, nq, hw⟩; have hpd9 := fxp.out (W8.drewN nq) (below_drewN HB8.out nq); have KC1 := hide (pcont_out hpd9.dev HOK5.out (m : Int) (.inr N5I)); have KC2 := hide (pcont_out hpd9.dev HOK5.out (-1) (.inl (by omega))); have c09 : (W8.drewN nq).cell? ⟨p, 0, none⟩ = some (.pointer (some ⟨b, 0, none⟩)) := hpd9.pl.c 0; have HF := hide (HB1.out.trans (hpd9.bel.mono HB1.out.size)); clear hpd9; obtain rfl := hw)
              | (go_at_call 15; have M1' := M1; clear M1' M1; refine (KC1.out).mono ?_; rintro e w' ⟨rfl, hw⟩; obtain rfl := hw.symm)
              | (go_at_call 15; refine (KC2.out).mono ?_; rintro e w' ⟨rfl, hw⟩; obtain rfl := hw.symm))
            go_ret
            exact ⟨rfl, HF.out⟩
end Go.Proofs.Ytkolhpddeoajjaa
namespace Go.Proofs.Ytkolhpddeoajjaa
open Go.ChangeShapes Go.WideShapes Go.ChangeAt Go.RowKit
set_option linter.unusedVariables false
set_option maxRecDepth 100000

theorem Try.cellsSt : Try.prog.cellsOf 59 = 7 := by kernel_rfl
theorem Try.cellsI : Try.prog.cellsOf 3 = 1 := by kernel_rfl
theorem Try.cellsU : Try.prog.cellsOf 43 = 1 := by kernel_rfl
theorem Try.cellsY : Try.prog.cellsOf 28 = 1 := by kernel_rfl
theorem Try.cellsN : Try.prog.cellsOf 23 = 1 := by kernel_rfl
theorem Try.cellsA : Try.prog.cellsOf 57 = 1 := by kernel_rfl
theorem slice_form {H : Type} {enc : TypeId × Value → H} {W : World} {fuel : Nat} {t e : TypeId} {c : Value} {x : DataW H × List MemPlace} (ht : Try.prog.underlying t = some (.slice e)) (h : DataW.trod enc Try.prog W 0 (fun _ => true) true fuel t [c] = some x) : ∃ a l k, c = .slice a l k := by
  rcases Go.Deep.open_slice ht h with ⟨e, _⟩ | ⟨a, l, c, _, _, _, _, e, _⟩
  · simp at e; exact ⟨_, _, _, e⟩
  · simp at e; exact ⟨_, _, _, e⟩
/-- The seven cells of a step. -/
theorem step_cells {H : Type} {enc : TypeId × Value → H} {W : World} (fuel : Nat) (cs : List Value) (x : DataW H × List MemPlace)
    (h : DataW.trod enc Try.prog W 0 (fun _ => true) true fuel 59 cs = some x) :
    ∃ s : StpR, cs = s.vals.toList ∧ s.Ok ∧ 8 ≤ Rows.uptoBulk x.1 := by
  obtain ⟨xs, n, _, hx, hl, hlen, hf⟩ := DataW.trod_struct Try.underlying59 h
  rw [Try.cellsSt] at hl
  match cs, hl with
  | [c0, c1, c2, c3, c4, c5, c6], _ =>
    match xs, hlen with
    | [y0, y1, y2, y3, y4, y5, y6], _ =>
      have h0 := hf 0 _ rfl
      have h1 := hf 1 _ rfl
      have h2 := hf 2 _ rfl
      have h3 := hf 3 _ rfl
      have h4 := hf 4 _ rfl
      have h5 := hf 5 _ rfl
      have h6 := hf 6 _ rfl
      simp [Try.cellsI, Try.cellsU, Try.cellsY, Try.cellsN, Try.cellsA] at h0 h1 h2 h3 h4 h5 h6
      obtain ⟨da, dl, dc, rfl⟩ := slice_form Try.underlying28 h4
      obtain ⟨ka, kl, kc, rfl⟩ := slice_form Try.underlying23 h5
      obtain ⟨aa, al, ac, rfl⟩ := slice_form Try.underlying57 h6
      obtain ⟨z0, e0, _, w0⟩ := DataW.trod_int Try.underlying3 h0
      obtain ⟨z1, e1, _, w1⟩ := DataW.trod_int Try.underlying3 h1
      obtain ⟨z2, e2, _, w2⟩ := DataW.trod_int Try.underlying3 h2
      obtain ⟨z3, e3, _, w3⟩ := DataW.trod_int Try.underlying43 h3
      simp at e0 e1 e2 e3
      subst e0 e1 e2 e3
      have b1 := bounds_i64 w1
      have b3 := bounds_u64 w3
      obtain ⟨v, rfl⟩ : ∃ v : Nat, z3 = (v : Int) := ⟨z3.toNat, by omega⟩
      refine ⟨⟨z0, z1, z2, v, da, dl, dc, ka, kl, kc, aa, al, ac⟩, rfl, ⟨b1.1, b1.2, by show v < _; omega⟩, ?_⟩
      have p0 := bulk_pos y0.1
      have p1 := bulk_pos y1.1
      have p2 := bulk_pos y2.1
      have p3 := bulk_pos y3.1
      have p4 := bulk_pos y4.1
      have p5 := bulk_pos y5.1
      have p6 := bulk_pos y6.1
      subst hx
      simp only [List.map_cons, List.map_nil, Rows.uptoBulk, Rows.uptoBulkAll]
      omega
theorem sum_const {α : Type} (l : List α) (k : Nat) : (l.map (fun _ => k)).sum = k * l.length := by
  induction l with
  | nil => simp
  | cons a r ih => simp only [List.map_cons, List.sum_cons, List.length_cons, ih]; rw [Nat.mul_add]; omega
theorem open_script {H : Type} {enc : TypeId × Value → H} {W : World} {v : Value} {d : DataW H} {p : List MemPlace} (h : DataW.Trod enc Try.prog W 0 (fun _ => true) true 22 v d p) (hv : ∃ a l c, v = .slice a l c) :
    ∃ (a : Option Addr) (ns c : Nat) (xs : List StpR), v = .slice a ns c ∧ RowC 7 (fun s : StpR => s.vals.toList) W a xs ∧ (∀ s ∈ xs, s.Ok) ∧ xs.length = ns ∧ 8 * ns ≤ Rows.uptoBulk d := by
  obtain ⟨a, l, c, rfl⟩ := hv
  obtain ⟨fuel, hf⟩ := h
  have hf : DataW.trod enc Try.prog W 0 (fun _ => true) true fuel 22 [.slice a l c] = some (d, p) := by simpa [Value.cells] using hf
  obtain ⟨xs, rfl, h1, h2, h3, _⟩ := open_row (fun s : StpR => s.vals.toList) (fun s _ => s.Ok) (fun _ => 8) Try.underlying22 Try.cellsSt (by omega) (fun s => rfl) (fun fuel cs x h => by obtain ⟨s, q1, q2, q3⟩ := step_cells fuel cs x h; exact ⟨s, q1, q2, q3⟩) hf
  rw [sum_const] at h3
  exact ⟨a, xs.length, c, xs, rfl, h1, fun s hs => by obtain ⟨d, hd⟩ := h2 s hs; exact hd, rfl, by have h3 : 8 * xs.length + 1 ≤ Rows.uptoBulk d := h3; omega⟩
theorem open_keep {H : Type} {enc : TypeId × Value → H} {W : World} {v : Value} {d : DataW H} {p : List MemPlace} (h : DataW.Trod enc Try.prog W 0 (fun _ => true) true 23 v d p) (hv : ∃ a l c, v = .slice a l c) :
    ∃ (a : Option Addr) (nk c : Nat) (zs : List Int), v = .slice a nk c ∧ IntsP W a zs ∧ zs.length = nk ∧ nk ≤ c ∧ nk ≤ Rows.uptoBulk d := by
  obtain ⟨a, l, c, rfl⟩ := hv
  obtain ⟨fuel, hf⟩ := h
  have hf : DataW.trod enc Try.prog W 0 (fun _ => true) true fuel 23 [.slice a l c] = some (d, p) := by simpa [Value.cells] using hf
  rcases open_ints Try.underlying23 Try.underlying3 (by kernel_rfl) hf with ⟨hcs, hx0⟩ | ⟨ad, l', cap, zs, hcs, _, hl, hm, hzl, hx, hcell, hwz⟩
  · simp at hcs
    obtain ⟨rfl, rfl, rfl⟩ := hcs
    exact ⟨none, 0, 0, [], rfl, ⟨by simp, .inl rfl⟩, rfl, Nat.le_refl _, Nat.zero_le _⟩
  · simp at hcs
    obtain ⟨rfl, rfl, rfl⟩ := hcs
    simp only [if_true] at hzl
    have htl : (zs.take l).length = l := by rw [List.length_take]; omega
    refine ⟨some ad, l, c, zs.take l, rfl, ⟨fun z hz => bounds_i64 (hwz z (List.mem_of_mem_take hz)), ?_⟩, htl, hl, ?_⟩
    · by_cases h0 : l = 0
      · subst h0; exact .inl (by simp)
      · obtain ⟨b, off, spot⟩ := ad
        have hc := hcell 0 (by omega)
        have hspot : spot = none := by simpa [Addr.add] using World.cell?_spot hc
        subst hspot
        refine .inr ⟨b, off, rfl, World.block_lt_of_cell? _ _ hc, fun i y hy => ?_⟩
        have hi : i < l := by
          have := (List.getElem?_eq_some_iff.1 hy).1
          omega
        rw [List.getElem?_take, if_pos hi] at hy
        have h1 := hcell i (by omega)
        have e : (⟨b, off, none⟩ : Addr).add i = ⟨b, off + i, none⟩ := by simp [Addr.add]
        rw [e] at h1
        rw [h1, List.getD_eq_getElem?_getD, hy]
        rfl
    · simp only [Prod.mk.injEq] at hx
      rw [hx.1]
      have h5 := bulk_len (H := H) (lits .i64 (zs.take l))
      have h6 : (lits (H := H) .i64 (zs.take l)).length = l := by simp [lits]; omega
      simp only [Rows.uptoBulk]
      omega
end Go.Proofs.Ytkolhpddeoajjaa
namespace Go.Proofs.Ytkolhpddeoajjaa
open Go.ChangeShapes Go.WideShapes Go.ChangeAt Go.RowKit
set_option linter.unusedVariables false
theorem trod_len {H : Type} {enc : TypeId × Value → H} {W : World} {t e : TypeId} {a : Option Addr} {l c : Nat} {d : DataW H} {p : List MemPlace} (ht : Try.prog.underlying t = some (.slice e)) (h : DataW.Trod enc Try.prog W 0 (fun _ => true) true t (.slice a l c) d p)
    (hz : ∀ el sp, d = .slice el sp → (el.length + sp.length) * Try.prog.bytesOf e ≤ reachBytes) : l * Try.prog.bytesOf e ≤ reachBytes := by
  obtain ⟨fuel, hf⟩ := h
  have hf : DataW.trod enc Try.prog W 0 (fun _ => true) true fuel t [.slice a l c] = some (d, p) := by simpa [Value.cells] using hf
  rcases Go.Deep.open_slice ht hf with ⟨hcs, hx0⟩ | ⟨ad, l', c', m, n, D, Pl, hcs, _, hl, hm, hmm, hx, hele⟩
  · simp at hcs
    obtain ⟨rfl, rfl, rfl⟩ := hcs
    simp
  · simp at hcs
    obtain ⟨rfl, rfl, rfl⟩ := hcs
    simp only [Prod.mk.injEq] at hx
    have h5 := hz _ _ hx.1
    simp only [List.length_map, List.length_range] at h5
    exact Nat.le_trans (Nat.mul_le_mul_right _ (Nat.le_add_right _ _)) h5
theorem len_steps {l : Nat} (h : l * Try.prog.bytesOf 59 ≤ reachBytes) : l ≤ 1353300000000 := by
  have e : Try.prog.bytesOf 59 = 104 := by kernel_rfl
  have e2 : reachBytes = 140737488351232 := by decide
  rw [e, e2] at h; omega
theorem len_nums {l : Nat} (h : l * Try.prog.bytesOf 3 ≤ reachBytes) : l ≤ 17592186043904 := by
  have e : Try.prog.bytesOf 3 = 8 := by kernel_rfl
  have e2 : reachBytes = 140737488351232 := by decide
  rw [e, e2] at h; omega
end Go.Proofs.Ytkolhpddeoajjaa
namespace Go.Proofs.Ytkolhpddeoajjaa.pmemKeeps
open Go.ChangeShapes Go.WideShapes Go.ChangeAt Go.RowKit Go.Proofs.Ytkolhpddeoajjaa
set_option linter.unusedVariables false

set_option maxRecDepth 100000 in
theorem lifted (os : Os) (started : os.Started) (H : Type) (enc : TypeId × Value → H) :
    ReturnsInHanded {} Try.checked os 4 .any (Rows.pmemKeepsSpec.pre6 enc Try.prog Try.f4 Rows.pmemKeepsRow.domain false) (Rows.pmemKeepsSpec.post enc Try.prog Try.f4 false true false false) := by
  refine returnsInHanded_of_change_sized (C := Try.checked) own started (by kernel_rfl) Try.func4
    (ChangeSpec.witness6 (enc := enc) (C := Try.checked) false ⟨#[], #[.int .i64 0, .slice none 0 0, .slice none 0 0], []⟩ 8 (by kernel_rfl) (by kernel_rfl) (by kernel_rfl) (by kernel_rfl)) ?_
  intro W base args ds gs before hval0 hW hcnd hsz0 _
  have hval : ∀ (j : Nat) t v, Try.f4.params[j]? = some t → args[j]? = some v → Value.okWide Try.prog W .any base t v := hval0
  have hsz : (DataW.weightsEach Try.prog (Try.f4.params.toList ++ Rows.pmemKeepsSpec.plain.varTypes Try.prog) (ds ++ gs)).all (· ≤ reachBytes) = true := hsz0
  have hW' := hW
  obtain ⟨p, q, hA0, hV, rfl, hfz, hnd⟩ := hW
  have hA : DataW.TrodAll enc Try.prog W 0 (fun _ => true) true Try.f4.params.toList args.toList ds p := hA0
  rw [Try.params4] at hA hval hsz
  obtain ⟨v0, vs0, d0, ds0, p0, q0, hargs, rfl, rfl, h0, r0⟩ := trodAll_cons hA
  obtain ⟨v1, vs1, d1, ds1, p1, q1, rfl, rfl, rfl, h1, r1⟩ := trodAll_cons r0
  obtain ⟨v2, vs2, d2, ds2, p2, q2, rfl, rfl, rfl, h2, r2⟩ := trodAll_cons r1
  obtain ⟨rfl, rfl, rfl⟩ := trodAll_nil r2
  obtain rfl : args = #[v0, v1, v2] := by cases args; simp_all
  obtain ⟨rfl, rfl⟩ := trodVars_none hV
  obtain ⟨a0, rfl, rfl, rfl, w0⟩ := open_int Try.underlying3 (hval 0 3 v0 rfl rfl) h0
  have b0 := bounds_i64 w0
  have k1 := h1
  have lt1 : ∀ x ∈ p1, x.block < W.heap.size := by obtain ⟨m, hm⟩ := k1; exact DataW.trod_lt m _ _ _ hm
  obtain ⟨sa1, ns1, sc1, xs1, rfl, row1, sok1, sln1, sbk1⟩ := open_script h1 (by obtain ⟨a, l, c, e⟩ := okWide_slice Try.underlying22 (hval 1 22 v1 rfl rfl); exact ⟨a, l, c, e⟩)
  have z1 := len_steps (trod_len Try.underlying22 k1 (fun el sp hd => by subst hd; exact sized_slice hsz (j := 1) (t := 22) (e := 59) rfl rfl Try.underlying22))
  have k2 := h2
  have lt2 : ∀ x ∈ p2, x.block < W.heap.size := by obtain ⟨m, hm⟩ := k2; exact DataW.trod_lt m _ _ _ hm
  obtain ⟨ka2, nk2, kc2, zs2, rfl, hz2, zl2, zc2, zb2⟩ := open_keep h2 (by obtain ⟨a, l, c, e⟩ := okWide_slice Try.underlying23 (hval 2 23 v2 rfl rfl); exact ⟨a, l, c, e⟩)
  have z2 := len_nums (trod_len Try.underlying23 k2 (fun el sp hd => by subst hd; exact sized_slice hsz (j := 2) (t := 23) (e := 3) rfl rfl Try.underlying23))
  clear hval0
  clear hA0
  refine (pmemKeeps_walk W a0 sa1 ka2 sc1 ns1 kc2 nk2 xs1 zs2 b0 ⟨row1, sok1, sln1, z1⟩ hz2 zl2 z2).mono fun e W' ⟨he, bel⟩ => ?_
  subst he
  exact ⟨_, rfl, _, _, _, [], _, [], hW', trodAll_mk1 (shut_bool Try.underlying4 _), (trodAll_cons_mk (shut_int Try.underlying3 w0) (trodAll_cons_mk (Below.trod laidOut (by kernel_rfl) (of_decide_eq_true (by kernel_rfl)) k1 bel lt1) (trodAll_cons_mk (Below.trod laidOut (by kernel_rfl) (of_decide_eq_true (by kernel_rfl)) k2 bel lt2) trodAll_mk0))), rfl, bel.frame _, fun h => by cases h⟩

theorem over : Rows.pmemKeepsRow.holds Try.pinned (OpenSpec.ofChange Rows.pmemKeepsSpec) :=
  OpenClaim.holds_of_wide 4 Try.f4 rfl rfl rfl rfl rfl rfl rfl ⟨rfl, rfl, rfl, rfl, rfl⟩ rfl rfl rfl rfl rfl (by kernel_rfl) Try.func4 (by kernel_rfl)
    (of_decide_eq_true (by kernel_rfl)) (by unfold Func.isWrapper; first | (rw [if_pos (by decide +kernel)]; kernel_rfl) | (rw [if_neg (by decide +kernel)]; exact ⟨rfl, rfl⟩))
    (fun os started H enc _ => lifted os started H enc)

end Go.Proofs.Ytkolhpddeoajjaa.pmemKeeps

namespace Go.Proofs.Ytkolhpddeoajjaa
/-- PmemKeeps, as it is stated. -/
theorem pmemKeeps_holds : Rows.PmemKeepsSaid := pmemKeeps.over
#print axioms pmemKeeps_holds
end Go.Proofs.Ytkolhpddeoajjaa
