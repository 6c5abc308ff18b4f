/- PmemLasts: the number of eight bytes; what words are behind a loss of power. -/
import Derived.Test.YtmgeokmgidnneaaROpenM
import Derived.Deep.Cut
import Derived.Test.YtmgeokmgidnneaaPLay
import Derived.Test.YtmgeokmgidnneaaBase
import Derived.Laws.BitsAllLaws
import Derived.Test.YtmgeokmgidnneaaEq
import Derived.Test.YtmgeokmgidnneaaPut
import Derived.Maps.AppendAt
import Derived.Laws.AppendOwnNone
import Derived.Test.YtmgeokmgidnneaaPNew
import Derived.Test.YtmgeokmgidnneaaPBkM
namespace Go.Proofs.Ytmgeokmgidnneaa
open Go.RowKit Go.Shelf
set_option linter.unusedVariables false

theorem infoRw : ∃ i, Try.prog.info? 29 = some i ∧ i.zero = some (.slice none 0 0) ∧ i.size = 1 ∧ i.bytes = 24 := by
  have h : (Try.prog.info? 29).map (fun i => (i.zero, i.size, i.bytes)) = some (some (.slice none 0 0), 1, 24) := by kernel_rfl
  obtain ⟨i, h1, h2⟩ := Option.map_eq_some_iff.1 h
  simp only [Prod.mk.injEq] at h2
  exact ⟨i, h1, h2.1, h2.2.1, h2.2.2⟩
theorem infoBo : ∃ i, Try.prog.info? 4 = some i ∧ i.zero = some (.bool false) ∧ i.size = 1 ∧ i.bytes = 1 := by
  have h : (Try.prog.info? 4).map (fun i => (i.zero, i.size, i.bytes)) = some (some (.bool false), 1, 1) := by kernel_rfl
  obtain ⟨i, h1, h2⟩ := Option.map_eq_some_iff.1 h
  simp only [Prod.mk.injEq] at h2
  exact ⟨i, h1, h2.1, h2.2.1, h2.2.2⟩
theorem cellOneP (W : World) (x : Value) (t : TypeId) : ∀ (j : Nat) u, [x][j]? = some u → (W.alloc (.cells #[x] t)).cell? ((⟨W.heap.size, 0, none⟩ : Addr).add j) = some u := cell_oneP W x t
/-- A book that was laid since w0. -/
structure PlB (w0 W : World) (p b : Nat) (K : Kl) (B : Bk) : Prop where
  pl : PlL W p b K B
  foot : ∀ k, FootP p K B k → w0.heap.size ≤ k
  bel : Below w0.heap.size w0 W
section
variable {w0 W W' W3 W4 : World} {p b : Nat} {K K' : Kl} {B B' : Bk}
theorem PlB.below (h : PlB w0 W p b K B) (hB : Below W.heap.size W W') : PlB w0 W' p b K B := ⟨h.pl.below hB, h.foot, h.bel.trans (hB.mono h.bel.size)⟩
/-- A row of the book has grown, and the book says where it lies. -/
theorem PlB.growR {R : Key → Option Rw} {k : Key} {r : Rw} {v1 : Value} {ys : List Value} {j : Nat} (h : PlB w0 W p b K B) (hB : Below W.heap.size W W3) (oR : Own W3 R) (hR : ∀ q, FootR R q → FootR (rowsOf K B) q ∨ W.heap.size ≤ q) (hk : R k = some r) (hg : W3.grownBy W4 r.v.ownBlock) (ho : W4.ownsRow 0 r.t 1 v1 ys.length ys) (hat : v1.ownBlock = r.v.ownBlock ∨ v1.ownBlock = some W3.heap.size)
    (hrow : ∀ q, rowsOf K' B' q = upd R k ⟨r.t, v1, ys⟩ q) (hc : (#[.pointer (some ⟨b, 0, none⟩), K.sv, K.hv, K.lv, K.uv, K.mv] : Array Value).setIfInBounds j v1 = #[.pointer (some ⟨b, 0, none⟩), K'.sv, K'.hv, K'.lv, K'.uv, K'.mv]) (hl : K'.hs.length = B'.held.length) :
    W4.heap[p]? = some (.cells #[.pointer (some ⟨b, 0, none⟩), K.sv, K.hv, K.lv, K.uv, K.mv] 34 (0, 0)) ∧ PlB w0 (W4.setCell ⟨p, j, none⟩ v1) p b K' B' := by
  have h3 := h.pl.below hB
  have hp3 : p < W3.heap.size := lt_of_heap h3.blk
  have hnR : ∀ g, FootR R g → g ≠ p := fun g hf e => by
    obtain ⟨c, t, hc2, ht⟩ := oR.lt hf
    subst e
    rw [h3.blk] at hc2
    cases hc2
    rcases ht with ht | ht | ht | ht <;> exact absurd ht (by decide)
  have hpb : W4.heap[p]? = W3.heap[p]? := hg.block p hp3 (fun e => hnR p ⟨k, r, hk, e.symm⟩ rfl)
  have o1 := oR.grow hk hg ho hat
  have hft : ∀ q, FootR (rowsOf K' B') q → FootR (rowsOf K B) q ∨ W.heap.size ≤ q := fun q hq => by
    have e : rowsOf K' B' = _ := funext hrow
    rw [e] at hq
    rcases FootR.upd_sub (r := ⟨r.t, v1, ys⟩) (N := W3.heap.size) hk (hat.imp id (fun h q hq => by rw [show (Rw.mk r.t v1 ys).v = v1 from rfl, h] at hq; cases hq; exact Nat.le_refl _)) hq with h1 | h1
    · exact hR q h1
    · exact .inr (Nat.le_trans hB.size h1)
  have hne : ∀ g, FootR (upd R k ⟨r.t, v1, ys⟩) g → g ≠ p := fun g hf e => by
    obtain ⟨c, t, hc2, ht⟩ := o1.lt hf
    subst e
    rw [hpb, h3.blk] at hc2
    cases hc2
    rcases ht with ht | ht | ht | ht <;> exact absurd ht (by decide)
  have o2 : Own (W4.setCell ⟨p, j, none⟩ v1) (upd R k ⟨r.t, v1, ys⟩) := o1.keep (fun g hf => heap_set_ne W4 p j g v1 (hne g hf))
  have hfb : ∀ q, FootR R q → w0.heap.size ≤ q := fun q hq => by
    rcases hR q hq with h1 | h1
    · exact h.foot q (.inr h1)
    · exact Nat.le_trans h.bel.size h1
  refine ⟨hpb.trans h3.blk, ⟨⟨?_, o2.congr hrow, hl⟩, fun q hq => ?_, ?_⟩⟩
  · rw [heap_set1 W4 p j _ _ v1 (hpb.trans h3.blk), hc]
  · rcases hq with rfl | hq
    · exact h.foot _ (.inl rfl)
    · rcases hft q hq with h1 | h1
      · exact h.foot q (.inr h1)
      · exact Nat.le_trans h.bel.size h1
  · have hb4 : Below w0.heap.size w0 W4 := by
      have h5 := h.bel.trans (hB.mono h.bel.size)
      exact ⟨hg.os.trans h5.os, hg.tape.trans h5.tape, hg.output.trans h5.output, Nat.le_trans h5.size hg.size, fun q hq => (hg.block q (Nat.lt_of_lt_of_le hq h5.size) (fun e => by have := hfb q ⟨k, r, hk, e.symm⟩; omega)).trans (h5.block q hq)⟩
    exact hb4.setCell (p := ⟨p, j, none⟩) (h.foot p (.inl rfl)) _
theorem PlB.grow {k : Key} {r : Rw} {v1 : Value} {ys : List Value} {j : Nat} (h : PlB w0 W p b K B) (hB : Below W.heap.size W W3) (hk : rowsOf K B k = some r) (hg : W3.grownBy W4 r.v.ownBlock) (ho : W4.ownsRow 0 r.t 1 v1 ys.length ys) (hat : v1.ownBlock = r.v.ownBlock ∨ v1.ownBlock = some W3.heap.size)
    (hrow : ∀ q, rowsOf K' B' q = upd (rowsOf K B) k ⟨r.t, v1, ys⟩ q) (hc : (#[.pointer (some ⟨b, 0, none⟩), K.sv, K.hv, K.lv, K.uv, K.mv] : Array Value).setIfInBounds j v1 = #[.pointer (some ⟨b, 0, none⟩), K'.sv, K'.hv, K'.lv, K'.uv, K'.mv]) (hl : K'.hs.length = B'.held.length) :
    W4.heap[p]? = some (.cells #[.pointer (some ⟨b, 0, none⟩), K.sv, K.hv, K.lv, K.uv, K.mv] 34 (0, 0)) ∧ PlB w0 (W4.setCell ⟨p, j, none⟩ v1) p b K' B' :=
  h.growR hB (h.pl.below hB).own (fun q hq => .inl hq) hk hg ho hat hrow hc hl
theorem PlB.grow_held {e hv1 : Value} (h : PlB w0 W p b K B) (hB : Below W.heap.size W W3) (he : W3.ownsRow 0 47 1 e 1 [U64 0]) (hen : ∀ g, e.ownBlock = some g → W.heap.size ≤ g) (hg : W3.grownBy W4 K.hv.ownBlock) (ho : W4.ownsRow 0 29 1 hv1 (K.hs.length + 1) (K.hs ++ [e])) (hat : hv1.ownBlock = K.hv.ownBlock ∨ hv1.ownBlock = some W3.heap.size) :
    W4.heap[p]? = some (.cells #[.pointer (some ⟨b, 0, none⟩), K.sv, K.hv, K.lv, K.uv, K.mv] 34 (0, 0)) ∧ PlB w0 (W4.setCell ⟨p, 2, none⟩ hv1) p b { K with hv := hv1, hs := K.hs ++ [e] } { B with held := B.held ++ [[0]] } := by
  have h3 := h.pl.below hB
  have hfr : ∀ g, e.ownBlock = some g → ¬ FootR (rowsOf K B) g := fun g hg hf => by have := h.pl.lt (.inr hf); have := hen g hg; omega
  have o1 : Own W3 (upd (rowsOf K B) (.inner B.held.length) ⟨47, e, [U64 0]⟩) := h3.own.more (r := ⟨47, e, [U64 0]⟩) he (.inl rfl) hfr
  refine h.growR hB o1 (fun q hq => FootR.more_sub (r := ⟨47, e, [U64 0]⟩) hen hq) (k := .held) (r := ⟨29, K.hv, K.hs⟩) rfl hg (by rw [List.length_append]; exact ho) hat (fun q => ?_) rfl (by show (K.hs ++ [e]).length = (B.held ++ [[0]]).length; rw [List.length_append, List.length_append, h.pl.hl]; rfl)
  cases q with
  | seen => rfl
  | held => rfl
  | last => rfl
  | sure => rfl
  | marks => rfl
  | inner i =>
    show innerOf { K with hv := hv1, hs := K.hs ++ [e] } { B with held := B.held ++ [[0]] } i = if Key.inner i = Key.held then _ else (if Key.inner i = Key.inner B.held.length then _ else innerOf K B i)
    rw [if_neg (by simp)]
    unfold innerOf
    by_cases e1 : i = B.held.length
    · subst e1
      rw [if_pos rfl]
      have x1 : (K.hs ++ [e])[B.held.length]? = some e := by rw [← h.pl.hl]; simp
      have x2 : (B.held ++ [[0]])[B.held.length]? = some [0] := by simp
      show (match (K.hs ++ [e])[B.held.length]?, (B.held ++ [[0]])[B.held.length]? with | some v, some l => some (Rw.mk 47 v (l.map U64)) | _, _ => none) = _
      rw [x1, x2]
      rfl
    · rw [if_neg (by simpa using e1)]
      show (match (K.hs ++ [e])[i]?, (B.held ++ [[0]])[i]? with | some v, some l => some (Rw.mk 47 v (l.map U64)) | _, _ => none) = (match K.hs[i]?, B.held[i]? with | some v, some l => some (Rw.mk 47 v (l.map U64)) | _, _ => none)
      by_cases hi : i < B.held.length
      · rw [List.getElem?_append_left (by rw [h.pl.hl]; exact hi), List.getElem?_append_left hi]
      · rw [List.getElem?_eq_none (l := K.hs ++ [e]) (by rw [List.length_append, h.pl.hl]; simp; omega), List.getElem?_eq_none (l := K.hs) (by rw [h.pl.hl]; omega)]
end
def bN (i : Nat) : Bk := ⟨List.replicate i 0, List.replicate i [0], List.replicate i 0, List.replicate i true, []⟩
end Go.Proofs.Ytmgeokmgidnneaa
namespace Go.Proofs.Ytmgeokmgidnneaa
open Go.RowKit Go.Shelf
set_option linter.unusedVariables false

section
variable {w0 W : World} {p b : Nat} {K : Kl} {B : Bk}
theorem PlB.app_seen {i : Nat} {sv : Value} (h : PlB w0 W p b K B) (hs : B.seen.length = i) (esv : K.sv = sv) : (W.alloc (.cells #[.int .u64 0] 47)).ownsRow 0 47 1 sv i (B.seen.map U64) ∧ ∀ v1 x1, x1.ownsRow 0 47 1 v1 (i + 1) (B.seen.map U64 ++ [.int .u64 0]) → (W.alloc (.cells #[.int .u64 0] 47)).grownBy x1 sv.ownBlock → (v1.ownBlock = sv.ownBlock ∨ v1.ownBlock = some (W.alloc (.cells #[.int .u64 0] 47)).heap.size) →
    (∃ u, x1.cell? ⟨p, 1, none⟩ = some u) ∧ x1.frozen? ⟨p, 1, none⟩ = false ∧ PlB w0 (x1.setCell ⟨p, 1, none⟩ v1) p b { K with sv := v1 } { B with seen := B.seen ++ [0] } := by
  subst esv
  have hB : Below W.heap.size W (W.alloc (.cells #[.int .u64 0] 47)) := (Below.refl _ _).alloc (Nat.le_refl _) _
  have hr := (h.pl.below hB).own.row .seen _ rfl
  simp only [List.length_map, hs] at hr
  refine ⟨hr, fun v1 x1 ho hg hat => ?_⟩
  obtain ⟨q1, q2⟩ := h.grow (k := .seen) (r := ⟨47, K.sv, B.seen.map U64⟩) (v1 := v1) (ys := (B.seen ++ [0]).map U64) (K' := { K with sv := v1 }) (B' := { B with seen := B.seen ++ [0] }) (j := 1) hB rfl hg (by rw [List.length_map, List.length_append, hs, List.map_append]; exact ho) hat (fun q => by cases q <;> rfl) rfl h.pl.hl
  exact ⟨⟨_, cell8 q1 1⟩, froz8 q1 1, q2⟩
theorem PlB.app_last {i : Nat} {sv : Value} (h : PlB w0 W p b K B) (hs : B.last.length = i) (esv : K.lv = sv) : (W.alloc (.cells #[.int .u64 0] 47)).ownsRow 0 47 1 sv i (B.last.map U64) ∧ ∀ v1 x1, x1.ownsRow 0 47 1 v1 (i + 1) (B.last.map U64 ++ [.int .u64 0]) → (W.alloc (.cells #[.int .u64 0] 47)).grownBy x1 sv.ownBlock → (v1.ownBlock = sv.ownBlock ∨ v1.ownBlock = some (W.alloc (.cells #[.int .u64 0] 47)).heap.size) →
    (∃ u, x1.cell? ⟨p, 3, none⟩ = some u) ∧ x1.frozen? ⟨p, 3, none⟩ = false ∧ PlB w0 (x1.setCell ⟨p, 3, none⟩ v1) p b { K with lv := v1 } { B with last := B.last ++ [0] } := by
  subst esv
  have hB : Below W.heap.size W (W.alloc (.cells #[.int .u64 0] 47)) := (Below.refl _ _).alloc (Nat.le_refl _) _
  have hr := (h.pl.below hB).own.row .last _ rfl
  simp only [List.length_map, hs] at hr
  refine ⟨hr, fun v1 x1 ho hg hat => ?_⟩
  obtain ⟨q1, q2⟩ := h.grow (k := .last) (r := ⟨47, K.lv, B.last.map U64⟩) (v1 := v1) (ys := (B.last ++ [0]).map U64) (K' := { K with lv := v1 }) (B' := { B with last := B.last ++ [0] }) (j := 3) hB rfl hg (by rw [List.length_map, List.length_append, hs, List.map_append]; exact ho) hat (fun q => by cases q <;> rfl) rfl h.pl.hl
  exact ⟨⟨_, cell8 q1 3⟩, froz8 q1 3, q2⟩
theorem PlB.app_sure {i : Nat} {sv : Value} (h : PlB w0 W p b K B) (hs : B.sure.length = i) (esv : K.uv = sv) : (W.alloc (.cells #[.bool true] 4)).ownsRow 0 4 1 sv i (B.sure.map Value.bool) ∧ ∀ v1 x1, x1.ownsRow 0 4 1 v1 (i + 1) (B.sure.map Value.bool ++ [.bool true]) → (W.alloc (.cells #[.bool true] 4)).grownBy x1 sv.ownBlock → (v1.ownBlock = sv.ownBlock ∨ v1.ownBlock = some (W.alloc (.cells #[.bool true] 4)).heap.size) →
    (∃ u, x1.cell? ⟨p, 4, none⟩ = some u) ∧ x1.frozen? ⟨p, 4, none⟩ = false ∧ PlB w0 (x1.setCell ⟨p, 4, none⟩ v1) p b { K with uv := v1 } { B with sure := B.sure ++ [true] } := by
  subst esv
  have hB : Below W.heap.size W (W.alloc (.cells #[.bool true] 4)) := (Below.refl _ _).alloc (Nat.le_refl _) _
  have hr := (h.pl.below hB).own.row .sure _ rfl
  simp only [List.length_map, hs] at hr
  refine ⟨hr, fun v1 x1 ho hg hat => ?_⟩
  obtain ⟨q1, q2⟩ := h.grow (k := .sure) (r := ⟨4, K.uv, B.sure.map Value.bool⟩) (v1 := v1) (ys := (B.sure ++ [true]).map Value.bool) (K' := { K with uv := v1 }) (B' := { B with sure := B.sure ++ [true] }) (j := 4) hB rfl hg (by rw [List.length_map, List.length_append, hs, List.map_append]; exact ho) hat (fun q => by cases q <;> rfl) rfl h.pl.hl
  exact ⟨⟨_, cell8 q1 4⟩, froz8 q1 4, q2⟩
theorem PlB.app_held {i : Nat} {sv : Value} (h : PlB w0 W p b K B) (hs : K.hs.length = i) (esv : K.hv = sv) : ((W.alloc (.cells #[.int .u64 0] 47)).alloc (.cells #[.slice (some ⟨W.heap.size, 0, none⟩) 1 1] 29)).ownsRow 0 29 1 sv i K.hs ∧ ∀ v1 x1, x1.ownsRow 0 29 1 v1 (i + 1) (K.hs ++ [.slice (some ⟨W.heap.size, 0, none⟩) 1 1]) → ((W.alloc (.cells #[.int .u64 0] 47)).alloc (.cells #[.slice (some ⟨W.heap.size, 0, none⟩) 1 1] 29)).grownBy x1 sv.ownBlock → (v1.ownBlock = sv.ownBlock ∨ v1.ownBlock = some ((W.alloc (.cells #[.int .u64 0] 47)).alloc (.cells #[.slice (some ⟨W.heap.size, 0, none⟩) 1 1] 29)).heap.size) →
    (∃ u, x1.cell? ⟨p, 2, none⟩ = some u) ∧ x1.frozen? ⟨p, 2, none⟩ = false ∧ PlB w0 (x1.setCell ⟨p, 2, none⟩ v1) p b { K with hv := v1, hs := K.hs ++ [.slice (some ⟨W.heap.size, 0, none⟩) 1 1] } { B with held := B.held ++ [[0]] } := by
  subst esv
  have hB1 : Below W.heap.size W (W.alloc (.cells #[.int .u64 0] 47)) := (Below.refl _ _).alloc (Nat.le_refl _) _
  have hB : Below W.heap.size W ((W.alloc (.cells #[.int .u64 0] 47)).alloc (.cells #[.slice (some ⟨W.heap.size, 0, none⟩) 1 1] 29)) := hB1.alloc (by simp) _
  have hr := (h.pl.below hB).own.row .held _ rfl
  have hr : ((W.alloc (.cells #[.int .u64 0] 47)).alloc (.cells #[.slice (some ⟨W.heap.size, 0, none⟩) 1 1] 29)).ownsRow 0 29 1 K.hv K.hs.length K.hs := hr
  rw [hs] at hr
  have he : ((W.alloc (.cells #[.int .u64 0] 47)).alloc (.cells #[.slice (some ⟨W.heap.size, 0, none⟩) 1 1] 29)).ownsRow 0 47 1 (.slice (some ⟨W.heap.size, 0, none⟩) 1 1) 1 [U64 0] := by
    refine ⟨rfl, .inr ⟨W.heap.size, 1, #[.int .u64 0], rfl, Nat.zero_le _, ?_, Nat.le_refl _, by unfold maxLen; omega, rfl, rfl⟩⟩
    rw [Below.heap_alloc _ _ _ (by simp)]
    exact heap_alloc_new W _
  refine ⟨hr, fun v1 x1 ho hg hat => ?_⟩
  obtain ⟨q1, q2⟩ := h.grow_held (hv1 := v1) hB he (fun g hg => by cases hg; exact Nat.le_refl _) hg (by rw [hs]; exact ho) hat
  exact ⟨⟨_, cell8 q1 2⟩, froz8 q1 2, q2⟩
theorem PlB.put_marks {m : Nat} (h : PlB w0 W p b K B) (hm : K.mv = .slice none 0 0) (hmb : B.marks = []) (cs : Array Value) (hcs : cs.toList = (List.replicate m 0).map MI) (hm4 : m ≤ 4) : (∃ u, (W.alloc (.cells cs 3)).cell? ⟨p, 5, none⟩ = some u) ∧ (W.alloc (.cells cs 3)).frozen? ⟨p, 5, none⟩ = false ∧ PlB w0 ((W.alloc (.cells cs 3)).setCell ⟨p, 5, none⟩ (.slice (some ⟨W.heap.size, 0, none⟩) m m)) p b { K with mv := .slice (some ⟨W.heap.size, 0, none⟩) m m } { B with marks := List.replicate m 0 } := by
  have hsz : cs.size = m := by have h1 := congrArg List.length hcs; simpa using h1
  have ho : (W.alloc (.cells cs 3)).ownsRow 0 3 1 (.slice (some ⟨W.heap.size, 0, none⟩) m m) m ((List.replicate m 0).map MI) := by
    refine ⟨by simp, .inr ⟨W.heap.size, m, cs, rfl, Nat.zero_le _, heap_alloc_new W _, Nat.le_refl _, by unfold maxLen; omega, by omega, ?_⟩⟩
    rw [Nat.mul_one, List.take_of_length_le (by simpa using Nat.le_of_eq hsz), hcs]
  have hg : W.grownBy (W.alloc (.cells cs 3)) (K.mv).ownBlock := by
    have hB : Below W.heap.size W (W.alloc (.cells cs 3)) := (Below.refl _ _).alloc (Nat.le_refl _) _
    exact ⟨hB.os, hB.tape, hB.output, hB.size, fun k hk _ => hB.block k hk⟩
  obtain ⟨q1, q2⟩ := h.grow (W3 := W) (W4 := W.alloc (.cells cs 3)) (k := .marks) (r := ⟨3, K.mv, B.marks.map MI⟩) (v1 := .slice (some ⟨W.heap.size, 0, none⟩) m m) (ys := (List.replicate m 0).map MI) (K' := { K with mv := .slice (some ⟨W.heap.size, 0, none⟩) m m }) (B' := { B with marks := List.replicate m 0 }) (j := 5) (Below.refl _ _) rfl hg (by simpa using ho) (.inr rfl) (fun q => by cases q <;> rfl) rfl h.pl.hl
  exact ⟨⟨_, cell8 q1 5⟩, froz8 q1 5, q2⟩
end
/-- A device and its book, laid since w. -/
structure Pd (w W : World) (p b : Nat) (K : Kl) (L : Lay) (B : Bk) (σ : St) : Prop where
  pl : PlL W p b K B
  dev : DevL W b L σ
  num : L.N ≤ σ.ops
  dis : ∀ k, FootP p K B k → ¬ Foot b L σ k
  fp : ∀ k, FootP p K B k → w.heap.size ≤ k
  fd : ∀ k, Foot b L σ k → w.heap.size ≤ k
  bel : Below w.heap.size w W
theorem Pd.below {w W W' : World} {p b : Nat} {K : Kl} {L : Lay} {B : Bk} {σ : St} (h : Pd w W p b K L B σ) (hB : Below W.heap.size W W') : Pd w W' p b K L B σ := ⟨h.pl.below hB, h.dev.below hB, h.num, h.dis, h.fp, h.fd, h.bel.trans (hB.mono h.bel.size)⟩
theorem Pd.step {w W W' : World} {p b : Nat} {K K' : Kl} {L L' : Lay} {B B' : Bk} {σ σ' : St} (h : Pd w W p b K L B σ) (hd : DevL W' b L' σ') (hn : L'.N ≤ σ'.ops) (hp : PlL W' p b K' B') (hg : Gr (fun k => Foot b L σ k ∨ FootP p K B k) W W') (h1 : ∀ k, Foot b L' σ' k → Foot b L σ k ∨ W.heap.size ≤ k) (h2 : ∀ k, FootP p K' B' k → ¬ Foot b L' σ' k) (h3 : ∀ k, FootP p K' B' k → FootP p K B k ∨ W.heap.size ≤ k) : Pd w W' p b K' L' B' σ' := by
  refine ⟨hp, hd, hn, h2, fun k hk => ?_, fun k hk => ?_, hg.1.trans h.bel.os, hg.2.1.trans h.bel.tape, hg.2.2.1.trans h.bel.output, Nat.le_trans h.bel.size hg.size, fun k hk => (hg.block (Nat.lt_of_lt_of_le hk h.bel.size) (fun hx => ?_)).trans (h.bel.block k hk)⟩
  · rcases h3 k hk with q | q
    · exact h.fp k q
    · exact Nat.le_trans h.bel.size q
  · rcases h1 k hk with q | q
    · exact h.fd k q
    · exact Nat.le_trans h.bel.size q
  · rcases hx with q | q
    · have := h.fd k q; omega
    · have := h.fp k q; omega
theorem index_step (g o i len cap : Nat) (hi : i < len) (w : World) : (Instr.indexAt 22 (.slice (some ⟨g, o, none⟩) len cap) (.int .i64 (i : Int))).run Try.prog w = .ok (.pointer (some ⟨g, o + i * 7, none⟩)) w :=
  index_at (t := 22) (e := 59) (sz := 7) Try.underlying22 (by kernel_rfl) g o i len cap hi w
/-- One step of a script, on a device where no loss waits. -/
theorem pd_play {w W : World} {p b m k : Nat} {K : Kl} {L : Lay} {B : Bk} {σ : St} (s : StpR) (hs : s.Ok) (h : Pd w W p b K L B σ) (st : StepOk B σ) (hn : σ.n = m) (hm4 : m ≤ 4) (hops : σ.ops ≤ k) (hk : k ≤ 1353400000000) (hcap : ∀ l ∈ B.held, l.length ≤ k + 1) :
    Calls Try.prog 23 #[.pointer (some ⟨p, 0, none⟩), .agg #[.int .i64 s.k, .int .i64 s.a, .int .i64 s.n, .int .u64 (s.v : Int), .slice s.da s.dl s.dc, .slice s.ka s.kl s.kc, .slice s.aa s.al s.ac]] W fun e W' => e = .returned (.bool true) ∧ ∃ K' L' σ', Pd w W' p b K' L' (stB s (8 * m) B) σ' ∧ StepOk (stB s (8 * m) B) σ' ∧ σ'.n = m ∧ σ'.ops ≤ k + 1 ∧ (∀ l ∈ (stB s (8 * m) B).held, l.length ≤ k + 1 + 1) := by
  have hp := st.ok.pos
  have r := st.rel
  refine (played_any (N := 8 * m) s hs h.pl h.dev st.ok st.off ⟨.inl st.arms, ?_⟩ h.num ?_ (by omega) hn rfl hm4 (by omega) (by rw [r.ls, hn]) (by rw [r.lh, hn]) (by rw [r.ll, hn]) (by rw [r.lu, hn]) (by rw [r.lm, hn]) (fun l hl => by have := hcap l hl; omega) h.dis).mono ?_
  · rw [st.cnt]; omega
  · rw [st.cnt]; omega
  · rintro e W' ⟨c, K', L', σ', rfl, q1, q2, q3, q4, q5, q6, q7, q8⟩
    obtain ⟨rfl, s1, s2, s3⟩ := st.step (by rw [hn]) hs.v (by omega) q1
    exact ⟨rfl, K', L', σ', h.step q2 q3 q4 q5 q6 q7 q8, s1, s2.trans hn, by omega, stB_held hcap⟩
end Go.Proofs.Ytmgeokmgidnneaa
namespace Go.Proofs.Ytmgeokmgidnneaa
open Go.RowKit Go.Shelf
set_option linter.unusedVariables false

def K00 : Kl := ⟨.slice none 0 0, .slice none 0 0, .slice none 0 0, .slice none 0 0, .slice none 0 0, []⟩
theorem PlB.first (W : World) (b : Nat) : PlB W (W.alloc (.cells #[.pointer (some ⟨b, 0, none⟩), .slice none 0 0, .slice none 0 0, .slice none 0 0, .slice none 0 0, .slice none 0 0] 34)) W.heap.size b K00 (bN 0) := by
  have hr : ∀ k r, rowsOf K00 (bN 0) k = some r → r.v = .slice none 0 0 ∧ r.xs = [] ∧ (r.t = 47 ∨ r.t = 29 ∨ r.t = 4 ∨ r.t = 3) := fun k r hk => by
    cases k with
    | seen => cases hk; exact ⟨rfl, rfl, .inl rfl⟩
    | held => cases hk; exact ⟨rfl, rfl, .inr (.inl rfl)⟩
    | last => cases hk; exact ⟨rfl, rfl, .inl rfl⟩
    | sure => cases hk; exact ⟨rfl, rfl, .inr (.inr (.inl rfl))⟩
    | marks => cases hk; exact ⟨rfl, rfl, .inr (.inr (.inr rfl))⟩
    | inner i => cases hk
  refine ⟨⟨heap_alloc_new W _, ⟨fun k r hk => ?_, fun k k' r r' g _ hk _ hb => ?_, fun k r hk => (hr k r hk).2.2⟩, rfl⟩, fun k hk => ?_, (Below.refl _ _).alloc (Nat.le_refl _) _⟩
  · obtain ⟨h1, h2, _⟩ := hr k r hk
    rw [h1, h2]
    exact ⟨rfl, .inl ⟨rfl, rfl⟩⟩
  · rw [(hr k r hk).1] at hb; cases hb
  · rcases hk with rfl | ⟨k', r, hk, hb⟩
    · exact Nat.le_refl _
    · rw [(hr k' r hk).1] at hb; cases hb
theorem cellTwoP (W : World) (o : Obj) (x : Value) (t : TypeId) : ∀ (j : Nat) u, [x][j]? = some u → ((W.alloc o).alloc (.cells #[x] t)).cell? ((⟨W.heap.size + 1, 0, none⟩ : Addr).add j) = some u := fun j u hu => by
  have h := cellOneP (W.alloc o) x t j u hu
  rwa [World.size_alloc] at h
theorem bN_succ (i : Nat) : bN (i + 1) = { seen := (bN i).seen ++ [0], held := (bN i).held ++ [[0]], last := (bN i).last ++ [0], sure := (bN i).sure ++ [true], marks := [] } := by
  unfold bN
  simp only [List.replicate_succ']
/-- What begun answers. -/
def BegD (w : World) (li : Int) (ns : Nat) (xs : List StpR) (e : Ending) (w' : World) : Prop :=
  ∃ (p b m : Nat) (K : Kl) (L : Lay) (B : Bk) (σ : St), e = .returned (.tuple #[.pointer (some ⟨p, 0, none⟩), .bool true]) ∧ Pd w w' p b K L B σ ∧ StepOk B σ ∧ σ.n = m ∧ m = 1 + (li % 4).toNat ∧ m ≤ 4 ∧ σ.ops ≤ ns ∧ (∀ l ∈ B.held, l.length ≤ ns + 1) ∧ (xs = [] → σ = newD m)
theorem bN_new (m : Nat) : ({ bN (8 * m) with marks := List.replicate m 0 } : Bk) = bnew m := rfl
theorem bN_len (i : Nat) : (bN i).seen.length = i ∧ (bN i).held.length = i ∧ (bN i).last.length = i ∧ (bN i).sure.length = i := by simp [bN]
set_option maxRecDepth 100000 in
set_option maxHeartbeats 4000000 in
theorem begun_any (w : World) (li : Int) (a : Option Addr) (c ns : Nat) (xs : List StpR) (hli : -9223372036854775808 ≤ li ∧ li ≤ 9223372036854775807) (hrow : RowC 7 (fun s : StpR => s.vals.toList) w a xs) (hxs : ∀ s ∈ xs, s.Ok) (hns : xs.length = ns) (hns2 : ns ≤ 1353300000000) :
    Calls Try.prog 5 #[.int .i64 li, .slice a ns c] w fun e w' => BegD w li ns xs e w' := by
  obtain ⟨i0, hi0, hz0, hz1, hz2⟩ := infoU
  obtain ⟨ir, hir, hr0, hr1, hr2⟩ := infoRw
  obtain ⟨ib, hib, hb0, hb1, hb2⟩ := infoBo
  obtain ⟨ii, hii, hii0, hii1, hii2⟩ := infoInt2
  obtain ⟨r, hr, hr4⟩ : ∃ r : Nat, li % 4 = (r : Int) ∧ r < 4 := ⟨(li % 4).toNat, by omega, by omega⟩
  have kw := pwithin_any w li 4 (by omega) (by omega) hli.1 hli.2
  rw [hr] at kw
  have kn : Calls Try.prog 17 #[.int .i64 (64 * (1 + (r : Int)))] w fun e w' => ∃ b L, e = .returned (.tuple #[.pointer (some ⟨b, 0, none⟩), .int .i64 0]) ∧ DevL w' b L (newD (1 + r)) ∧ (∀ k, Foot b L (newD (1 + r)) k → w.heap.size ≤ k) ∧ Below w.heap.size w w' ∧ L.N = 0 := by
    have h := pnew_any w (1 + r) (by omega) (by omega)
    rwa [show ((64 * (1 + r) : Nat) : Int) = 64 * (1 + (r : Int)) by omega] at h
  have KW := hide kw
  have KN := hide kn
  have HROW := hide hrow
  have HXS := hide hxs
  have HNS := hide hns
  have HR := hide (show 1 + r = 1 + (li % 4).toNat by omega)
  have rI : (r : Int) < 4 := by omega
  clear kw kn hrow hxs hns hr hli
  go_enter Try.func5, Try.ntmps5
  go_upto_region 6 with (first
    | (go_at_call 6; refine (KW.out).mono ?_; rintro e w' ⟨rfl, hw⟩; obtain rfl := hw.symm)
    | (go_at_call 17; refine (KN.out).mono ?_; rintro e W3 ⟨b, L, rfl, hd, hf, hb, hN⟩; have HD := hide hd; have HF := hide hf; have HB := hide hb; have HN := hide hN; clear hd hf hb hN))
  have HP0 := hide (PlB.first W3 b)
  obtain ⟨m, hm⟩ : ∃ m : Nat, 1 + r = m := ⟨_, rfl⟩
  have hmI : (1 : Int) + (r : Int) = (m : Int) := by omega
  rw [hmI]
  rw [hm] at HD HF HR
  have mI : (m : Int) ≤ 4 := by omega
  have m1 : 1 ≤ m := by omega
  generalize hW4 : W3.alloc (.cells #[.pointer (some ⟨b, 0, none⟩), .slice none 0 0, .slice none 0 0, .slice none 0 0, .slice none 0 0, .slice none 0 0] 34) = W4 at *
  obtain ⟨p, hp⟩ : ∃ p, W3.heap.size = p := ⟨_, rfl⟩
  rw [hp] at HP0 ⊢
  have HPP := hide hp
  clear hW4 hm hmI hp KW KN rI
  go_wp2_with (fail)
  try go_frame
  go_loopw [9] (fun iv wr => ∃ (i : Nat) (K : Kl), iv = .int .i64 (i : Int) ∧ i ≤ 8 * m ∧ PlB W3 wr p b K (bN i) ∧ K.mv = .slice none 0 0) (fun iv _ => (8 * m - (intOf iv).toNat))
  case atStart => exact ⟨0, K00, rfl, Nat.zero_le _, HP0.out, rfl⟩
  case round =>
    obtain ⟨i, K, rfl, hi, hpl, hmv⟩ := hrel
    by_cases hlt : i < 8 * m
    · have iI : (i : Int) < 8 * (m : Int) := by omega
      obtain ⟨l1, l2, l3, l4⟩ := bN_len i
      obtain ⟨sa, sc, es⟩ := own_slice (hpl.pl.own.row .seen _ rfl)
      obtain ⟨ha, hc, eh⟩ := own_slice (hpl.pl.own.row .held _ rfl)
      obtain ⟨la, lc, el⟩ := own_slice (hpl.pl.own.row .last _ rfl)
      obtain ⟨ua, uc, eu⟩ := own_slice (hpl.pl.own.row .sure _ rfl)
      have hkl : K.hs.length = i := hpl.pl.hl.trans l2
      have es : K.sv = .slice sa i sc := by rw [show K.sv = _ from es]; simp [l1]
      have eh : K.hv = .slice ha i hc := by rw [show K.hv = _ from eh]; simp [hkl]
      have el : K.lv = .slice la i lc := by rw [show K.lv = _ from el]; simp [l3]
      have eu : K.uv = .slice ua i uc := by rw [show K.uv = _ from eu]; simp [l4]
      have A1 := hide (hpl.app_seen l1 es)
      have c1 : wr.cell? ⟨p, 1, none⟩ = some (.slice sa i sc) := by rw [← es]; exact hpl.pl.c 1
      clear hpl
      go_upto_region 10 with (at_builtin; refine wpList_append_own_at _ rfl _ _ 29 rfl 0 47 i0 (.int .u64 0) 1 8 Try.underlying29 hi0 hz0 hz1 hz2 rfl (by decide) (.slice sa i sc) i ((bN i).seen.map U64) rfl A1.out.1 ⟨wr.heap.size, 0, none⟩ 1 1 [.int .u64 0] rfl rfl (cellOneP wr _ _) (by simp [Value.oneCell']) (by unfold maxLen; omega) (by omega) (Nat.zero_le _) ?_; intro v1 x1 ho3 hg3 hnn hat; clear hnn; obtain ⟨v1a, v1c, rfl⟩ := own_slice ho3; obtain ⟨⟨x1u, x1c⟩, x1f, x1p⟩ := A1.out.2 _ x1 ho3 hg3 hat; have H1 := hide x1p; clear ho3 hg3 hat x1p)
      generalize x1.setCell ⟨p, 1, none⟩ (.slice v1a (i + 1) v1c) = w1 at *
      have A2 := hide (H1.out.app_held (sv := .slice ha i hc) hkl eh)
      have c2 : w1.cell? ⟨p, 2, none⟩ = some (.slice ha i hc) := by rw [← eh]; exact H1.out.pl.c 2
      clear c1 x1c x1f A1
      go_upto_region 11 with (at_builtin; refine wpList_append_own_at _ rfl _ _ 30 rfl 0 29 ir (.slice none 0 0) 1 24 Try.underlying30 hir hr0 hr1 hr2 rfl (by decide) (.slice ha i hc) i (K.hs) rfl A2.out.1 ⟨w1.heap.size + 1, 0, none⟩ 1 1 [.slice (some ⟨w1.heap.size, 0, none⟩) 1 1] rfl rfl (cellTwoP w1 _ _ _) (by simp [Value.oneCell']) (by unfold maxLen; omega) (by omega) (Nat.zero_le _) ?_; intro v2 x2 ho3 hg3 hnn hat; clear hnn; obtain ⟨v2a, v2c, rfl⟩ := own_slice ho3; obtain ⟨⟨x2u, x2c⟩, x2f, x2p⟩ := A2.out.2 _ x2 ho3 hg3 hat; have H2 := hide x2p; clear ho3 hg3 hat x2p)
      generalize x2.setCell ⟨p, 2, none⟩ (.slice v2a (i + 1) v2c) = w2 at *
      have A3 := hide (H2.out.app_last (i := i) (sv := .slice la i lc) l3 el)
      have c3 : w2.cell? ⟨p, 3, none⟩ = some (.slice la i lc) := by rw [← el]; exact H2.out.pl.c 3
      clear c2 x2c x2f A2 H1
      go_upto_region 12 with (at_builtin; refine wpList_append_own_at _ rfl _ _ 29 rfl 0 47 i0 (.int .u64 0) 1 8 Try.underlying29 hi0 hz0 hz1 hz2 rfl (by decide) (.slice la i lc) i ((bN i).last.map U64) rfl A3.out.1 ⟨w2.heap.size, 0, none⟩ 1 1 [.int .u64 0] rfl rfl (cellOneP w2 _ _) (by simp [Value.oneCell']) (by unfold maxLen; omega) (by omega) (Nat.zero_le _) ?_; intro v3 x3 ho3 hg3 hnn hat; clear hnn; obtain ⟨v3a, v3c, rfl⟩ := own_slice ho3; obtain ⟨⟨x3u, x3c⟩, x3f, x3p⟩ := A3.out.2 _ x3 ho3 hg3 hat; have H3 := hide x3p; clear ho3 hg3 hat x3p)
      generalize x3.setCell ⟨p, 3, none⟩ (.slice v3a (i + 1) v3c) = w3 at *
      have A4 := hide (H3.out.app_sure (i := i) (sv := .slice ua i uc) l4 eu)
      have c4 : w3.cell? ⟨p, 4, none⟩ = some (.slice ua i uc) := by rw [← eu]; exact H3.out.pl.c 4
      clear c3 x3c x3f A3 H2
      go_wp2_with (at_builtin; refine wpList_append_own_at _ rfl _ _ 31 rfl 0 4 ib (.bool false) 1 1 Try.underlying31 hib hb0 hb1 hb2 rfl (by decide) (.slice ua i uc) i ((bN i).sure.map Value.bool) rfl A4.out.1 ⟨w3.heap.size, 0, none⟩ 1 1 [.bool true] rfl rfl (cellOneP w3 _ _) (by simp [Value.oneCell']) (by unfold maxLen; omega) (by omega) (Nat.zero_le _) ?_; intro v4 x4 ho3 hg3 hnn hat; clear hnn; obtain ⟨v4a, v4c, rfl⟩ := own_slice ho3; obtain ⟨⟨x4u, x4c⟩, x4f, x4p⟩ := A4.out.2 _ x4 ho3 hg3 hat; have H4 := hide x4p; clear ho3 hg3 hat x4p)
      go_roundw
      case rel =>
        refine ⟨i + 1, ?K, int_congrP (by omega), by omega, ?_, ?_⟩
        rotate_left
        · rw [bN_succ]; exact H4.out
        · exact hmv
      case measure => simp [intOf]; omega
    · have iI : ¬ (i : Int) < 8 * (m : Int) := by omega
      obtain rfl : i = 8 * m := by omega
      have hmk : ∀ X, Sem.run Try.prog (Instr.makeSlice 32 (.int .i64 (m : Int)) (.int .i64 (m : Int))) X = .ok (.slice (some ⟨X.heap.size, 0, none⟩) m m) (X.alloc (.cells (madeCells #[.int .i64 0] m) 3)) := fun X => by
        have h := run_make (P := Try.prog) X 32 3 ii (.int .i64 0) Try.underlying32 hii hii0 .i64 .i64 m m (by omega) (by omega) (by rw [hii2]; omega) (by omega)
        simp only [hii1, Nat.mul_one, Int.toNat_natCast] at h
        exact h
      have hml : (madeCells #[Value.int .i64 0] m).toList = (List.replicate m 0).map MI := by rw [toList_madeCells_one, List.map_replicate]; rfl
      obtain ⟨⟨u5, c5⟩, f5, hpb⟩ := hpl.put_marks hmv rfl (madeCells #[Value.int .i64 0] m) hml (by omega)
      generalize madeCells #[Value.int .i64 0] m = mc at *
      have hpd : Pd w ((wr.alloc (.cells mc 3)).setCell ⟨p, 5, none⟩ (.slice (some ⟨wr.heap.size, 0, none⟩) m m)) p b { K with mv := .slice (some ⟨wr.heap.size, 0, none⟩) m m } L (bnew m) (newD m) := by
        have hw3 := HB.out
        refine ⟨hpb.pl, HD.out.below hpb.bel, by rw [HN.out]; exact Nat.zero_le _, fun k h1 h2 => ?_, fun k h1 => Nat.le_trans hw3.size (hpb.foot k h1), HF.out, hw3.trans (hpb.bel.mono hw3.size)⟩
        have q1 := hpb.foot k h1
        have q2 := HD.out.foot_is h2
        omega
      have HPD := hide hpd
      have HST := hide (show StepOk (bnew m) (newD m) from ⟨BkRel.new m1 (by omega), newD_ok m1 (by omega), rfl, rfl, rfl⟩)
      generalize ({ K with mv := .slice (some ⟨wr.heap.size, 0, none⟩) m m } : Kl) = K5 at *
      clear hpd hpb hpl hmv hml HP0
      go_wp2_with (fail)
      try go_frame
      clear hmk c5 f5
      go_loopw [10] (fun iv wx => ∃ (q : Nat) (K : Kl) (L : Lay) (B : Bk) (σ : St), iv = .int .i64 (q : Int) ∧ q ≤ ns ∧ Pd w wx p b K L B σ ∧ StepOk B σ ∧ σ.n = m ∧ σ.ops ≤ q ∧ (∀ l ∈ B.held, l.length ≤ q + 1) ∧ (q = 0 → σ = newD m)) (fun iv _ => (ns - (intOf iv).toNat))
      case atStart => exact ⟨0, K5, L, bnew m, newD m, rfl, Nat.zero_le _, HPD.out, HST.out, rfl, Nat.zero_le _, fun l hl => by have hl : l ∈ List.replicate (8 * m) [0] := hl; rw [List.eq_of_mem_replicate hl]; simp, fun _ => rfl⟩
      case round =>
        obtain ⟨q, K6, L6, B6, σ6, rfl, hq, hpd, hst, hn6, ho6, hc6, hz6⟩ := hrel
        by_cases hqn : q < ns
        · have qI : (q : Int) < (ns : Int) := by omega
          have nsI : (ns : Int) ≤ 1353300000000 := by omega
          obtain ⟨s, hs⟩ : ∃ s, xs[q]? = some s := ⟨_, List.getElem?_eq_getElem (by rw [HNS.out]; exact hqn)⟩
          obtain ⟨g, off, rfl, _, hcl⟩ := (HROW.out.below hpd.bel).at hs
          have d0 := hcl 0 _ rfl
          have d1 := hcl 1 _ rfl
          have d2 := hcl 2 _ rfl
          have d3 := hcl 3 _ rfl
          have d4 := hcl 4 _ rfl
          have d5 := hcl 5 _ rfl
          have d6 := hcl 6 _ rfl
          simp only [Nat.add_zero] at d0
          have ix := fun X => index_step g off q ns c hqn X
          have KP := hide (pd_play s (HXS.out s (List.mem_of_getElem? hs)) hpd hst hn6 (by omega) ho6 (by omega) hc6)
          clear hcl hpd hst ho6 hc6 hz6 hs HROW HXS
          go_wp2_with (go_at_call 23; refine (KP.out).mono ?_; rintro e W7 ⟨rfl, K7, L7, σ7, hr7⟩; have HR7 := hide hr7; clear hr7)
          go_roundw
          case rel =>
            obtain ⟨t1, t2, t3, t4, t5⟩ := HR7.out
            exact ⟨q + 1, K7, L7, _, σ7, int_congrP (by omega), by omega, t1, t2, t3, t4, t5, fun h => by omega⟩
          case measure => simp [intOf]; omega
        · have qI : ¬ (q : Int) < (ns : Int) := by omega
          obtain rfl : q = ns := by omega
          have HFIN := hide (And.intro hpd (And.intro hst (And.intro hn6 (And.intro ho6 (And.intro hc6 hz6)))))
          clear hpd hst ho6 hc6 hz6 hn6
          go_wp2_with (fail)
          go_ret2
          obtain ⟨t1, t2, t3, t4, t5, t6⟩ := HFIN.out
          unfold BegD
          exact ⟨p, b, m, K6, L6, B6, σ6, rfl, t1, t2, t3, HR.out, by omega, t4, t5, fun e => t6 (by have h9 := HNS.out; rw [e] at h9; simpa using h9.symm)⟩
end Go.Proofs.Ytmgeokmgidnneaa
namespace Go.Proofs.Ytmgeokmgidnneaa
open Go.RowKit Go.Shelf
set_option linter.unusedVariables false

set_option maxRecDepth 100000 in
theorem pcb_any (w : World) (c : List Nat) (hc : c.length = 64) : Calls Try.prog 34 #[.agg (c.map B8).toArray] w fun e w' => e = .returned (.slice (some ⟨w.heap.size + 1, 0, none⟩) 64 64) ∧ OwnB w' (w.heap.size + 1) c ∧ Below w.heap.size w w' := by
  obtain ⟨W1, hW1⟩ : ∃ W1, W1 = w.alloc (.cells (c.map B8).toArray 69) := ⟨_, rfl⟩
  have hs1 : W1.heap.size = w.heap.size + 1 := by rw [hW1]; simp
  have hmk : (Instr.makeSlice 36 (.int .i64 64) (.int .i64 64)).run Try.prog W1 = .ok (.slice (some ⟨W1.heap.size, 0, none⟩) 64 64) (W1.alloc (.cells ((List.replicate 64 0).map B8).toArray 5)) := makeB_run 64 (by omega) W1
  have hown : OwnB (W1.alloc (.cells ((List.replicate 64 0).map B8).toArray 5)) (w.heap.size + 1) (List.replicate 64 0) := by rw [← hs1]; exact heapNew W1 _
  have hB : Below w.heap.size w (W1.alloc (.cells ((List.replicate 64 0).map B8).toArray 5)) := by rw [hW1]; exact ((Below.refl _ w).alloc (Nat.le_refl _) _).alloc (by simp) _
  have hrn : (W1.alloc (.cells ((List.replicate 64 0).map B8).toArray 5)).rangeAt w.heap.size 0 (c.map B8) := by
    rw [hW1]
    exact range_all ((((Below.refl _ (w.alloc (.cells (c.map B8).toArray 69))).alloc (Nat.le_refl _) _).block _ (by simp)).trans (heapNew w _))
  have kl := play_any _ (w.heap.size + 1) 64 64 c _ hc (Nat.le_refl _) (Nat.le_refl _) (by simp) hown
  have hsp : splice (List.replicate 64 0) 0 c = c := by
    unfold splice
    rw [hc]
    simp
  rw [hsp] at kl
  rw [hs1] at hmk
  generalize hR : ((List.replicate 64 0).map B8).toArray = R at *
  rw [hW1] at hmk hrn kl hB
  have KL := hide kl
  have HRN := hide hrn
  have HC := hide hc
  have HB := hide hB
  clear kl hrn hR hsp hown hs1 hW1 W1 hc hB
  go_enter Try.func34, Try.ntmps34
  go_wp2_with (first | (refine wpList_load_mid rfl 69 (.tmp 1) rfl w.heap.size 0 (by kernel_rfl) (c.map B8) (.array 8 67) HRN.out (by kernel_rfl) rfl (by rw [List.length_map, HC.out]; kernel_rfl) ?_) | (go_at_call 36; refine (KL.out).mono ?_; rintro e w' ⟨rfl, h1, h2⟩; have H1 := hide h1; have H2 := hide h2; clear h1 h2))
  go_ret
  have h5 := H2.out
  have h6 := HB.out
  refine ⟨rfl, H1.out, h5.1.trans h6.os, h5.2.1.trans h6.tape, h5.2.2.1.trans h6.output, Nat.le_trans h6.size h5.size, fun k hk => (h5.block (Nat.lt_of_lt_of_le hk h6.size) (by omega)).trans (h6.block k hk)⟩
/-- So many, and no two of them lie in one block. -/
def Apt (vals : List Value) (n : Nat) : Prop := vals.length = n ∧ ∀ (i j g : Nat), i < j → vals[i]? = some (.slice (some ⟨g, 0, none⟩) 64 64) → vals[j]? ≠ some (.slice (some ⟨g, 0, none⟩) 64 64)
/-- A row of rows of bytes, laid since B. -/
def RowsB (W : World) (B : Nat) (lv : Value) (cs : List (List Nat)) : Prop :=
  ∃ vals : List Value, W.ownsRow B 36 1 lv cs.length vals ∧ Apt vals cs.length ∧ ∀ (i : Nat) (c : List Nat), cs[i]? = some c → ∃ g, vals[i]? = some (.slice (some ⟨g, 0, none⟩) 64 64) ∧ B ≤ g ∧ OwnB W g c
theorem RowsB.nil (W : World) (B : Nat) : RowsB W B (.slice none 0 0) [] := ⟨[], ⟨rfl, .inl ⟨rfl, rfl⟩⟩, ⟨rfl, fun i j g _ h => by simp at h⟩, fun i c h => by simp at h⟩
theorem infoRow : ∃ i, Try.prog.info? 36 = some i ∧ i.zero = some (.slice none 0 0) ∧ i.size = 1 ∧ i.bytes = 24 := by
  have h : (Try.prog.info? 36).map (fun i => (i.zero, i.size, i.bytes)) = some (some (.slice none 0 0), 1, 24) := by kernel_rfl
  obtain ⟨i, h1, h2⟩ := Option.map_eq_some_iff.1 h
  simp only [Prod.mk.injEq] at h2
  exact ⟨i, h1, h2.1, h2.2.1, h2.2.2⟩
end Go.Proofs.Ytmgeokmgidnneaa
namespace Go.Proofs.Ytmgeokmgidnneaa
open Go.RowKit Go.Shelf
set_option linter.unusedVariables false

theorem RowsB.below {W W' : World} {B : Nat} {lv : Value} {cs : List (List Nat)} (h : RowsB W B lv cs) (hB : Below W.heap.size W W') : RowsB W' B lv cs := by
  obtain ⟨vals, h1, h2, h3⟩ := h
  refine ⟨vals, ownsRow_of_block h1 (fun g hg => ?_), h2, fun i c hi => ?_⟩
  · obtain ⟨c, hc⟩ := own_type h1 hg
    exact hB.block g (lt_of_heap hc)
  · obtain ⟨g, h4, h5, h6⟩ := h3 i c hi
    exact ⟨g, h4, h5, h6.below hB h6.lt⟩
theorem RowsB.drew {W : World} {B : Nat} {lv : Value} {cs : List (List Nat)} (h : RowsB W B lv cs) : RowsB W.drew B lv cs := h.below (Below.refl _ W).drew
theorem RowsB.more {W2 W3 : World} {B gb : Nat} {lv v' : Value} {cs : List (List Nat)} {vals : List Value} {c : List Nat} (h1 : W2.ownsRow B 36 1 lv cs.length vals) (h2p : Apt vals cs.length) (h3 : ∀ (i : Nat) (c : List Nat), cs[i]? = some c → ∃ g, vals[i]? = some (.slice (some ⟨g, 0, none⟩) 64 64) ∧ B ≤ g ∧ OwnB W2 g c ∧ g < gb)
    (hgb : B ≤ gb) (hob : OwnB W2 gb c) (hg : W2.grownBy W3 lv.ownBlock) (ho : W3.ownsRow B 36 1 v' (cs.length + 1) (vals ++ [.slice (some ⟨gb, 0, none⟩) 64 64])) : RowsB W3 B v' (cs ++ [c]) := by
  have h2 := h2p.1
  have kk : ∀ g c', OwnB W2 g c' → OwnB W3 g c' := fun g c' hc' => hc'.of_block (hg.block g hc'.lt (fun e => by
    obtain ⟨q, hq⟩ := own_type h1 e.symm
    exact ne_ty hq hc' (by decide) rfl))
  refine ⟨_, by rw [List.length_append, List.length_singleton]; exact ho, ⟨by simp [h2], fun i j g hij hi hj => ?_⟩, fun i c' hi => ?_⟩
  · have hjl : j < vals.length + 1 := by
      have := (List.getElem?_eq_some_iff.1 hj).1
      simpa using this
    have hil : i < vals.length := by omega
    rw [List.getElem?_append_left hil] at hi
    by_cases hjv : j < vals.length
    · rw [List.getElem?_append_left hjv] at hj
      exact h2p.2 i j g hij hi hj
    · have hj0 : j = vals.length := by omega
      subst hj0
      simp at hj
      obtain ⟨c0, hc0⟩ : ∃ c0, cs[i]? = some c0 := ⟨_, List.getElem?_eq_getElem (by omega)⟩
      obtain ⟨g', h4, _, _, h7⟩ := h3 i c0 hc0
      rw [h4] at hi
      simp at hi
  rw [List.getElem?_append] at hi
  split at hi
  · rename_i hlt
    obtain ⟨g, h4, h5, h6, _⟩ := h3 i c' hi
    exact ⟨g, by rw [List.getElem?_append_left (by omega)]; exact h4, h5, kk g c' h6⟩
  · rename_i hlt
    have hi0 : i = cs.length := by
      rcases Nat.lt_or_ge (i - cs.length) 1 with h | h
      · omega
      · rw [List.getElem?_eq_none (by simpa using h)] at hi; cases hi
    subst hi0
    simp at hi
    subst hi
    exact ⟨gb, by rw [List.getElem?_append_right (by omega), h2]; simp, hgb, kk gb c hob⟩
theorem cell_one (W : World) (x : Value) (t : TypeId) : ∀ j u, [x][j]? = some u → (W.alloc (.cells #[x] t)).cell? ((⟨W.heap.size, 0, none⟩ : Addr).add j) = some u := fun j u hu => by
  rw [Addr.add_mid, Nat.zero_add, cell8 (heapNew W (.cells #[x] t))]
  simpa using hu
theorem size_one (W : World) (o : Obj) {n : Nat} (h : n ≤ W.heap.size) : n ≤ (W.alloc o).heap.size := by simp; omega
set_option maxRecDepth 100000 in
set_option maxHeartbeats 1000000 in
theorem ppb_any (w : World) (pb n : Nat) (v : Value) (rs : List (List Nat × Nat)) (hR : PastR w pb v n rs) (hn : (exR rs).length ≤ 1400000000000) (hrl : rs.length ≤ 1400000000000) (ht : ∀ r ∈ rs, r.2 ≤ 1400000000000) :
    Calls Try.prog 33 #[.pointer (some ⟨pb, 0, none⟩)] w fun e w' => ∃ lv, e = .returned lv ∧ RowsB w' w.heap.size lv (exR rs) ∧ Below w.heap.size w w' := by
  obtain ⟨ap, ac, hv⟩ := own_slice hR.2.1
  obtain ⟨Z, hzl, hz⟩ := zero_run
  obtain ⟨d, hd, hdr⟩ := struct_run
  obtain ⟨i0, hi, hz0, hz1, hz2⟩ := infoRow
  have c0 : w.cell? ⟨pb, 0, none⟩ = some v := cell8 hR.1 0
  rw [hv] at c0
  have HH := hide hR
  have HV := hide hv
  have HZ := hide hz
  have HZL := hide hzl
  have HD := hide hd
  have HDR := hide hdr
  have HT := hide ht
  have HNN := hide hn
  clear hR hv hz hzl hd hdr ht hn
  generalize hm : rs.length = m at *
  have HM := hide hm
  clear hm
  go_enter Try.func33, Try.ntmps33
  go_wp2
  go_loopw [3, 11] (fun lv iv wr => ∃ j : Nat, iv = .int .i64 (j : Int) ∧ j ≤ m ∧ RowsB wr w.heap.size lv (exR (rs.take j)) ∧ Below w.heap.size w wr) (fun lv iv _ => (m - (intOf iv).toNat))
  case atStart => exact ⟨0, rfl, Nat.zero_le _, RowsB.nil _ _, Below.refl _ _⟩
  case round =>
    obtain ⟨j, rfl, hj, hrw, hB⟩ := hrel
    have hw := HH.out.below hB
    by_cases hlt : j < m
    · obtain ⟨r, hr⟩ : ∃ r, rs[j]? = some r := ⟨_, List.getElem?_eq_getElem (by rw [HM.out]; exact hlt)⟩
      obtain ⟨g, rfl⟩ : ∃ g, ap = some ⟨g, 0, none⟩ := by
        rcases HH.out.2.1.2 with ⟨h1, h2⟩ | ⟨g, cap, cur, h1, _⟩
        · rw [HM.out] at h2; omega
        · rw [HV.out] at h1; cases h1; exact ⟨g, rfl⟩
      have hown := hw.2.1
      rw [HV.out] at hown
      have hrg := row_range hown hw.2.2 hr
      have hrm : r ∈ rs := List.mem_of_getElem? hr
      have hr64 := (hw.2.2 r hrm).1
      have hrl := runC_len r hr64
      have hrt := HT.out r hrm
      have l0 := fun X => index_run g j m ac hlt X
      have hsz : (Try.prog.info? 96).map (·.size) = some (runC r).length := by rw [hrl]; kernel_rfl
      have hsz2 : (Try.prog.info? 96).map (·.size) = some (runC r).toArray.size := by rw [List.size_toArray]; exact hsz
      have hth : (wr.alloc (.cells Z.toArray 96)).there wr.heap.size 0 (runC r).toArray.size := there_row (heapNew wr _) 0 _ (by rw [List.size_toArray, hrl, HZL.out]; omega)
      obtain ⟨n1, n2, n3⟩ := new_row (W := wr) (cur := Z) (vs := runC r) (t := 96) (hrl.trans HZL.out.symm)
      have ct : ((wr.alloc (.cells Z.toArray 96)).setCells wr.heap.size 0 (runC r)).cell? ⟨wr.heap.size, 64, none⟩ = some (.int .i64 (r.2 : Int)) := by
        rw [cell8 n1]
        simp [runC, hr64]
      have hB2 : Below w.heap.size w ((wr.alloc (.cells Z.toArray 96)).setCells wr.heap.size 0 (runC r)) := hB.trans (n2.mono hB.size)
      have hrw2 := hrw.below n2
      have hex : exR (rs.take (j + 1)) = exR (rs.take j) ++ List.replicate r.2 r.1 := by
        rw [List.take_add_one, hr, exR_append]
        simp [exR]
      have hlen : ∀ k, k ≤ r.2 → (exR (rs.take j) ++ List.replicate k r.1).length ≤ 1400000000000 := fun k hk => by
        have h5 : (exR rs).length = (exR (rs.take (j + 1))).length + (exR (rs.drop (j + 1))).length := by rw [← List.length_append, ← exR_append, List.take_append_drop]
        have h6 := HNN.out
        rw [hex] at h5
        simp at h5 ⊢
        omega
      have HS := hide (all_oneCell_toArray (runC_cell r))
      have HRG := hide hrg
      have HSZ := hide hsz
      have HSZ2 := hide hsz2
      have HTH := hide hth
      have HB2 := hide hB2
      have HRW2 := hide hrw2
      have HEX := hide hex
      have HLEN := hide hlen
      have N1 := hide n1
      have HR64 := hide hr64
      have htI : (r.2 : Int) ≤ 1400000000000 := by omega
      have jI : (j : Int) < (m : Int) := by omega
      have hwl := hB.size
      have HWL := hide hwl
      obtain ⟨t, htt⟩ : ∃ t, t = r.2 := ⟨_, rfl⟩
      rw [← htt] at ct htI
      have HTT := hide htt
      clear hown hrg hr64 hrl hsz hsz2 hth n1 n2 n3 hB2 hw hr hrm hB hrt hrw hrw2 hex hlen htt hwl
      go_wp2_with (first | (refine wpList_load_mid rfl 96 (.tmp 13) rfl g (j * 65) (by kernel_rfl) (runC r) d HRG.out HD.out HDR.out HSZ.out ?_) | (refine wpList_alloc_row rfl 96 rfl Z (HZ.out _) ?_) | (refine wpList_store_mid rfl 96 (.tmp 5) (.tmp 14) rfl wr.heap.size 0 (runC r).toArray (by kernel_rfl) (by kernel_rfl) HTH.out HSZ2.out HS.out ?_))
      try go_frame
      generalize hX : (wr.alloc (.cells Z.toArray 96)).setCells wr.heap.size 0 (runC r) = X at *
      clear hX HRG HTH HSZ HSZ2 HS
      generalize wr.heap.size = G at *
      go_loopw [3, 17] (fun lv iv ws => ∃ k : Nat, iv = .int .i64 (k : Int) ∧ k ≤ t ∧ RowsB ws w.heap.size lv (exR (rs.take j) ++ List.replicate k r.1) ∧ Below w.heap.size w ws ∧ ws.heap[G]? = some (.cells (runC r).toArray 96 (0, 0))) (fun lv iv _ => (t - (intOf iv).toNat))
      case atStart => exact ⟨0, rfl, Nat.zero_le _, by simpa using HRW2.out, HB2.out, N1.out⟩
      case round =>
        obtain ⟨k, rfl, hk, hrw, hB, hg5⟩ := hrel
        by_cases hkt : k < t
        · have kI : (k : Int) < (t : Int) := by omega
          have kb := pcb_any wr r.1 HR64.out
          have hrn : wr.rangeAt G 0 (r.1.map B8) := fun q u hu => by
            have hq : q < (r.1.map B8).length := (List.getElem?_eq_some_iff.1 hu).1
            rw [Nat.zero_add]
            refine (cell8 hg5 q).trans ?_
            simp only [runC, List.getElem?_toArray]
            rw [List.getElem?_append_left hq]
            exact hu
          obtain ⟨q, hq⟩ : ∃ q, q = (exR (rs.take j) ++ List.replicate k r.1).length := ⟨_, rfl⟩
          have hq2 : q ≤ 1400000000000 := by rw [hq]; exact HLEN.out k (by rw [← HTT.out]; omega)
          obtain ⟨vals, o1, o2, o3⟩ := hrw
          have HRN := hide hrn
          have KB := hide kb
          have O2 := hide o2
          have O3 := hide o3
          have HB := hide hB
          have HG5 := hide hg5
          have HQ := hide hq
          rw [← hq] at o1
          have O1 := hide o1
          clear hrn kb o1 o2 o3 hB hg5 hq
          go_wp2_with (first | (refine wpList_load_mid rfl 69 (.tmp 20) rfl G 0 (by kernel_rfl) (r.1.map B8) (.array 8 67) HRN.out (by kernel_rfl) rfl (by rw [List.length_map, HR64.out]; kernel_rfl) ?_) | (go_at_call 34; refine (KB.out).mono ?_; rintro e W1 ⟨rfl, hob, hb1⟩; have HOB := hide hob; have HB1 := hide hb1; clear hob hb1; have ho2 : (W1.alloc (.cells #[.slice (some ⟨wr.heap.size + 1, 0, none⟩) 64 64] 36)).ownsRow w.heap.size 36 1 u3 q vals := ownsRow_of_block O1.out (fun g hg => (by obtain ⟨c, hc⟩ := own_type O1.out hg; exact (((Below.refl _ W1).alloc (Nat.le_refl _) _).block g (Nat.lt_of_lt_of_le (lt_of_heap hc) HB1.out.size)).trans (HB1.out.block g (lt_of_heap hc)))); have HO2 := hide ho2; clear ho2) | (at_builtin; refine wpList_append_own_at _ rfl _ _ 40 rfl w.heap.size 36 i0 (.slice none 0 0) 1 24 Try.underlying40 hi hz0 hz1 hz2 rfl (by decide) u3 q vals rfl HO2.out ⟨W1.heap.size, 0, none⟩ 1 1 [.slice (some ⟨wr.heap.size + 1, 0, none⟩) 64 64] rfl rfl (cell_one W1 _ _) (by simp [Value.oneCell']) (by unfold maxLen; omega) (by omega) (size_one W1 _ (Nat.le_trans HB.out.size HB1.out.size)) ?_; intro v1 x1 ho3 hg3 hnn hat; clear hnn hat; have HO3 := hide ho3; have HG3 := hide hg3; clear ho3 hg3))
          go_roundw
          case rel =>
            have hA := (Below.refl _ W1).alloc (Nat.le_refl _) (.cells #[.slice (some ⟨wr.heap.size + 1, 0, none⟩) 64 64] 36)
            have hbb : Below wr.heap.size wr (W1.alloc (.cells #[.slice (some ⟨wr.heap.size + 1, 0, none⟩) 64 64] 36)) := HB1.out.trans (hA.mono HB1.out.size)
            have hown1 : ∀ g, u3.ownBlock = some g → w.heap.size ≤ g := fun g hg => by
              rcases O1.out.2 with ⟨e1, _⟩ | ⟨g', cap, cur, e1, e2, _⟩
              · rw [e1] at hg; cases hg
              · rw [e1] at hg; cases hg; exact e2
            have hm := RowsB.more (cs := exR (rs.take j) ++ List.replicate k r.1) (c := r.1) (gb := wr.heap.size + 1) (by rw [← HQ.out]; exact HO2.out) O2.out (fun i c hi => by
              obtain ⟨g, h4, h5, h6⟩ := O3.out i c hi
              exact ⟨g, h4, h5, h6.below hbb h6.lt, by have := h6.lt; omega⟩) (by have := HB.out.size; omega) (HOB.out.below hA HOB.out.lt) HG3.out (by rw [← HQ.out]; exact HO3.out)
            refine ⟨k + 1, int_congrP (by omega), by omega, by rw [List.replicate_succ', ← List.append_assoc]; exact hm, ?_, ?_⟩
            · have h7 := hbb
              have h8 := HG3.out
              exact ⟨h8.os.trans (h7.os.trans HB.out.os), h8.tape.trans (h7.tape.trans HB.out.tape), h8.output.trans (h7.output.trans HB.out.output), Nat.le_trans HB.out.size (Nat.le_trans h7.size h8.size), fun g hg => (h8.block g (by have := h7.size; have := HB.out.size; omega) (fun e => by have := hown1 g e.symm; omega)).trans ((h7.block g (by have := HB.out.size; omega)).trans (HB.out.block g hg))⟩
            · have h9 := (hbb.block G (lt_of_heap HG5.out)).trans HG5.out
              refine (HG3.out.block G (lt_of_heap h9) (fun e => ?_)).trans h9
              obtain ⟨c, hc⟩ := own_type HO2.out e.symm
              exact ne_ty hc h9 (by decide) rfl
          case measure => simp [intOf]; omega
        · have kI : ¬ (k : Int) < (t : Int) := by omega
          obtain rfl : k = t := by omega
          have HRW := hide hrw
          have HB := hide hB
          clear hrw hB hg5
          go_wp2
          go_roundw
          case rel => exact ⟨j + 1, int_congrP (by omega), by omega, by rw [HEX.out, ← HTT.out]; exact HRW.out, HB.out⟩
          case measure => simp [intOf]; omega
    · have hjm : j = m := by omega
      subst hjm
      have h5 := hrw
      rw [List.take_of_length_le (by rw [HM.out]; exact Nat.le_refl _)] at h5
      have HRW := hide h5
      have HB := hide hB
      clear hrw h5 hw hB
      go_wp2
      go_ret
      exact ⟨_, rfl, HRW.out, HB.out⟩
end Go.Proofs.Ytmgeokmgidnneaa
namespace Go.Proofs.Ytmgeokmgidnneaa
open Go.RowKit Go.Shelf
set_option linter.unusedVariables false

section
variable {w : World} {b : Nat} {L : Lay} {σ : St}
set_option maxRecDepth 100000 in
set_option maxHeartbeats 1000000 in
theorem pcont_any (i : Nat) (h : DevL w b L σ) (hok : σ.Ok) (hi : i < σ.n) : Calls Try.prog 9 #[.pointer (some ⟨b, 0, none⟩), .int .i64 (i : Int)] w fun e w' => ∃ lv, e = .returned lv ∧ RowsB w' w.heap.size lv (σ.past i ++ [σ.line i]) ∧ Below w.heap.size w w' := by
  obtain ⟨i0, hi0, hz0, hz1, hz2⟩ := infoRow
  have hmx := hok.max
  have kn := pnone_any h
  have c1 := h.c1
  have c2 := h.c2
  have iI : (i : Int) < (σ.n : Int) := by omega
  have nI : (σ.n : Int) ≤ 65536 := by omega
  have hwf := wfI (i := i) (by omega)
  have hll := line_len hok hi
  have l0 := fun W => index_line L.sb i σ.n L.cp hi W
  have hfew := hok.few i
  have hopm := hok.opsm
  have KN := hide kn
  have HLL := hide hll
  have HOLD := hide h.old
  have HD := hide h
  have HOK := hide hok
  by_cases hp : σ.past i = []
  · have hof : oldF L σ (i : Int) = none := by unfold oldF; rw [if_neg (fun h => h.2 (by simpa using hp))]
    have HOF := hide hof
    have hlr := line_range h hok hi
    have HLR := hide hlr
    have KB := hide (pcb_any w (σ.line i) hll)
    obtain ⟨vals, o1, o2, o3⟩ := RowsB.nil w w.heap.size
    rw [← hp] at o2 o3
    have O1 := hide o1
    have O2 := hide o2
    have O3 := hide o3
    have HV := hide (Below.refl w.heap.size w)
    obtain ⟨q, hq⟩ : ∃ q, q = (σ.past i).length := ⟨_, rfl⟩
    have hq0 : ([] : List (List Nat)).length = q := by rw [hq, hp]
    rw [hq0] at O1
    have HQ := hide hq
    have hq1 : q ≤ 1400000000000 := by omega
    clear h hok kn hp hof hlr hll o1 o2 o3 hq hq0 hfew hopm
    go_enter Try.func9, Try.ntmps9
    go_wp2_with (first | (go_at_call 24; refine (KN.out).mono ?_; rintro e w' ⟨rfl, hw⟩; obtain rfl := hw.symm) | (at_lookup; refine wpList_look_none rfl (.tmp 27) (.tmp 28) rfl L.ob L.N (oldF L σ) (by kernel_rfl) HOLD.out i (by simp [Act.eval]) hwf HOF.out ?_) | (refine wpList_load_mid rfl 69 (.tmp 41) rfl L.sb (i * 64) (by kernel_rfl) ((σ.line i).map B8) (.array 8 67) HLR.out (by kernel_rfl) rfl (by rw [List.length_map, HLL.out]; kernel_rfl) ?_) | (go_at_call 34; refine (KB.out).mono ?_; rintro e W1 ⟨rfl, hob, hb1⟩; have HOB := hide hob; have HB1 := hide hb1; clear hob hb1; have ho2 : (W1.alloc (.cells #[.slice (some ⟨w.heap.size + 1, 0, none⟩) 64 64] 36)).ownsRow w.heap.size 36 1 (.slice none 0 0) q vals := ownsRow_of_block O1.out (fun g hg => (by obtain ⟨c, hc⟩ := own_type O1.out hg; exact (((Below.refl _ W1).alloc (Nat.le_refl _) _).block g (Nat.lt_of_lt_of_le (lt_of_heap hc) HB1.out.size)).trans (HB1.out.block g (lt_of_heap hc)))); have HO2 := hide ho2; clear ho2) | (at_builtin; refine wpList_append_own_at _ rfl _ _ 40 rfl w.heap.size 36 i0 (.slice none 0 0) 1 24 Try.underlying40 hi0 hz0 hz1 hz2 rfl (by decide) (.slice none 0 0) q vals rfl HO2.out ⟨W1.heap.size, 0, none⟩ 1 1 [.slice (some ⟨w.heap.size + 1, 0, none⟩) 64 64] rfl rfl (cell_one W1 _ _) (by simp [Value.oneCell']) (by unfold maxLen; omega) (by omega) (size_one W1 _ (Nat.le_trans HV.out.size HB1.out.size)) ?_; intro v1 x1 ho3 hg3 hnn hat; clear hnn hat; have HO3 := hide ho3; have HG3 := hide hg3; clear ho3 hg3))
    go_ret
    have hA := (Below.refl _ W1).alloc (Nat.le_refl _) (.cells #[.slice (some ⟨w.heap.size + 1, 0, none⟩) 64 64] 36)
    have hbb : Below w.heap.size w (W1.alloc (.cells #[.slice (some ⟨w.heap.size + 1, 0, none⟩) 64 64] 36)) := HB1.out.trans (hA.mono HB1.out.size)
    have hm := RowsB.more (cs := σ.past i) (c := σ.line i) (gb := w.heap.size + 1) (by rw [← HQ.out]; exact HO2.out) O2.out (fun q c hi => by
      obtain ⟨g, h4, h5, h6⟩ := O3.out q c hi
      exact ⟨g, h4, h5, h6.below hbb h6.lt, by have := h6.lt; omega⟩) (by have := HV.out.size; omega) (HOB.out.below hA HOB.out.lt) HG3.out (by rw [← HQ.out]; exact HO3.out)
    have hown1 : ∀ g, (Value.slice none 0 0).ownBlock = some g → w.heap.size ≤ g := fun g hg => by
      rcases O1.out.2 with ⟨e1, _⟩ | ⟨g', cap, cur, e1, e2, _⟩
      · rw [e1] at hg; cases hg
      · rw [e1] at hg; cases hg; exact e2
    refine ⟨_, rfl, hm, ?_⟩
    have h7 := hbb
    have h8 := HG3.out
    exact ⟨h8.os.trans (h7.os.trans HV.out.os), h8.tape.trans (h7.tape.trans HV.out.tape), h8.output.trans (h7.output.trans HV.out.output), Nat.le_trans HV.out.size (Nat.le_trans h7.size h8.size), fun g hg => (h8.block g (by have := h7.size; have := HV.out.size; omega) (fun e => by have := hown1 g e.symm; omega)).trans ((h7.block g (by have := HV.out.size; omega)).trans (HV.out.block g hg))⟩
  · have hof : oldF L σ (i : Int) = some (L.pb i) := by unfold oldF; rw [if_pos ⟨by omega, by simpa using hp⟩]; simp
    have HOF := hide hof
    obtain ⟨rs, hR, hex⟩ := (h.pasts i hp).runs
    have kp := ppb_any w (L.pb i) _ (L.rv i) rs hR (by rw [hex]; omega) (by have h5 := exR_len rs hR.2.2; rw [hex] at h5; omega) (fun r hr => by
      obtain ⟨q, s, e⟩ := List.append_of_mem hr
      have h1 : (exR rs).length = (σ.past i).length := by rw [hex]
      rw [e, exR_append, exR_cut r.1 s r.2] at h1
      simp at h1
      omega)
    rw [hex] at kp
    have KP := hide kp
    obtain ⟨q, hq⟩ : ∃ q, q = (σ.past i).length := ⟨_, rfl⟩
    have HQ := hide hq
    have hq1 : q ≤ 1400000000000 := by omega
    have hii := hi
    clear h hok kn hp hof hll kp hR hex hq hfew hopm
    go_enter Try.func9, Try.ntmps9
    go_wp2_with (first | (go_at_call 24; refine (KN.out).mono ?_; rintro e w' ⟨rfl, hw⟩; obtain rfl := hw.symm) | (at_lookup; refine wpList_look_some rfl (.tmp 27) (.tmp 28) rfl L.ob L.N (oldF L σ) (by kernel_rfl) HOLD.out i (by simp [Act.eval]) hwf (L.pb i) HOF.out ?_) | (go_at_call 33; refine (KP.out).mono ?_; rintro e V ⟨lv, rfl, hrw, hbv⟩; obtain ⟨vals, o1, o2, o3⟩ := hrw; have HV := hide hbv; have hdv := HD.out.below hbv; have cv1 := hdv.c1; have hlr := line_range hdv HOK.out hii; have HLR := hide hlr; have KB := hide (pcb_any V (σ.line i) HLL.out); rw [← HQ.out] at o1; have O1 := hide o1; have O2 := hide o2; have O3 := hide o3; clear o1 o2 o3 hbv hdv hlr) | (refine wpList_load_mid rfl 69 (.tmp 41) rfl L.sb (i * 64) (by kernel_rfl) ((σ.line i).map B8) (.array 8 67) HLR.out (by kernel_rfl) rfl (by rw [List.length_map, HLL.out]; kernel_rfl) ?_) | (go_at_call 34; refine (KB.out).mono ?_; rintro e W1 ⟨rfl, hob, hb1⟩; have HOB := hide hob; have HB1 := hide hb1; clear hob hb1; have ho2 : (W1.alloc (.cells #[.slice (some ⟨V.heap.size + 1, 0, none⟩) 64 64] 36)).ownsRow w.heap.size 36 1 lv q vals := ownsRow_of_block O1.out (fun g hg => (by obtain ⟨c, hc⟩ := own_type O1.out hg; exact (((Below.refl _ W1).alloc (Nat.le_refl _) _).block g (Nat.lt_of_lt_of_le (lt_of_heap hc) HB1.out.size)).trans (HB1.out.block g (lt_of_heap hc)))); have HO2 := hide ho2; clear ho2) | (at_builtin; refine wpList_append_own_at _ rfl _ _ 40 rfl w.heap.size 36 i0 (.slice none 0 0) 1 24 Try.underlying40 hi0 hz0 hz1 hz2 rfl (by decide) lv q vals rfl HO2.out ⟨W1.heap.size, 0, none⟩ 1 1 [.slice (some ⟨V.heap.size + 1, 0, none⟩) 64 64] rfl rfl (cell_one W1 _ _) (by simp [Value.oneCell']) (by unfold maxLen; omega) (by omega) (size_one W1 _ (Nat.le_trans HV.out.size HB1.out.size)) ?_; intro v1 x1 ho3 hg3 hnn hat; clear hnn hat; have HO3 := hide ho3; have HG3 := hide hg3; clear ho3 hg3))
    go_ret
    have hA := (Below.refl _ W1).alloc (Nat.le_refl _) (.cells #[.slice (some ⟨V.heap.size + 1, 0, none⟩) 64 64] 36)
    have hbb : Below V.heap.size V (W1.alloc (.cells #[.slice (some ⟨V.heap.size + 1, 0, none⟩) 64 64] 36)) := HB1.out.trans (hA.mono HB1.out.size)
    have hm := RowsB.more (cs := σ.past i) (c := σ.line i) (gb := V.heap.size + 1) (by rw [← HQ.out]; exact HO2.out) O2.out (fun q c hi => by
      obtain ⟨g, h4, h5, h6⟩ := O3.out q c hi
      exact ⟨g, h4, h5, h6.below hbb h6.lt, by have := h6.lt; omega⟩) (by have := HV.out.size; omega) (HOB.out.below hA HOB.out.lt) HG3.out (by rw [← HQ.out]; exact HO3.out)
    have hown1 : ∀ g, lv.ownBlock = some g → w.heap.size ≤ g := fun g hg => by
      rcases O1.out.2 with ⟨e1, _⟩ | ⟨g', cap, cur, e1, e2, _⟩
      · rw [e1] at hg; cases hg
      · rw [e1] at hg; cases hg; exact e2
    refine ⟨_, rfl, hm, ?_⟩
    have h7 := hbb
    have h8 := HG3.out
    exact ⟨h8.os.trans (h7.os.trans HV.out.os), h8.tape.trans (h7.tape.trans HV.out.tape), h8.output.trans (h7.output.trans HV.out.output), Nat.le_trans HV.out.size (Nat.le_trans h7.size h8.size), fun g hg => (h8.block g (by have := h7.size; have := HV.out.size; omega) (fun e => by have := hown1 g e.symm; omega)).trans ((h7.block g (by have := HV.out.size; omega)).trans (HV.out.block g hg))⟩
end
end Go.Proofs.Ytmgeokmgidnneaa
namespace Go.Proofs.Ytmgeokmgidnneaa
open Go.RowKit
set_option linter.unusedVariables false

def bitStep (r : Nat) : Nat := if r % 2 = 1 then (r / 2) ^^^ 2197175160 else r / 2
def bitSteps : Nat → Nat → Nat
  | 0, r => r
  | n + 1, r => bitStep (bitSteps n r)
def byteStep (r x : Nat) : Nat := bitSteps 8 (r ^^^ x)
def runs (r : Nat) (bs : List Nat) : Nat := bs.foldl byteStep r
def moreV (s : Nat) (bs : List Nat) : Nat := 4294967295 ^^^ runs (4294967295 ^^^ s) bs

theorem bitStep_lt (r : Nat) (h : r < 4294967296) : bitStep r < 4294967296 := by
  unfold bitStep
  split
  · exact Nat.xor_lt_two_pow (n := 32) (by omega) (by omega)
  · omega
theorem bitSteps_lt (n r : Nat) (h : r < 4294967296) : bitSteps n r < 4294967296 := by
  induction n with
  | zero => exact h
  | succ n ih => exact bitStep_lt _ ih
theorem xor_lt32 (a b : Nat) (ha : a < 4294967296) (hb : b < 4294967296) : a ^^^ b < 4294967296 := Nat.xor_lt_two_pow (n := 32) ha hb
theorem byteStep_lt (r x : Nat) (h : r < 4294967296) (hx : x < 256) : byteStep r x < 4294967296 := bitSteps_lt 8 _ (xor_lt32 _ _ h (by omega))
theorem runs_snoc (r : Nat) (bs : List Nat) (x : Nat) : runs r (bs ++ [x]) = byteStep (runs r bs) x := by simp [runs]
theorem runs_append (r : Nat) (a b : List Nat) : runs r (a ++ b) = runs (runs r a) b := by simp [runs]
theorem runs_lt (r : Nat) (bs : List Nat) (h : r < 4294967296) (hb : ∀ x ∈ bs, x < 256) : runs r bs < 4294967296 := by
  induction bs generalizing r with
  | nil => exact h
  | cons x t ih => exact ih (byteStep r x) (byteStep_lt _ _ h (hb x (by simp))) (fun y hy => hb y (by simp [hy]))
theorem moreV_lt (s : Nat) (bs : List Nat) (h : s < 4294967296) (hb : ∀ x ∈ bs, x < 256) : moreV s bs < 4294967296 :=
  xor_lt32 _ _ (by omega) (runs_lt _ _ (xor_lt32 _ _ (by omega) h) hb)
theorem moreV_append (s : Nat) (a b : List Nat) : moreV s (a ++ b) = moreV (moreV s a) b := by
  unfold moreV
  rw [runs_append, ← Nat.xor_assoc, Nat.xor_self, Nat.zero_xor]
theorem moreV_nil (s : Nat) : moreV s [] = s := by
  unfold moreV runs
  rw [List.foldl_nil, ← Nat.xor_assoc, Nat.xor_self, Nat.zero_xor]

theorem step_eq (Q : Nat) (h : Q < 4294967296) :
    bits BinOp.xor IntKind.u32 ((Q : Int) / 2) (bits BinOp.and IntKind.u32 2197175160 (-bits BinOp.and IntKind.u32 (Q : Int) 1 % 4294967296)) = ((bitStep Q : Nat) : Int) := by
  have e1 : bits BinOp.and IntKind.u32 (Q : Int) 1 = ((Q % 2 : Nat) : Int) := by
    have := u32_and_nat Q 1 h (by omega)
    rw [Nat.and_one_is_mod] at this
    exact this
  rw [e1]
  have e2 : ((Q : Int) / 2) = ((Q / 2 : Nat) : Int) := by omega
  rw [e2]
  unfold bitStep
  rcases Nat.mod_two_eq_zero_or_one Q with h0 | h1
  · rw [h0, if_neg (by omega)]
    have e3 : bits BinOp.and IntKind.u32 2197175160 (-((0 : Nat) : Int) % 4294967296) = ((0 : Nat) : Int) := by
      have := u32_and_nat 2197175160 0 (by omega) (by omega)
      simpa using this
    rw [e3]
    have := u32_xor_nat (Q / 2) 0 (by omega) (by omega)
    simpa using this
  · rw [h1, if_pos rfl]
    have e3 : bits BinOp.and IntKind.u32 2197175160 (-((1 : Nat) : Int) % 4294967296) = ((2197175160 : Nat) : Int) := by
      have := u32_and_nat 2197175160 4294967295 (by omega) (by omega)
      have e4 : (2197175160 &&& 4294967295 : Nat) = 2197175160 := by decide
      rw [e4] at this
      exact this
    rw [e3]
    exact u32_xor_nat (Q / 2) 2197175160 (by omega) (by omega)

theorem inv_eq (s : Nat) (h : s < 4294967296) : bits BinOp.xor IntKind.u32 IntKind.u32.max (s : Int) = ((4294967295 ^^^ s : Nat) : Int) :=
  u32_xor_nat 4294967295 s (by omega) h
theorem mix_eq (r x : Nat) (h : r < 4294967296) (hx : x < 256) : bits BinOp.xor IntKind.u32 (r : Int) (x : Int) = ((r ^^^ x : Nat) : Int) :=
  u32_xor_nat r x h (by omega)
theorem int_congr {k : IntKind} {a b : Int} (h : a = b) : Value.int k a = Value.int k b := by rw [h]
theorem ret_int {k : IntKind} {a b : Int} (h : a = b) : Ending.returned (.int k a) = .returned (.int k b) := by rw [h]

def sumV (rs : List (List Nat)) : Nat := moreV 0 rs.flatten
theorem sumV_snoc (rs : List (List Nat)) (r : List Nat) : sumV (rs ++ [r]) = moreV (sumV rs) r := by
  unfold sumV
  rw [List.flatten_append, moreV_append]
  simp
theorem sumV_lt (rs : List (List Nat)) (h : ∀ r ∈ rs, ∀ x ∈ r, x < 256) : sumV rs < 4294967296 :=
  moreV_lt 0 _ (by omega) (fun x hx => by obtain ⟨r, hr, hxr⟩ := List.mem_flatten.1 hx; exact h r hr x hxr)

end Go.Proofs.Ytmgeokmgidnneaa
namespace Go.Proofs.Ytmgeokmgidnneaa
open Go.RowKit
set_option linter.unusedVariables false

theorem ownB_of_owns {W : World} {base g : Nat} {bs : List Nat} (h : W.ownsRow base 5 1 (.slice (some ⟨g, 0, none⟩) bs.length bs.length) bs.length (bs.map B8)) : OwnB W g bs := by
  rcases h.2 with ⟨h0, _⟩ | ⟨g', cap, cur, hv, _, hg, hn, _, hs, hc⟩
  · cases h0
  · cases hv
    have e : cur = (bs.map B8).toArray := by
      apply Array.ext'
      rw [← hc, List.take_of_length_le (by simp [hs])]
    rw [e] at hg
    exact hg

set_option maxHeartbeats 400000 in
theorem copyBytes_any (a : Option Addr) (cap : Nat) (bs : List Nat) (w : World) (hg : Sl w a bs) (hl : bs.length ≤ 140737488355328) :
    Calls Try.prog 12 #[.slice a bs.length cap] w fun e w' => e = .returned (.slice (some ⟨w.heap.size, 0, none⟩) bs.length bs.length) ∧ OwnB w' w.heap.size bs ∧ Below w.heap.size w w' := by
  obtain ⟨i0, hi, hz0, hz1, hz2⟩ := info_parts Try.info5
  have hmk : ∀ w, Sem.run Try.prog (Instr.makeSlice 36 (.int .i64 0) (.int .i64 (bs.length : Int))) w = .ok (.slice (some ⟨w.heap.size, 0, none⟩) 0 bs.length) (w.alloc (.cells (madeCells #[.int .u8 0] bs.length) 5)) := fun w => by
    have h := run_make (P := Try.prog) w 36 5 i0 (.int .u8 0) Try.underlying36 hi hz0 .i64 .i64 0 bs.length (by omega) (by omega) (by rw [hz2]; omega) (by omega)
    simp only [Int.toNat_zero, Int.toNat_natCast, hz1, Nat.mul_one] at h
    exact h
  have hO : (w.alloc (.cells (madeCells #[.int .u8 0] bs.length) 5)).ownsRow w.heap.size 5 1 (.slice (some ⟨w.heap.size, 0, none⟩) 0 bs.length) 0 [] :=
    World.ownsRow_made w _ bs.length (Nat.le_refl _) (by unfold maxLen; omega) (by simp [size_madeCells])
  have hB : Below w.heap.size w (w.alloc (.cells (madeCells #[.int .u8 0] bs.length) 5)) := (Below.refl _ _).alloc (Nat.le_refl _) _
  go_enter Try.func12, Try.ntmps12
  go_wp2
  clear hmk
  go_loopw [3, 4] (fun v i wr => ∃ k : Nat, k ≤ bs.length ∧ i = .int .i64 k ∧ v = .slice (some ⟨w.heap.size, 0, none⟩) k bs.length ∧ wr.ownsRow w.heap.size 5 1 (.slice (some ⟨w.heap.size, 0, none⟩) k bs.length) k ((bs.take k).map B8) ∧ Below w.heap.size w wr)
    (fun _ i _ => bs.length - (intOf i).toNat)
  case atStart => exact ⟨0, by omega, rfl, rfl, hO, hB⟩
  case round =>
    clear hO hB
    obtain ⟨k, hk, rfl, rfl, hown, hBr⟩ := hrel
    by_cases hlt : k < bs.length
    · obtain ⟨x, hx⟩ : ∃ x, bs[k]? = some x := ⟨_, List.getElem?_eq_getElem hlt⟩
      obtain ⟨b, off, rfl, hbl, hseg⟩ : ∃ b off, a = some ⟨b, off, none⟩ ∧ b < w.heap.size ∧ Seg w b off bs := by
        rcases hg with rfl | h
        · simp at hlt
        · exact h
      have hc : wr.cell? ⟨b, off + k, none⟩ = some (.int .u8 (x : Int)) := (hBr.cell (p := ⟨b, off + k, none⟩) hbl).trans (hseg k x hx).1
      have hki : (k : Int) < (bs.length : Int) := by omega
      have HX := hide hx
      have HB := hide hBr
      have hsz := hBr.size
      clear hx hseg hg hBr
      go_wp2_with (at_builtin; refine wpList_append_fits _ rfl _ _ 36 rfl w.heap.size 5 i0 1 Try.underlying36 hi hz1 w.heap.size k bs.length _ rfl (hown.alloc _) ⟨wr.heap.size, 0, none⟩ 1 1 [.int .u8 (x : Int)] rfl rfl (cell_one_new _ _ _) (by simp [Value.oneCell']) (by omega) ?_; intro w1 hown1 hgrow1)
      go_roundw
      case rel =>
        refine ⟨k + 1, by omega, by go_num, rfl, ?_, ?_⟩
        · rw [List.take_add_one, HX.out]
          simpa [B8] using hown1
        · exact (HB.out.alloc hsz _).grown hgrow1 (by simp; omega) (fun j e => by cases e; exact Nat.le_refl _)
      case measure => simp [intOf]; omega
    · have hkk : k = bs.length := by omega
      subst hkk
      have hki : (bs.length : Int) ≤ (bs.length : Int) := by omega
      have HB := hide hBr
      have HO := hide hown
      clear hBr hown hg
      go_wp2
      go_ret
      have h1 := HO.out
      rw [List.take_length] at h1
      exact ⟨rfl, ownB_of_owns h1, HB.out⟩
theorem eqBytes_len (a b : Option Addr) (n m c d : Nat) (w : World) (h : ((n : Int) != (m : Int)) = true) :
    Calls Try.prog 11 #[.slice a n c, .slice b m d] w fun e w' => e = .returned (.bool false) ∧ w' = w := by
  go_enter Try.func11, Try.ntmps11
  go_wp2
  go_ret
  exact ⟨rfl, rfl⟩

set_option maxHeartbeats 400000 in
theorem eqBytes_same (a b : Option Addr) (c d : Nat) (xs ys : List Nat) (w : World) (ha : Sl w a xs) (hb : Sl w b ys) (hl : xs.length = ys.length) (hm : xs.length ≤ 9223372036854775807) :
    Calls Try.prog 11 #[.slice a xs.length c, .slice b xs.length d] w fun e w' => e = .returned (.bool (decide (xs = ys))) ∧ ∃ n, w' = w.drewN n := by
  have HL := hide hl
  clear hl
  have hne : ((xs.length : Int) != (xs.length : Int)) = false := by simp
  go_enter Try.func11, Try.ntmps11
  go_wp2
  go_loopw [5] (fun i wr => ∃ k n : Nat, k ≤ xs.length ∧ i = .int .i64 k ∧ xs.take k = ys.take k ∧ wr = w.drewN n) (fun i _ => xs.length - (intOf i).toNat)
  case atStart => exact ⟨0, 0, by omega, rfl, rfl, rfl⟩
  case round =>
    obtain ⟨k, n, hk, rfl, htk, rfl⟩ := hrel
    have HT := hide htk
    clear htk
    by_cases hlt : k < xs.length
    · obtain ⟨x, hx⟩ : ∃ x, xs[k]? = some x := ⟨_, List.getElem?_eq_getElem hlt⟩
      obtain ⟨y, hy⟩ : ∃ y, ys[k]? = some y := ⟨_, List.getElem?_eq_getElem (by have := HL.out; omega)⟩
      obtain ⟨b1, o1, rfl, _, hs1⟩ : ∃ b off, a = some ⟨b, off, none⟩ ∧ b < w.heap.size ∧ Seg w b off xs := by
        rcases ha with rfl | h
        · simp at hlt
        · exact h
      obtain ⟨b2, o2, rfl, _, hs2⟩ : ∃ b0 off, b = some ⟨b0, off, none⟩ ∧ b0 < w.heap.size ∧ Seg w b0 off ys := by
        rcases hb with rfl | h
        · simp at hy
        · exact h
      have c1 := (hs1 k x hx).1
      have c2 := (hs2 k y hy).1
      have HX := hide hx
      have HY := hide hy
      clear hx hy hs1 hs2 ha hb
      have hki : (k : Int) < (xs.length : Int) := by omega
      by_cases hxy : x = y
      · have hb1 : ((x : Int) != (y : Int)) = false := by simp [hxy]
        have HXY := hide hxy
        clear hxy
        go_wp2
        go_quiet (fail)
        go_wp2
        go_roundw
        case rel =>
          refine ⟨k + 1, n + nq, by omega, by go_num, ?_, rfl⟩
          rw [List.take_add_one, List.take_add_one, HX.out, HY.out, HT.out, HXY.out]
        case measure => simp [intOf]; omega
      · have hb1 : ((x : Int) != (y : Int)) = true := by simp; omega
        have HXY := hide hxy
        clear hxy
        go_wp2
        go_quiet (fail)
        go_wp2
        go_ret
        refine ⟨ret_bool (Eq.symm (decide_eq_false fun h => HXY.out ?_)), n + nq, by simp⟩
        have h1 := HX.out
        rw [h, HY.out] at h1
        exact (Option.some.inj h1).symm
    · have hkk : k = xs.length := by omega
      subst hkk
      go_wp2
      go_ret
      refine ⟨ret_bool (Eq.symm (decide_eq_true ?_)), _, rfl⟩
      have h1 := HT.out
      rw [List.take_length, HL.out, List.take_length] at h1
      exact h1

theorem eqBytes_any (a b : Option Addr) (c d : Nat) (xs ys : List Nat) (w : World) (ha : Sl w a xs) (hb : Sl w b ys) (hm : xs.length ≤ 9223372036854775807) :
    Calls Try.prog 11 #[.slice a xs.length c, .slice b ys.length d] w fun e w' => e = .returned (.bool (decide (xs = ys))) ∧ ∃ n, w' = w.drewN n := by
  by_cases hl : xs.length = ys.length
  · have h := eqBytes_same a b c d xs ys w ha hb hl hm
    rw [← hl]
    exact h
  · refine (eqBytes_len a b xs.length ys.length c d w (by simp; omega)).mono ?_
    rintro e w' ⟨rfl, rfl⟩
    exact ⟨ret_bool (Eq.symm (decide_eq_false fun h => hl (by rw [h]))), 0, rfl⟩

/-- The mark at a place. -/
def markAt (i : Nat) : Nat := (165 ^^^ i) % 256
/-- The marks behind a list of so many bytes. -/
def marks (n : Nat) : List Nat := (List.range 80).map fun (j : Nat) => markAt (n + j)
theorem marks_length (n : Nat) : (marks n).length = 80 := by simp [marks]
theorem marks_get (n j : Nat) (h : j < 80) : (marks n)[j]? = some (markAt (n + j)) := by simp [marks, h]
theorem mark_eq (i : Nat) (h : i ≤ 9223372036854775807) : IntKind.u8.wrap (bits BinOp.xor IntKind.i64 165 (i : Int)) = ((markAt i : Nat) : Int) := by
  have hx : 165 ^^^ i < 2 ^ 63 := Nat.xor_lt_two_pow (by omega) (by omega)
  have e : bits BinOp.xor IntKind.i64 165 (i : Int) = ((165 ^^^ i : Nat) : Int) := by
    show IntKind.i64.wrap ((BitVec.ofInt 64 (((165 : Nat)) : Int) ^^^ BitVec.ofInt 64 (i : Int)).toNat : Int) = _
    rw [BitVec.toNat_xor, ofInt_u64 165 (by omega), ofInt_u64 i (by omega), IntKind.wrap_i64]
    omega
  rw [e, IntKind.wrap_u8']
  unfold markAt
  omega

/-- The head of a row of the call's own. -/
theorem OwnB.head {w : World} {g : Nat} {bs sp : List Nat} (h : OwnB w g (bs ++ sp)) (hx : ∀ x ∈ bs, x < 256) : Sl w (some ⟨g, 0, none⟩) bs := by
  refine .inr ⟨g, 0, rfl, h.lt, fun i x hi => ⟨?_, hx x (List.mem_of_getElem? hi)⟩⟩
  rw [Nat.zero_add]
  exact h.cell i x (by rw [List.getElem?_append_left (List.getElem?_eq_some_iff.1 hi).1]; exact hi)

theorem markAt_lt (i : Nat) : markAt i < 256 := Nat.mod_lt _ (by omega)

theorem sl_of_owns {W : World} {base : Nat} {v : Value} {bs : List Nat} (h : W.ownsRow base 5 1 v bs.length (bs.map B8)) (hx : ∀ x ∈ bs, x < 256) : ∃ a cap, v = .slice a bs.length cap ∧ Sl W a bs := by
  rcases h.2 with ⟨rfl, h0⟩ | ⟨g, cap, cur, rfl, _, hg, hn, _, hs, hc⟩
  · exact ⟨none, 0, by rw [h0], .inl (List.eq_nil_of_length_eq_zero h0)⟩
  · refine ⟨_, cap, rfl, .inr ⟨g, 0, rfl, (Array.getElem?_eq_some_iff.1 hg).1, fun i x hx' => ⟨?_, hx x (List.mem_of_getElem? hx')⟩⟩⟩
    have h1 : (bs.map B8)[i]? = some (B8 x) := by rw [List.getElem?_map, hx']; rfl
    have h2 : i < bs.length := (List.getElem?_eq_some_iff.1 hx').1
    rw [← hc, List.getElem?_take, if_pos (by omega)] at h1
    simp only [Nat.zero_add, World.cell?, hg]
    simpa [B8] using h1

theorem owns_of_ownB {W : World} {base g : Nat} {bs : List Nat} (h : OwnB W g bs) (hb : base ≤ g) (hm : bs.length ≤ maxLen) : W.ownsRow base 5 1 (.slice (some ⟨g, 0, none⟩) bs.length bs.length) bs.length (bs.map B8) :=
  ⟨by simp, .inr ⟨g, bs.length, _, rfl, hb, h, Nat.le_refl _, hm, by simp, by rw [List.take_of_length_le (by simp)]⟩⟩

theorem src {w w' : World} {ad : Addr} {bs : List Nat} (h : Sl w (some ad) bs) (hb : Below w.heap.size w w') : ∀ j u, (bs.map B8)[j]? = some u → w'.cell? (ad.add j) = some u := by
  intro j u hu
  rcases h with rfl | ⟨b, off, he, hl, hs⟩
  · simp at hu
  · cases he
    rw [List.getElem?_map] at hu
    obtain ⟨x, hx, rfl⟩ := Option.map_eq_some_iff.1 hu
    have e : (⟨b, off, none⟩ : Addr).add j = ⟨b, off + j, none⟩ := by simp [Addr.add]
    rw [e]
    exact (hb.cell (p := ⟨b, off + j, none⟩) hl).trans (hs j x hx).1

/-- 'append(x, y...)' on bytes, x the call's own, y whatever came in or was made. -/
theorem wpList_app_bytes {w : World} {ops : Array Oper} {rest : List Oper} {o : Oper} {a : Act} {Q : Exit → Act → World → Prop} (hgd : o.guard = none) (s x : Operand)
    (ho : o.op = .call { callee := .builtin .append, args := #[s, x], argTypes := #[36, 36] })
    (base : Nat) (v : Value) (xs : List Nat) (hs : a.eval s = v) (hown : w.ownsRow base 5 1 v xs.length (xs.map B8))
    (a1 : Option Addr) (c : Nat) (ys : List Nat) (hx : a.eval x = .slice a1 ys.length c) (hnil : a1 = none → c = 0) (hys : Sl w a1 ys) (hb : xs.length + ys.length ≤ 140737488355328) (hbase : base ≤ w.heap.size)
    (h : ∀ v' w', w'.ownsRow base 5 1 v' (xs ++ ys).length ((xs ++ ys).map B8) → Below base w w' → wpList Try.prog ops Q rest (a.put o.dst v') w') : wpList Try.prog ops Q (o :: rest) a w := by
  obtain ⟨i0, hi, hz0, hz1, hz2⟩ := info_parts Try.info5
  cases a1 with
  | none =>
    obtain rfl : ys = [] := by
      rcases hys with h0 | ⟨b, off, h0, _⟩
      · exact h0
      · cases h0
    rw [hnil rfl] at hx
    refine wpList_append_own_none hgd s x 36 ho base 5 i0 1 Try.underlying36 hi v xs.length (xs.map B8) hs hown hx (h v w ?_ (Below.refl _ _))
    simpa using hown
  | some ad =>
    refine wpList_append_own w hgd s x 36 ho base 5 i0 (.int .u8 0) 1 1 Try.underlying36 hi hz0 hz1 hz2 rfl (by omega) v xs.length (xs.map B8) hs hown ad ys.length c (ys.map B8) hx (by simp) (src hys (Below.refl _ _)) (B8_one ys)
      (by unfold maxLen; omega) (by omega) hbase fun v' w' h1 h2 _ => h v' w' ?_ ?_
    · simpa using h1
    · exact (Below.refl _ _).grown h2 hbase fun k e => (hown.lt k e).1

end Go.Proofs.Ytmgeokmgidnneaa
namespace Go.Proofs.Ytmgeokmgidnneaa
open Go.RowKit Go.Shelf
set_option linter.unusedVariables false

/-- A device that was laid since w, and nothing else has changed. -/
structure At (w W : World) (b : Nat) (L : Lay) (σ : St) : Prop where
  dev : DevL W b L σ
  ok : σ.Ok
  num : L.N ≤ σ.ops
  foot : ∀ k, Foot b L σ k → w.heap.size ≤ k
  bel : Below w.heap.size w W
theorem At.step {w W W' : World} {b : Nat} {L L' : Lay} {σ σ' : St} (h : At w W b L σ) (hd : DevL W' b L' σ') (hok : σ'.Ok) (hf : ∀ k, Foot b L' σ' k → Foot b L σ k ∨ W.heap.size ≤ k) {X : Nat → Prop} (hX : ∀ k, X k → Foot b L σ k) (hg : Gr X W W') (hN : L'.N ≤ σ'.ops) : At w W' b L' σ' := by
  refine ⟨hd, hok, hN, fun k hk => ?_, hg.1.trans h.bel.os, hg.2.1.trans h.bel.tape, hg.2.2.1.trans h.bel.output, Nat.le_trans h.bel.size hg.size, fun k hk => (hg.block (Nat.lt_of_lt_of_le hk h.bel.size) (fun hx => by have := h.foot k (hX k hx); omega)).trans (h.bel.block k hk)⟩
  rcases hf k hk with h1 | h1
  · exact h.foot k h1
  · exact Nat.le_trans h.bel.size h1
theorem At.below {w W W' : World} {b : Nat} {L : Lay} {σ : St} (h : At w W b L σ) (hB : Below W.heap.size W W') : At w W' b L σ := ⟨h.dev.below hB, h.ok, h.num, h.foot, h.bel.trans (hB.mono h.bel.size)⟩
def s0 : St := newD 2
def s1 : St := writeDo (leB 8 257) 0 s0 (wordsOf 0 8)
def s2 : St := flushDo s1 0
def s3 : St := writeDo (leB 8 5) 8 s2 (wordsOf 8 8)
def s4 : St := fenceDo s3
theorem words0 : wordsOf 0 8 = [0] := by rw [wordsOf_eq 0 8 (by omega)]; rfl
theorem words8 : wordsOf 8 8 = [1] := by rw [wordsOf_eq 8 8 (by omega)]; rfl
theorem s0_ok : s0.Ok := newD_ok (by omega) (by omega)
theorem s1_like : Like s0 s1 1 := by
  have h := write_like (at_ := 0) (leB_lt 8 257) (wordsOf 0 8) s0 s0_ok (by rw [words0]; intro no h; simp at h; subst h; show 0 < 2; omega) (by rw [words0]; show 0 + 1 ≤ _; omega)
  rw [words0] at h
  unfold s1
  rw [words0]
  exact h
theorem s2_ok : s2.Ok := flush_ok s1_like.ok 0 (by rw [s1_like.ops]; show 0 + 1 < _; omega)
theorem s2_ops : s2.ops = 2 := by show s1.ops + 1 = 2; rw [s1_like.ops]; rfl
theorem s3_like : Like s2 s3 1 := by
  have h := write_like (at_ := 8) (leB_lt 8 5) (wordsOf 8 8) s2 s2_ok (by rw [words8]; intro no h; simp at h; subst h; show 0 < s1.n; rw [s1_like.n]; show 0 < 2; omega) (by rw [words8, s2_ops]; show 2 + 1 ≤ _; omega)
  rw [words8] at h
  unfold s3
  rw [words8]
  exact h
theorem s3_ops : s3.ops = 3 := by rw [s3_like.ops, s2_ops]
theorem s4_ok : s4.Ok := fence_ok s3_like.ok (by rw [s3_ops]; omega)
theorem s4_ops : s4.ops = 4 := by show s3.ops + 1 = 4; rw [s3_ops]
theorem s4_n : s4.n = 2 := by show s3.n = 2; rw [s3_like.n]; show s1.n = 2; rw [s1_like.n]; rfl
theorem s4_off : s4.off = false := by show s3.off = false; rw [s3_like.off]; show s1.off = false; rw [s1_like.off]; rfl
theorem s4_arms : s4.arms = [] := by show s3.arms = []; rw [s3_like.arms]; show s1.arms = []; rw [s1_like.arms]; rfl
/-- The line behind the first store. -/
def line1 : List Nat := 1 :: 1 :: List.replicate 62 0
theorem s1_eq : s1.past 0 = [List.replicate 64 0] ∧ s1.line 0 = line1 ∧ s1.fl 0 = none := by
  have e : s1 = wordDo (leB 8 257) 0 s0 0 := by unfold s1; rw [words0]; rfl
  rw [e]
  refine ⟨by kernel_rfl, by kernel_rfl, by kernel_rfl⟩
theorem s4_past : s4.past 0 = [line1] := by
  have e3 : s3 = wordDo (leB 8 5) 8 s2 1 := by unfold s3; rw [words8]; rfl
  have e1 : s1 = wordDo (leB 8 257) 0 s0 0 := by unfold s1; rw [words0]; rfl
  unfold s4
  rw [e3]
  unfold s2
  rw [e1]
  have h : (fenceDo (wordDo (leB 8 5) 8 (flushDo (wordDo (leB 8 257) 0 s0 0) 0) 1)).past 0 = [line1] := by kernel_rfl
  exact h
section
variable {w : World}
theorem a_new : Calls Try.prog 17 #[.int .i64 128] w fun e W => ∃ b L, e = .returned (.tuple #[.pointer (some ⟨b, 0, none⟩), .int .i64 0]) ∧ At w W b L s0 := by
  refine (pnew_any w 2 (by omega) (by omega)).mono ?_
  rintro e W ⟨b, L, rfl, h1, h2, h3, h4⟩
  exact ⟨b, L, rfl, h1, s0_ok, by rw [h4]; exact Nat.zero_le _, h2, h3⟩
variable {W : World} {b : Nat} {L : Lay}
theorem a_st1 (h : At w W b L s0) : Calls Try.prog 14 #[.pointer (some ⟨b, 0, none⟩), .int .i64 0, .int .u64 257] W fun e W' => e = .returned (.int .i64 0) ∧ ∃ L', At w W' b L' s1 := by
  refine (pst8_any (at_ := 0) 257 h.dev h.ok rfl h.num rfl (by show 0 + 600000 ≤ _; omega) rfl (by show 0 + 8 ≤ 64 * 2; omega) (by omega)).mono ?_
  rintro e W' ⟨rfl, L', h1, h2, h3, h4, h5⟩
  refine ⟨rfl, L', h.step h1 s1_like.ok h2 (fun k hk => hk) h3 ?_⟩
  rw [words0] at h4
  have := h.num
  rw [s1_like.ops]
  show L'.N ≤ s0.ops + 1
  simp at h4
  omega
theorem a_fl (h : At w W b L s1) : Calls Try.prog 18 #[.pointer (some ⟨b, 0, none⟩), .int .i64 3] W fun e W' => e = .returned (.int .i64 0) ∧ ∃ L', At w W' b L' s2 := by
  have ho := s1_like.ops
  refine (pflush_any h.dev h.ok (by rw [s1_like.off]; rfl) (by rw [s1_like.arms]; rfl) 3 (by rw [s1_like.n]; show 3 < 64 * 2; omega) (by rw [ho]; show 0 + 1 < _; omega) h.num).mono ?_
  rintro e W' ⟨rfl, L', h1, h2, h3, h4, h5⟩
  refine ⟨rfl, L', h.step h1 s2_ok (fun k hk => .inl (h2 k hk)) (fun k hk => hk) h3 ?_⟩
  have := h.num
  show L'.N ≤ s1.ops + 1
  omega
theorem a_st2 (h : At w W b L s2) : Calls Try.prog 14 #[.pointer (some ⟨b, 0, none⟩), .int .i64 8, .int .u64 5] W fun e W' => e = .returned (.int .i64 0) ∧ ∃ L', At w W' b L' s3 := by
  have hn : s2.n = 2 := by show s1.n = 2; rw [s1_like.n]; rfl
  refine (pst8_any (at_ := 8) 5 h.dev h.ok (by show s1.off = false; rw [s1_like.off]; rfl) h.num (by show s1.arms = []; rw [s1_like.arms]; rfl) (by rw [s2_ops]; omega) rfl (by rw [hn]; omega) (by omega)).mono ?_
  rintro e W' ⟨rfl, L', h1, h2, h3, h4, h5⟩
  refine ⟨rfl, L', h.step h1 s3_like.ok h2 (fun k hk => hk) h3 ?_⟩
  rw [words8] at h4
  have := h.num
  rw [s3_like.ops]
  simp at h4
  omega
theorem a_fen (h : At w W b L s3) : Calls Try.prog 19 #[.pointer (some ⟨b, 0, none⟩)] W fun e W' => e = .returned (.int .i64 0) ∧ ∃ L', At w W' b L' s4 := by
  refine (pfence_any h.dev h.ok s4_off s4_arms (by rw [s3_ops]; omega)).mono ?_
  rintro e W' ⟨rfl, L', h1, h2, h3, h4⟩
  refine ⟨rfl, L', h.step h1 s4_ok h2 (fun k hk => hk) h3 ?_⟩
  have := h.num
  show L'.N ≤ s3.ops + 1
  omega
theorem a_ops (h : At w W b L s4) : Calls Try.prog 16 #[.pointer (some ⟨b, 0, none⟩)] W fun e W' => e = .returned (.int .i64 4) ∧ W' = W := by
  have k := pops_any h.dev
  rw [s4_ops] at k
  exact k
theorem a_con (h : At w W b L s4) : Calls Try.prog 9 #[.pointer (some ⟨b, 0, none⟩), .int .i64 0] W fun e W' => ∃ a c, e = .returned (.slice a 2 c) ∧ At w W' b L s4 := by
  refine (pcont_any 0 h.dev h.ok (by rw [s4_n]; omega)).mono ?_
  rintro e W' ⟨lv, rfl, ⟨vals, h1, h2, h3⟩, h4⟩
  obtain ⟨a, c, e⟩ := own_slice h1
  rw [s4_past] at e
  exact ⟨a, c, by rw [e]; rfl, h.below h4⟩
theorem a_cr (h : At w W b L s4) : Calls Try.prog 20 #[.pointer (some ⟨b, 0, none⟩), .slice none 0 0] W fun e W' => e = .returned (.int .i64 0) ∧ ∃ L' σ', Lost s4 [] σ' ∧ At w W' b L' σ' := by
  refine (pcrash_any (a := none) (kp := []) 0 h.dev h.ok s4_off ⟨by simp, .inl ⟨rfl, rfl⟩⟩ (by simp)).mono ?_
  rintro e W' ⟨rfl, L', σ', h1, h2, h3, h4, h5⟩
  refine ⟨rfl, L', σ', h1, h.step h2 (Lost.ok h.ok h1) h3 (fun k hk => hk.elim (fun e => .inl e) (fun e => .inr (.inl e))) h4 ?_⟩
  have := h.num
  rw [h1.ops]
  omega
theorem a_off {σ' : St} (h : At w W b L σ') (hl : Lost s4 [] σ') : Calls Try.prog 21 #[.pointer (some ⟨b, 0, none⟩)] W fun e W' => e = .returned (.bool true) ∧ W' = W := by
  have k := poff_any h.dev
  rw [hl.off] at k
  exact k
theorem a_wake {σ' : St} (h : At w W b L σ') (hl : Lost s4 [] σ') : Calls Try.prog 22 #[.pointer (some ⟨b, 0, none⟩)] W fun e W' => e = .returned (.int .i64 0) ∧ At w W' b L { σ' with off := false } := by
  refine (pwake_off h.dev hl.off).mono ?_
  rintro e W' ⟨rfl, h1, h2⟩
  refine ⟨rfl, h.step h2 ⟨h.ok.pos, h.ok.max, h.ok.len, h.ok.byte, h.ok.out, h.ok.clen, h.ok.cbyte, h.ok.few, h.ok.flp, h.ok.opsm⟩ (fun k hk => .inl hk) (X := fun k => k = b) (fun k hk => .inl hk) ?_ h.num⟩
  rw [h1]
  exact Gr.set W b 7 _ rfl
def bytes16 : List Nat := [1, 1, 0, 0, 0, 0, 0, 0, 0, 0, 0, 0, 0, 0, 0, 0]
theorem a_load {σ' : St} (h : At w W b L { σ' with off := false }) (hl : Lost s4 [] σ') : Calls Try.prog 8 #[.pointer (some ⟨b, 0, none⟩), .int .i64 0, .int .i64 16] W fun e W' => ∃ R, e = .returned (.tuple #[.slice (some ⟨R, 0, none⟩) 16 16, .int .i64 0]) ∧ OwnB W' R bytes16 ∧ Below w.heap.size w W' := by
  have hn : σ'.n = 2 := by rw [hl.n, s4_n]
  refine (callsIn_wide.1 (pload_in (at_ := 0) (n := 16) h.dev h.ok rfl (by show 0 + 16 ≤ 64 * σ'.n; rw [hn]; omega))).mono ?_
  rintro e W' ⟨R, rfl, h1, h2, h3⟩
  refine ⟨R, rfl, ?_, h.bel.trans (h3.mono h.bel.size)⟩
  have hli := hl.lines 0 (by rw [s4_n]; omega)
  have hlost : lost s4 [] 0 = line1 := by unfold lost; rw [s4_past]; rfl
  rw [hlost] at hli
  have hb : (σ'.bytes.drop 0).take 16 = bytes16 := by
    have h5 : (σ'.line 0).take 16 = line1.take 16 := by rw [hli]
    unfold St.line at h5
    rw [List.take_take] at h5
    exact h5
  have h6 : W'.heap[R]? = some (.cells (((σ'.bytes.drop 0).take 16).map B8).toArray 5 (0, 0)) := h2
  rw [hb] at h6
  exact h6
end
end Go.Proofs.Ytmgeokmgidnneaa
namespace Go.Proofs.Ytmgeokmgidnneaa
open Go.RowKit Go.Shelf
set_option linter.unusedVariables false

theorem a_eq {W : World} {R : Nat} (h : OwnB W R bytes16) : Calls Try.prog 11 #[.slice (some ⟨R, 0, none⟩) 16 16, .slice (some ⟨W.heap.size, 0, none⟩) 16 16] (W.alloc (.cells (bytes16.map B8).toArray 5)) fun e w' => e = .returned (.bool true) ∧ Below W.heap.size W w' := by
  have hA : Below W.heap.size W (W.alloc (.cells (bytes16.map B8).toArray 5)) := (Below.refl _ W).alloc (Nat.le_refl _) _
  have h1 : OwnB (W.alloc (.cells (bytes16.map B8).toArray 5)) R bytes16 := h.below hA h.lt
  have h2 : OwnB (W.alloc (.cells (bytes16.map B8).toArray 5)) W.heap.size bytes16 := heapNew W _
  have hb : ∀ x ∈ bytes16, x < 256 := by decide
  refine (eqBytes_any (some ⟨R, 0, none⟩) (some ⟨W.heap.size, 0, none⟩) 16 16 bytes16 bytes16 _ (h1.sl hb) (h2.sl hb) (by decide)).mono ?_
  rintro e w' ⟨rfl, n, rfl⟩
  exact ⟨by simp, below_drewN hA n⟩
set_option maxRecDepth 100000 in
set_option maxHeartbeats 1000000 in
theorem awake_any (w : World) : Calls Try.prog 4 #[] w fun e w' => e = .returned (.bool true) ∧ Below w.heap.size w w' := by
  have K0 := hide (a_new (w := w))
  go_enter Try.func4, Try.ntmps4
  go_wp2_with (first
    | (go_at_call 17; refine (K0.out).mono ?_; rintro e W0 ⟨b, L0, rfl, hA⟩; have K1 := hide (a_st1 hA); clear hA)
    | (go_at_call 14; refine (K1.out).mono ?_; rintro e W1 ⟨rfl, L1, hA⟩; have K2 := hide (a_fl hA); clear hA K1)
    | (go_at_call 18; refine (K2.out).mono ?_; rintro e W2 ⟨rfl, L2, hA⟩; have K3 := hide (a_st2 hA); clear hA)
    | (go_at_call 14; refine (K3.out).mono ?_; rintro e W3 ⟨rfl, L3, hA⟩; have K4 := hide (a_fen hA); clear hA)
    | (go_at_call 19; refine (K4.out).mono ?_; rintro e W4 ⟨rfl, L4, hA⟩; have K5 := hide (a_ops hA); have K6 := hide (a_con hA); clear hA)
    | (go_at_call 16; refine (K5.out).mono ?_; rintro e w' ⟨rfl, hw⟩; obtain rfl := hw.symm)
    | (go_at_call 9; refine (K6.out).mono ?_; rintro e W6 ⟨ca, cc, rfl, hA⟩; have K7 := hide (a_cr hA); clear hA)
    | (go_at_call 20; refine (K7.out).mono ?_; rintro e W7 ⟨rfl, L7, σ7, hl, hA⟩; have K8 := hide (a_off hA hl); have K9 := hide (a_wake hA hl); have HL := hide hl; clear hA hl)
    | (go_at_call 21; refine (K8.out).mono ?_; rintro e w' ⟨rfl, hw⟩; obtain rfl := hw.symm)
    | (go_at_call 22; refine (K9.out).mono ?_; rintro e W9 ⟨rfl, hA⟩; have KA := hide (a_load hA HL.out); clear hA)
    | (go_at_call 8; refine (KA.out).mono ?_; rintro e WA ⟨R, rfl, ho, hb⟩; have KE := hide (a_eq ho); have HB := hide hb; clear ho hb)
    | (go_at_call 11; refine (KE.out).mono ?_; rintro e WE ⟨rfl, he⟩; have HE := hide he; clear he))
  go_ret
  exact ⟨rfl, HB.out.trans (HE.out.mono HB.out.size)⟩
end Go.Proofs.Ytmgeokmgidnneaa
namespace Go.Proofs.Ytmgeokmgidnneaa
open Go.RowKit Go.Shelf
set_option linter.unusedVariables false

/-- A list of ints. -/
def IntsP (W : World) (a : Option Addr) (zs : List Int) : Prop := (∀ z ∈ zs, -9223372036854775808 ≤ z ∧ z ≤ 9223372036854775807) ∧ (zs = [] ∨ ∃ b off, a = some ⟨b, off, none⟩ ∧ b < W.heap.size ∧ ∀ (i : Nat) (z : Int), zs[i]? = some z → W.cell? ⟨b, off + i, none⟩ = some (.int .i64 z))
theorem IntsP.below {W W' : World} {a : Option Addr} {zs : List Int} (h : IntsP W a zs) (hB : Below W.heap.size W W') : IntsP W' a zs := by
  refine ⟨h.1, ?_⟩
  rcases h.2 with h | ⟨b, off, e, hb, hc⟩
  · exact .inl h
  · exact .inr ⟨b, off, e, Nat.lt_of_lt_of_le hb hB.size, fun i z hz => (hB.cell hb).trans (hc i z hz)⟩
theorem IntsP.at {W : World} {a : Option Addr} {zs : List Int} (h : IntsP W a zs) {i : Nat} {z : Int} (hz : zs[i]? = some z) : ∃ b off, a = some ⟨b, off, none⟩ ∧ W.cell? ⟨b, off + i, none⟩ = some (.int .i64 z) ∧ -9223372036854775808 ≤ z ∧ z ≤ 9223372036854775807 := by
  rcases h.2 with h2 | ⟨b, off, e, hb, hc⟩
  · rw [h2] at hz; simp at hz
  · have h3 := h.1 z (List.mem_of_getElem? hz)
    exact ⟨b, off, e, hc i z hz, h3.1, h3.2⟩
/-- No number below 0. -/
def nonneg (zs : List Int) : Bool := zs.all (fun z => decide (0 ≤ z))
theorem nonneg_no {zs : List Int} {i : Nat} {z : Int} (hz : zs[i]? = some z) (h : z < 0) : nonneg zs = false := by
  unfold nonneg
  rw [List.all_eq_false]
  exact ⟨z, List.mem_of_getElem? hz, by simpa using h⟩
theorem nonneg_yes {zs : List Int} (h : ∀ (i : Nat) (z : Int), i < zs.length → zs[i]? = some z → 0 ≤ z) : nonneg zs = true := by
  unfold nonneg
  rw [List.all_eq_true]
  intro z hz
  obtain ⟨i, hi⟩ := List.getElem?_of_mem hz
  simpa using h i z (List.getElem?_eq_some_iff.1 hi).1 hi
set_option maxHeartbeats 400000 in
theorem pmayI {w : World} {a : Option Addr} {zs : List Int} (cap m : Nat) (h : IntsP w a zs) (hm : zs.length = m) (hl : m ≤ 17592186043904) : Calls Try.prog 43 #[.slice a m cap] w fun e w' => e = .returned (.bool (nonneg zs)) ∧ w' = w := by
  have H := hide h
  have HM := hide hm
  obtain ⟨g5, hg5⟩ : ∃ g, nonneg zs = g := ⟨_, rfl⟩
  rw [hg5]
  have HG := hide hg5
  clear h hm hg5
  go_enter Try.func43, Try.ntmps43
  go_wp2
  go_loopw [7] (fun iv wr => ∃ j : Nat, iv = .int .i64 (j : Int) ∧ j ≤ m ∧ wr = w ∧ ∀ (i : Nat) (z : Int), i < j → zs[i]? = some z → 0 ≤ z) (fun iv _ => (m - (intOf iv).toNat))
  case atStart => exact ⟨0, rfl, Nat.zero_le _, rfl, fun i z h => by omega⟩
  case round =>
    obtain ⟨j, rfl, hj, rfl, hall⟩ := hrel
    have HALL := hide hall
    clear hall
    by_cases hlt : j < m
    · obtain ⟨k, hk⟩ : ∃ k, zs[j]? = some k := ⟨_, List.getElem?_eq_getElem (by rw [HM.out]; exact hlt)⟩
      obtain ⟨g, o, rfl, hc, hkb⟩ := H.out.at hk
      have l0 := index_int g o j m cap hlt wr
      have jI : (j : Int) < (m : Int) := by omega
      have HK := hide hk
      clear hk
      by_cases kI : k < 0
      · have hgf : g5 = false := HG.out.symm.trans (nonneg_no HK.out kI)
        subst hgf
        go_wp2
        go_ret
        exact ⟨rfl, rfl⟩
      · go_wp2
        go_roundw
        case rel => exact ⟨j + 1, int_congrP (by omega), by omega, trivial, fun i z hi hz => by
          by_cases e : i = j
          · subst e; rw [HK.out] at hz; cases hz; omega
          · exact HALL.out i z (by omega) hz⟩
        case measure => simp [intOf]; omega
    · have jI : ¬ (j : Int) < (m : Int) := by omega
      have hgt : g5 = true := HG.out.symm.trans (nonneg_yes (fun i z hi hz => HALL.out i z (by have := HM.out; omega) hz))
      subst hgt
      go_wp2
      go_ret
      exact ⟨rfl, rfl⟩
def IZ (z : Int) : Value := .int .i64 z
theorem cellOneK (W : World) (x : Value) (t : TypeId) : ∀ (j : Nat) u, [x][j]? = some u → (W.alloc (.cells #[x] t)).cell? ((⟨W.heap.size, 0, none⟩ : Addr).add j) = some u := fun j u hu => by
  have h := heap_alloc_new W (.cells #[x] t)
  match j, hu with
  | 0, hu =>
    cases hu
    have e : (⟨W.heap.size, 0, none⟩ : Addr).add 0 = ⟨W.heap.size, 0, none⟩ := by simp [Addr.add]
    rw [e, cell8 h 0]
    rfl
  | n + 1, hu => simp at hu
/-- A list of ints, in memory of its own. -/
def OwnI (W : World) (B : Nat) (v : Value) (zs : List Int) : Prop := W.ownsRow B 3 1 v zs.length (zs.map IZ)
/-- Such a list, where no number is below 0, is one of what lines keep. -/
theorem OwnI.slN {W : World} {B m : Nat} {ka : Option Addr} {kc : Nat} {zs : List Int} (h : OwnI W B (.slice ka m kc) zs) (hm : zs.length = m) (hb : ∀ z ∈ zs, -9223372036854775808 ≤ z ∧ z ≤ 9223372036854775807) (hn : nonneg zs = true) : SlN W ka (zs.map Int.toNat) := by
  unfold nonneg at hn
  rw [List.all_eq_true] at hn
  refine ⟨fun k hk => ?_, ?_⟩
  · obtain ⟨z, hz, rfl⟩ := List.mem_map.1 hk
    have := hb z hz
    omega
  · unfold OwnI at h
    rw [hm] at h
    rcases h.2 with ⟨e, h0⟩ | ⟨g, cap, cur, e, h1, h2, h3, _, h4, h5⟩
    · have : zs = [] := List.eq_nil_of_length_eq_zero (by omega)
      cases e
      subst this
      exact .inl ⟨rfl, rfl⟩
    · cases e
      refine .inr ⟨g, 0, cur, _, rfl, h2, fun j k hj => ?_⟩
      rw [List.getElem?_map] at hj
      obtain ⟨z, hz, rfl⟩ := Option.map_eq_some_iff.1 hj
      have hlt : j < zs.length := (List.getElem?_eq_some_iff.1 hz).1
      have h6 : (cur.toList.take (m * 1))[j]? = some (IZ z) := by rw [h5, List.getElem?_map, hz]; rfl
      rw [List.getElem?_take, if_pos (by omega)] at h6
      rw [Nat.zero_add, cell8 h2]
      have h0 : 0 ≤ z := by simpa using hn z (List.mem_of_getElem? hz)
      rw [show ((z.toNat : Nat) : Int) = z by omega]
      simpa [IZ] using h6
theorem OwnI.ints {W : World} {B m : Nat} {ka : Option Addr} {kc : Nat} {zs : List Int} (h : OwnI W B (.slice ka m kc) zs) (hm : zs.length = m) (hb : ∀ z ∈ zs, -9223372036854775808 ≤ z ∧ z ≤ 9223372036854775807) : IntsP W ka zs := by
  refine ⟨hb, ?_⟩
  unfold OwnI at h
  rw [hm] at h
  rcases h.2 with ⟨e, h0⟩ | ⟨g, cap, cur, e, h1, h2, h3, _, h4, h5⟩
  · exact .inl (List.eq_nil_of_length_eq_zero (by omega))
  · cases e
    refine .inr ⟨g, 0, rfl, lt_of_heap h2, fun j z hj => ?_⟩
    have hlt : j < zs.length := (List.getElem?_eq_some_iff.1 hj).1
    have h6 : (cur.toList.take (m * 1))[j]? = some (IZ z) := by rw [h5, List.getElem?_map, hj]; rfl
    rw [List.getElem?_take, if_pos (by omega)] at h6
    rw [Nat.zero_add, cell8 h2]
    simpa [IZ] using h6
theorem pcrash_no {w : World} {b : Nat} {L : Lay} {σ : St} {a : Option Addr} {zs : List Int} (cap m : Nat) (hd : DevL w b L σ) (ho : σ.off = false) (h : IntsP w a zs) (hm : zs.length = m) (hl : m ≤ 17592186043904) (hn : nonneg zs = false) : Calls Try.prog 20 #[.pointer (some ⟨b, 0, none⟩), .slice a m cap] w fun e w' => e = .returned (.int .i64 2) ∧ w' = w := by
  have ks := pstate_any hd
  rw [ho] at ks
  simp only [Bool.false_eq_true, if_false] at ks
  have km := pmayI (w := w) cap m h hm hl
  rw [hn] at km
  have KS := hide ks
  have KM := hide km
  clear ks km hd ho h hm hl hn
  go_enter Try.func20, Try.ntmps20
  go_wp2_with (first | (go_at_call 29; refine (KS.out).mono ?_; rintro e w' ⟨rfl, hw⟩; obtain rfl := hw.symm) | (go_at_call 43; refine (KM.out).mono ?_; rintro e w' ⟨rfl, hw⟩; obtain rfl := hw.symm))
  go_ret
  exact ⟨rfl, rfl⟩
end Go.Proofs.Ytmgeokmgidnneaa
namespace Go.Proofs.Ytmgeokmgidnneaa
open Go.RowKit Go.Shelf
set_option linter.unusedVariables false

theorem index_byteN (g o i len cap : Nat) (hi : i < len) (w : World) : (Instr.indexAt 36 (.slice (some ⟨g, o, none⟩) len cap) (.int .i64 (i : Int))).run Try.prog w = .ok (.pointer (some ⟨g, o + i, none⟩)) w := by
  have h := index_at (t := 36) (e := 5) (sz := 1) Try.underlying36 (by kernel_rfl) g o i len cap hi w
  rwa [Nat.mul_one] at h
set_option maxHeartbeats 400000 in
theorem pnumber {w : World} {g o len cap : Nat} {ys : List Nat} (hl : ys.length = 8) (hb : ∀ x ∈ ys, x < 256) (hc : ∀ (j x : Nat), ys[j]? = some x → w.cell? ⟨g, o + j, none⟩ = some (.int .u8 (x : Int))) (h8 : 8 ≤ len) : Calls Try.prog 15 #[.slice (some ⟨g, o, none⟩) len cap] w fun e w' => e = .returned (.int .u64 ((leV ys : Nat) : Int)) ∧ w' = w := by
  have HL := hide hl
  have HB := hide hb
  have HC := hide hc
  obtain ⟨r, hr⟩ : ∃ r, leV ys = r := ⟨_, rfl⟩
  rw [hr]
  have HR := hide hr
  clear hl hb hc hr
  go_enter Try.func15, Try.ntmps15
  go_wp2
  go_loopw [3, 4] (fun vv iv wr => ∃ q v : Nat, q ≤ 8 ∧ iv = .int .i64 ((q : Int) - 1) ∧ vv = .int .u64 (v : Int) ∧ v = leV ((ys.drop q).take (8 - q)) ∧ wr = w) (fun _ iv _ => (intOf iv + 1).toNat)
  case atStart => exact ⟨8, 0, Nat.le_refl _, rfl, rfl, by simp [leV], rfl⟩
  case round =>
    obtain ⟨q, v, hq, rfl, rfl, hv, rfl⟩ := hrel
    cases q with
    | zero =>
      have hvr : v = r := by rw [hv, ← HR.out, List.drop_zero, List.take_of_length_le (by rw [HL.out]; omega)]
      subst hvr
      clear hv
      go_wp2
      go_ret
      exact ⟨rfl, rfl⟩
    | succ i =>
      obtain ⟨x, hx⟩ : ∃ x, ys[i]? = some x := ⟨_, List.getElem?_eq_getElem (by rw [HL.out]; omega)⟩
      have hcx := HC.out i x hx
      have hx2 := HB.out x (List.mem_of_getElem? hx)
      have hst := leV_step ys i (8 - (i + 1)) x hx
      have hvb : v < 72057594037927936 := by
        rw [hv]
        have h1 := leV_lt ((ys.drop (i + 1)).take (8 - (i + 1))) (fun y hy => HB.out y (List.mem_of_mem_drop (List.mem_of_mem_take hy)))
        have h2 : ((ys.drop (i + 1)).take (8 - (i + 1))).length ≤ 7 := by rw [List.length_take]; omega
        have h3 : 256 ^ ((ys.drop (i + 1)).take (8 - (i + 1))).length ≤ 256 ^ 7 := Nat.pow_le_pow_right (by omega) h2
        have h4 : (256 : Nat) ^ 7 = 72057594037927936 := by decide
        omega
      have eI : ((i + 1 : Nat) : Int) - 1 = (i : Int) := by omega
      rw [eI]
      have ix := fun X => index_byteN g o i len cap (by omega) X
      have vI : (v : Int) < 72057594037927936 := by omega
      have xI : (x : Int) < 256 := by omega
      have iI : (i : Int) < 8 := by omega
      have HST := hide hst
      have HV := hide hv
      clear hst hv hvb hx hx2 eI h8
      go_wp2
      go_roundw
      case rel =>
        refine ⟨i, v * 256 + x, by omega, int_congrP (by omega), ?_, ?_, trivial⟩
        · rw [show ((v * 256 + x : Nat) : Int) = (v : Int) * 256 + (x : Int) by omega]
        · have h9 := HST.out
          rw [show 8 - (i + 1) + 1 = 8 - i by omega, ← HV.out] at h9
          exact h9.symm
      case measure => simp [intOf]
theorem word_bytes {σ : St} {w : Nat} : (σ.bytes.drop (8 * w)).take 8 = wd (σ.line (w / 8)) (w % 8) := by
  unfold wd St.line
  refine List.ext_getElem? fun q => ?_
  rw [List.getElem?_take, List.getElem?_take, List.getElem?_drop, List.getElem?_drop, List.getElem?_take, List.getElem?_drop]
  by_cases hq : q < 8
  · rw [if_pos hq, if_pos hq, if_pos (by omega)]
    congr 1
    omega
  · rw [if_neg hq, if_neg hq]
theorem leB_inj {u v : Nat} (hu : u < 18446744073709551616) (hv : v < 18446744073709551616) (h : leB 8 u = leB 8 v) : u = v := by
  have h1 := leV_leB 8 u
  have h2 := leV_leB 8 v
  rw [h] at h1
  have e : (256 : Nat) ^ 8 = 18446744073709551616 := by decide
  rw [e] at h1 h2
  rw [Nat.mod_eq_of_lt hu] at h1
  rw [Nat.mod_eq_of_lt hv] at h2
  omega
theorem leV_of {u : Nat} (hu : u < 18446744073709551616) : leV (leB 8 u) = u := by
  rw [leV_leB]
  have e : (256 : Nat) ^ 8 = 18446744073709551616 := by decide
  rw [e, Nat.mod_eq_of_lt hu]
/-- What a word is behind a loss of power. -/
theorem lasts_word {B : Bk} {σ σ' : St} {kp : List Nat} {w : Nat} (h : BkRel B σ) (hl : Lost σ kp σ') (hw : w < 8 * σ.n) : ∃ v, (σ'.bytes.drop (8 * w)).take 8 = leB 8 v ∧ v < 18446744073709551616 ∧ (∀ l : List Nat, B.held[w]? = some l → v ∈ l) ∧ (B.sure[w]? = some true → B.last[w]? = some v) := by
  obtain ⟨l, hld⟩ : ∃ l, B.held[w]? = some l := ⟨_, List.getElem?_eq_getElem (by rw [h.lh]; exact hw)⟩
  obtain ⟨v, hv, he⟩ := Every.lost (P := fun c => ∃ v ∈ l, wd c (w % 8) = leB 8 v) hl (show w / 8 < σ.n by omega) (h.held w l hld)
  have hv64 := h.hv l (List.mem_of_getElem? hld) v hv
  refine ⟨v, by rw [word_bytes]; exact he, hv64, fun l' hl' => by rw [hld] at hl'; cases hl'; exact hv, fun hs => ?_⟩
  obtain ⟨u, hu⟩ : ∃ u, B.last[w]? = some u := ⟨_, List.getElem?_eq_getElem (by rw [h.ll]; exact hw)⟩
  have h2 := Every.lost (P := fun c => wd c (w % 8) = leB 8 u) hl (show w / 8 < σ.n by omega) (h.sure w u hs hu)
  have h3 := leB_inj (h.lv u (List.mem_of_getElem? hu)) hv64 (h2.symm.trans he)
  rw [hu, h3]
theorem seen_word {B : Bk} {σ : St} {w v : Nat} (h : BkRel B σ) (hv : B.seen[w]? = some v) : (σ.bytes.drop (8 * w)).take 8 = leB 8 v ∧ v < 18446744073709551616 := by
  obtain ⟨h1, h2⟩ := h.seen w v hv
  exact ⟨by rw [word_bytes]; exact h2, h1⟩
end Go.Proofs.Ytmgeokmgidnneaa
