/- The statements' played of layer 8: a device and its book, in memory. -/
import Derived.Test.YtmgeokmgidnneaaPRow
import Derived.Test.YtmgeokmgidnneaaPBkM
import Derived.Test.YtmgeokmgidnneaaPWin
namespace Go.Proofs.Ytmgeokmgidnneaa
open Go.RowKit Go.Shelf
set_option linter.unusedVariables false

def U64 (x : Nat) : Value := .int .u64 (x : Int)
def MI (x : Nat) : Value := .int .i64 (x : Int)
/-- Where the rows of a book lie. -/
structure Kl where
  sv : Value
  hv : Value
  lv : Value
  uv : Value
  mv : Value
  hs : List Value
def innerOf (K : Kl) (B : Bk) (i : Nat) : Option Rw := match K.hs[i]?, B.held[i]? with
  | some v, some l => some ⟨47, v, l.map U64⟩
  | _, _ => none
def rowsOf (K : Kl) (B : Bk) : Key → Option Rw
  | .seen => some ⟨47, K.sv, B.seen.map U64⟩
  | .held => some ⟨29, K.hv, K.hs⟩
  | .last => some ⟨47, K.lv, B.last.map U64⟩
  | .sure => some ⟨4, K.uv, B.sure.map Value.bool⟩
  | .marks => some ⟨3, K.mv, B.marks.map MI⟩
  | .inner i => innerOf K B i
structure PlL (W : World) (p b : Nat) (K : Kl) (B : Bk) : Prop where
  blk : W.heap[p]? = some (.cells #[.pointer (some ⟨b, 0, none⟩), K.sv, K.hv, K.lv, K.uv, K.mv] 34 (0, 0))
  own : Own W (rowsOf K B)
  hl : K.hs.length = B.held.length
def FootP (p : Nat) (K : Kl) (B : Bk) (k : Nat) : Prop := k = p ∨ FootR (rowsOf K B) k
section
variable {W W' : World} {p b : Nat} {K : Kl} {B : Bk}
theorem Own.cellAt {R : Key → Option Rw} (h : Own W R) {k : Key} {r : Rw} (hk : R k = some r) {j : Nat} {x : Value} (hx : r.xs[j]? = some x) : ∃ g cap, r.v = .slice (some ⟨g, 0, none⟩) r.xs.length cap ∧ W.cell? ⟨g, j, none⟩ = some x ∧ (∀ i, W.frozen? ⟨g, i, none⟩ = false) ∧ FootR R g := by
  have hlt : j < r.xs.length := (List.getElem?_eq_some_iff.1 hx).1
  obtain ⟨g, cap, cur, e, h1, h2, h3, h4⟩ := h.at hk (by omega)
  exact ⟨g, cap, e, (cell8 h1 j).trans (h3 j x hx), fun i => froz8 h1 i, h4⟩
theorem PlL.lt (h : PlL W p b K B) {k : Nat} (hk : FootP p K B k) : k < W.heap.size := by
  rcases hk with rfl | hk
  · exact lt_of_heap h.blk
  · obtain ⟨c, t, hc, _⟩ := h.own.lt hk
    exact lt_of_heap hc
theorem PlL.ne (h : PlL W p b K B) {g : Nat} (hg : FootR (rowsOf K B) g) : g ≠ p := fun e => by
  obtain ⟨c, t, hc, ht⟩ := h.own.lt hg
  subst e
  rw [h.blk] at hc
  cases hc
  rcases ht with ht | ht | ht | ht <;> exact absurd ht (by decide)
theorem PlL.keep (h : PlL W p b K B) (hk : ∀ k, FootP p K B k → W'.heap[k]? = W.heap[k]?) : PlL W' p b K B := ⟨(hk p (.inl rfl)).trans h.blk, h.own.keep (fun g hg => hk g (.inr hg)), h.hl⟩
theorem PlL.below (h : PlL W p b K B) (hB : Below W.heap.size W W') : PlL W' p b K B := h.keep fun k hk => hB.block k (h.lt hk)
theorem PlL.gr {X : Nat → Prop} (h : PlL W p b K B) (hg : Gr X W W') (hx : ∀ k, FootP p K B k → ¬ X k) : PlL W' p b K B := h.keep fun k hk => hg.block (h.lt hk) (hx k hk)
theorem PlL.c (h : PlL W p b K B) (j : Nat) : W.cell? ⟨p, j, none⟩ = (#[.pointer (some ⟨b, 0, none⟩), K.sv, K.hv, K.lv, K.uv, K.mv] : Array Value)[j]? := cell8 h.blk j
/-- A row's cell has been written. -/
theorem PlL.set {k : Key} {r : Rw} {g n cap j : Nat} {u : Value} {B' : Bk} (h : PlL W p b K B) (hk : rowsOf K B k = some r) (hv : r.v = .slice (some ⟨g, 0, none⟩) n cap) (hn : r.xs.length = n) (hr : ∀ q, rowsOf K B' q = upd (rowsOf K B) k ⟨r.t, r.v, r.xs.set j u⟩ q) (hl : B'.held.length = B.held.length) : PlL (W.setCell ⟨g, j, none⟩ u) p b K B' := by
  have hf : FootR (rowsOf K B) g := ⟨k, r, hk, by rw [hv]; rfl⟩
  refine ⟨(heap_set_ne W g j p u (fun e => h.ne hf e.symm)).trans h.blk, (h.own.set hk hv hn).congr hr, by rw [hl]; exact h.hl⟩
theorem PlL.set_foot {k : Key} {r : Rw} {j : Nat} {u : Value} {B' : Bk} (hk : rowsOf K B k = some r) (hr : ∀ q, rowsOf K B' q = upd (rowsOf K B) k ⟨r.t, r.v, r.xs.set j u⟩ q) {q : Nat} (hq : FootP p K B' q) : FootP p K B q := by
  rcases hq with h | h
  · exact .inl h
  · refine .inr ?_
    have e : rowsOf K B' = upd (rowsOf K B) k ⟨r.t, r.v, r.xs.set j u⟩ := funext hr
    rw [e] at h
    obtain ⟨q', t, hq', hb⟩ := h
    unfold upd at hq'
    by_cases e2 : q' = k
    · rw [if_pos e2] at hq'; cases hq'; exact ⟨k, r, hk, hb⟩
    · rw [if_neg e2] at hq'; exact ⟨q', t, hq', hb⟩
theorem index_u64 (g o i len cap : Nat) (hi : i < len) (w : World) : (Instr.indexAt 29 (.slice (some ⟨g, o, none⟩) len cap) (.int .i64 (i : Int))).run Try.prog w = .ok (.pointer (some ⟨g, o + i, none⟩)) w := by
  have h := index_at (t := 29) (e := 47) (sz := 1) Try.underlying29 (by kernel_rfl) g o i len cap hi w
  rwa [Nat.mul_one] at h
theorem index_rows (g o i len cap : Nat) (hi : i < len) (w : World) : (Instr.indexAt 30 (.slice (some ⟨g, o, none⟩) len cap) (.int .i64 (i : Int))).run Try.prog w = .ok (.pointer (some ⟨g, o + i, none⟩)) w := by
  have h := index_at (t := 30) (e := 29) (sz := 1) Try.underlying30 (by kernel_rfl) g o i len cap hi w
  rwa [Nat.mul_one] at h
theorem index_bool (g o i len cap : Nat) (hi : i < len) (w : World) : (Instr.indexAt 31 (.slice (some ⟨g, o, none⟩) len cap) (.int .i64 (i : Int))).run Try.prog w = .ok (.pointer (some ⟨g, o + i, none⟩)) w := by
  have h := index_at (t := 31) (e := 4) (sz := 1) Try.underlying31 (by kernel_rfl) g o i len cap hi w
  rwa [Nat.mul_one] at h
theorem index_ints (g o i len cap : Nat) (hi : i < len) (w : World) : (Instr.indexAt 32 (.slice (some ⟨g, o, none⟩) len cap) (.int .i64 (i : Int))).run Try.prog w = .ok (.pointer (some ⟨g, o + i, none⟩)) w := by
  have h := index_at (t := 32) (e := 3) (sz := 1) Try.underlying32 (by kernel_rfl) g o i len cap hi w
  rwa [Nat.mul_one] at h
end
/-- What a step that is handed in is. -/
structure StpR where
  k : Int
  a : Int
  n : Int
  v : Nat
  da : Option Addr
  dl : Nat
  dc : Nat
  ka : Option Addr
  kl : Nat
  kc : Nat
  aa : Option Addr
  al : Nat
  ac : Nat
def StpR.vals (s : StpR) : Array Value := #[.int .i64 s.k, .int .i64 s.a, .int .i64 s.n, .int .u64 (s.v : Int), .slice s.da s.dl s.dc, .slice s.ka s.kl s.kc, .slice s.aa s.al s.ac]
structure StpR.Ok (s : StpR) : Prop where
  lo : -9223372036854775808 ≤ s.a
  hi : s.a ≤ 9223372036854775807
  v : s.v < 18446744073709551616
end Go.Proofs.Ytmgeokmgidnneaa
