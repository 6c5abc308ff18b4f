/- Lists of lists of bytes that the call itself makes: what they hold, and what CopyRows answers. -/
import Derived.Test.YtheefdplbmneeaaHelp
namespace Go.Proofs.Ytheefdplbmneeaa
open Go.RowKit
set_option linter.unusedVariables false

theorem Try.info22 : (Try.prog.info? 22).map (fun i => (i.zero, i.size, i.bytes)) = some (some (.slice none 0 0), 1, 24) := by kernel_rfl

theorem ownsRow_below {W W' : World} {base : Nat} {e : TypeId} {size : Nat} {v : Value} {k : Nat} {xs : List Value} (h : W.ownsRow base e size v k xs) (hb : Below W.heap.size W W') : W'.ownsRow base e size v k xs := by
  refine ⟨h.1, ?_⟩
  rcases h.2 with h2 | ⟨g, cap, cur, hv, hg, hh, r⟩
  · exact .inl h2
  · exact .inr ⟨g, cap, cur, hv, hg, (hb.block g (Array.getElem?_eq_some_iff.1 hh).1).trans hh, r⟩

/-- Bytes that lie ahead of the call's own memory, or in a block of bytes. -/
def Piece (W : World) (base : Nat) (a : Option Addr) (bs : List Nat) : Prop :=
  bs = [] ∨ ∃ b off, a = some ⟨b, off, none⟩ ∧ b < W.heap.size ∧ (b < base ∨ ∃ cur fr, W.heap[b]? = some (.cells cur 5 fr)) ∧ Seg W b off bs

theorem Piece.sl {W : World} {base : Nat} {a : Option Addr} {bs : List Nat} (h : Piece W base a bs) : Sl W a bs := by
  rcases h with h | ⟨b, off, ha, hl, _, hs⟩
  · exact .inl h
  · exact .inr ⟨b, off, ha, hl, hs⟩
theorem Piece.of_block {W W' : World} {base : Nat} {a : Option Addr} {bs : List Nat} (h : Piece W base a bs) (hs : W.heap.size ≤ W'.heap.size) (hk : ∀ b, b < W.heap.size → (b < base ∨ ∃ cur fr, W.heap[b]? = some (.cells cur 5 fr)) → W'.heap[b]? = W.heap[b]?) : Piece W' base a bs := by
  rcases h with h | ⟨b, off, ha, hl, ht, hg⟩
  · exact .inl h
  · have e := hk b hl ht
    refine .inr ⟨b, off, ha, Nat.lt_of_lt_of_le hl hs, ?_, fun i x hx => ⟨(World.cell?_of_block (w := W) (a := ⟨b, off + i, none⟩) e).trans (hg i x hx).1, (hg i x hx).2⟩⟩
    rcases ht with ht | ⟨cur, fr, ht⟩
    · exact .inl ht
    · exact .inr ⟨cur, fr, e.trans ht⟩
theorem Piece.below {W W' : World} {base : Nat} {a : Option Addr} {bs : List Nat} (h : Piece W base a bs) (hb : Below W.heap.size W W') : Piece W' base a bs :=
  h.of_block hb.size fun b hl _ => hb.block b hl
theorem Piece.grown {W W' : World} {base : Nat} {a : Option Addr} {bs : List Nat} {v : Value} {k : Nat} {xs : List Value} (h : Piece W base a bs) (hown : W.ownsRow base 22 1 v k xs) (hg : W.grownBy W' v.ownBlock) : Piece W' base a bs := by
  refine h.of_block hg.size fun b hl ht => hg.block b hl fun e => ?_
  rcases hown.2 with ⟨rfl, _⟩ | ⟨g, cap, cur, rfl, hb, hh, _⟩
  · simp [Value.ownBlock] at e
  · obtain rfl : b = g := by simpa [Value.ownBlock] using e
    rcases ht with ht | ⟨c2, fr, ht⟩
    · omega
    · rw [hh] at ht; simp at ht
theorem OwnB.piece {W : World} {g : Nat} {bs : List Nat} (h : OwnB W g bs) (base : Nat) (hx : ∀ x ∈ bs, x < 256) : Piece W base (some ⟨g, 0, none⟩) bs :=
  .inr ⟨g, 0, rfl, h.lt, .inr ⟨_, _, h⟩, fun i x hi => ⟨by rw [Nat.zero_add]; exact h.cell i x hi, hx x (List.mem_of_getElem? hi)⟩⟩

/-- Cells that hold slices of these bytes. -/
def Ties (W : World) (base : Nat) (cs : List Value) (rs : List (List Nat)) : Prop :=
  cs.length = rs.length ∧ ∀ (i : Nat) (r : List Nat), rs[i]? = some r → ∃ ai ci, cs[i]? = some (.slice ai r.length ci) ∧ Piece W base ai r ∧ r.length ≤ maxLen

theorem Ties.nil (W : World) (base : Nat) : Ties W base [] [] := ⟨rfl, fun i r h => by simp at h⟩
theorem Ties.below {W W' : World} {base : Nat} {cs : List Value} {rs : List (List Nat)} (h : Ties W base cs rs) (hb : Below W.heap.size W W') : Ties W' base cs rs :=
  ⟨h.1, fun i r hr => by obtain ⟨ai, ci, h1, h2, h3⟩ := h.2 i r hr; exact ⟨ai, ci, h1, h2.below hb, h3⟩⟩
theorem Ties.grown {W W' : World} {base : Nat} {cs : List Value} {rs : List (List Nat)} {v : Value} {k : Nat} {xs : List Value} (h : Ties W base cs rs) (hown : W.ownsRow base 22 1 v k xs) (hg : W.grownBy W' v.ownBlock) : Ties W' base cs rs :=
  ⟨h.1, fun i r hr => by obtain ⟨ai, ci, h1, h2, h3⟩ := h.2 i r hr; exact ⟨ai, ci, h1, h2.grown hown hg, h3⟩⟩
theorem Ties.snoc {W : World} {base : Nat} {cs : List Value} {rs : List (List Nat)} (h : Ties W base cs rs) {a : Option Addr} {r : List Nat} (c : Nat) (hp : Piece W base a r) (hl : r.length ≤ maxLen) : Ties W base (cs ++ [.slice a r.length c]) (rs ++ [r]) := by
  refine ⟨by simp [h.1], fun i r' hr => ?_⟩
  by_cases hi : i < rs.length
  · rw [List.getElem?_append_left hi] at hr
    rw [List.getElem?_append_left (by rw [h.1]; exact hi)]
    exact h.2 i r' hr
  · rw [List.getElem?_append_right (by omega)] at hr
    rw [List.getElem?_append_right (by rw [h.1]; omega), h.1]
    have h0 : i - rs.length = 0 := by
      have := (List.getElem?_eq_some_iff.1 hr).1
      simp at this
      omega
    rw [h0] at hr ⊢
    simp at hr
    subst hr
    exact ⟨a, c, by simp, hp, hl⟩
theorem slr_of_owns {W : World} {base : Nat} {v : Value} {cs : List Value} {rs : List (List Nat)} (h : W.ownsRow base 22 1 v cs.length cs) (ht : Ties W base cs rs) : ∃ a cap, v = .slice a rs.length cap ∧ SlR W a rs := by
  rcases h.2 with ⟨rfl, h0⟩ | ⟨g, cap, cur, rfl, _, hg, hn, _, hs, hc⟩
  · rw [ht.1] at h0
    exact ⟨none, 0, by rw [h0], .inl (List.eq_nil_of_length_eq_zero h0)⟩
  · refine ⟨_, cap, by rw [ht.1], .inr ⟨g, 0, rfl, (Array.getElem?_eq_some_iff.1 hg).1, fun i r hr => ?_⟩⟩
    obtain ⟨ai, ci, h1, h2, h3⟩ := ht.2 i r hr
    refine ⟨ai, ci, ?_, h2.sl, h3⟩
    have hi : i < cs.length := (List.getElem?_eq_some_iff.1 h1).1
    rw [← hc, List.getElem?_take, if_pos (by omega)] at h1
    simp only [Nat.zero_add, World.cell?, hg]
    simpa using h1

end Go.Proofs.Ytheefdplbmneeaa
