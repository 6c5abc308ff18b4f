/- Lists of lists of bytes that the call itself makes: what they hold, and what CopyRows answers. -/
import Derived.Test.YtjbfbdnibnmfgaaHelp
namespace Go.Proofs.Ytjbfbdnibnmfgaa
open Go.RowKit
set_option linter.unusedVariables false

theorem Try.info22 : (Try.prog.info? 28).map (fun i => (i.zero, i.size, i.bytes)) = some (some (.slice none 0 0), 1, 24) := by kernel_rfl

theorem ownsRow_below {W W' : World} {base : Nat} {e : TypeId} {size : Nat} {v : Value} {k : Nat} {xs : List Value} (h : W.ownsRow base e size v k xs) (hb : Below W.heap.size W W') : W'.ownsRow base e size v k xs := by
  refine ⟨h.1, ?_⟩
  rcases h.2 with h2 | ⟨g, cap, cur, hv, hg, hh, r⟩
  · exact .inl h2
  · exact .inr ⟨g, cap, cur, hv, hg, (hb.block g (Array.getElem?_eq_some_iff.1 hh).1).trans hh, r⟩

/-- Bytes that lie ahead of the call's own memory, or in a block of bytes. -/
def Piece (W : World) (base : Nat) (a : Option Addr) (bs : List Nat) : Prop :=
  bs = [] ∨ ∃ b off, a = some ⟨b, off, none⟩ ∧ b < W.heap.size ∧ (b < base ∨ ∃ cur fr, W.heap[b]? = some (.cells cur 5 fr)) ∧ Seg W b off bs

theorem Piece.sl {W : World} {base : Nat} {a : Option Addr} {bs : List Nat} (h : Piece W base a bs) : Sl W a bs := by
  rcases h with h | ⟨b, off, ha, hl, _, hs⟩
  · exact .inl h
  · exact .inr ⟨b, off, ha, hl, hs⟩
theorem Piece.of_block {W W' : World} {base : Nat} {a : Option Addr} {bs : List Nat} (h : Piece W base a bs) (hs : W.heap.size ≤ W'.heap.size) (hk : ∀ b, b < W.heap.size → (b < base ∨ ∃ cur fr, W.heap[b]? = some (.cells cur 5 fr)) → W'.heap[b]? = W.heap[b]?) : Piece W' base a bs := by
  rcases h with h | ⟨b, off, ha, hl, ht, hg⟩
  · exact .inl h
  · have e := hk b hl ht
    refine .inr ⟨b, off, ha, Nat.lt_of_lt_of_le hl hs, ?_, fun i x hx => ⟨(World.cell?_of_block (w := W) (a := ⟨b, off + i, none⟩) e).trans (hg i x hx).1, (hg i x hx).2⟩⟩
    rcases ht with ht | ⟨cur, fr, ht⟩
    · exact .inl ht
    · exact .inr ⟨cur, fr, e.trans ht⟩
theorem Piece.below {W W' : World} {base : Nat} {a : Option Addr} {bs : List Nat} (h : Piece W base a bs) (hb : Below W.heap.size W W') : Piece W' base a bs :=
  h.of_block hb.size fun b hl _ => hb.block b hl
theorem Piece.grown {W W' : World} {base : Nat} {a : Option Addr} {bs : List Nat} {v : Value} {k : Nat} {xs : List Value} (h : Piece W base a bs) (hown : W.ownsRow base 28 1 v k xs) (hg : W.grownBy W' v.ownBlock) : Piece W' base a bs := by
  refine h.of_block hg.size fun b hl ht => hg.block b hl fun e => ?_
  rcases hown.2 with ⟨rfl, _⟩ | ⟨g, cap, cur, rfl, hb, hh, _⟩
  · simp [Value.ownBlock] at e
  · obtain rfl : b = g := by simpa [Value.ownBlock] using e
    rcases ht with ht | ⟨c2, fr, ht⟩
    · omega
    · rw [hh] at ht; simp at ht
theorem OwnB.piece {W : World} {g : Nat} {bs : List Nat} (h : OwnB W g bs) (base : Nat) (hx : ∀ x ∈ bs, x < 256) : Piece W base (some ⟨g, 0, none⟩) bs :=
  .inr ⟨g, 0, rfl, h.lt, .inr ⟨_, _, h⟩, fun i x hi => ⟨by rw [Nat.zero_add]; exact h.cell i x hi, hx x (List.mem_of_getElem? hi)⟩⟩

/-- Cells that hold slices of these bytes. -/
def Ties (W : World) (base : Nat) (cs : List Value) (rs : List (List Nat)) : Prop :=
  cs.length = rs.length ∧ ∀ (i : Nat) (r : List Nat), rs[i]? = some r → ∃ ai ci, cs[i]? = some (.slice ai r.length ci) ∧ Piece W base ai r ∧ r.length ≤ maxLen

theorem Ties.nil (W : World) (base : Nat) : Ties W base [] [] := ⟨rfl, fun i r h => by simp at h⟩
theorem Ties.below {W W' : World} {base : Nat} {cs : List Value} {rs : List (List Nat)} (h : Ties W base cs rs) (hb : Below W.heap.size W W') : Ties W' base cs rs :=
  ⟨h.1, fun i r hr => by obtain ⟨ai, ci, h1, h2, h3⟩ := h.2 i r hr; exact ⟨ai, ci, h1, h2.below hb, h3⟩⟩
theorem Ties.grown {W W' : World} {base : Nat} {cs : List Value} {rs : List (List Nat)} {v : Value} {k : Nat} {xs : List Value} (h : Ties W base cs rs) (hown : W.ownsRow base 28 1 v k xs) (hg : W.grownBy W' v.ownBlock) : Ties W' base cs rs :=
  ⟨h.1, fun i r hr => by obtain ⟨ai, ci, h1, h2, h3⟩ := h.2 i r hr; exact ⟨ai, ci, h1, h2.grown hown hg, h3⟩⟩
theorem Ties.snoc {W : World} {base : Nat} {cs : List Value} {rs : List (List Nat)} (h : Ties W base cs rs) {a : Option Addr} {r : List Nat} (c : Nat) (hp : Piece W base a r) (hl : r.length ≤ maxLen) : Ties W base (cs ++ [.slice a r.length c]) (rs ++ [r]) := by
  refine ⟨by simp [h.1], fun i r' hr => ?_⟩
  by_cases hi : i < rs.length
  · rw [List.getElem?_append_left hi] at hr
    rw [List.getElem?_append_left (by rw [h.1]; exact hi)]
    exact h.2 i r' hr
  · rw [List.getElem?_append_right (by omega)] at hr
    rw [List.getElem?_append_right (by rw [h.1]; omega), h.1]
    have h0 : i - rs.length = 0 := by
      have := (List.getElem?_eq_some_iff.1 hr).1
      simp at this
      omega
    rw [h0] at hr ⊢
    simp at hr
    subst hr
    exact ⟨a, c, by simp, hp, hl⟩
theorem slr_of_owns {W : World} {base : Nat} {v : Value} {cs : List Value} {rs : List (List Nat)} (h : W.ownsRow base 28 1 v cs.length cs) (ht : Ties W base cs rs) : ∃ a cap, v = .slice a rs.length cap ∧ SlR W a rs := by
  rcases h.2 with ⟨rfl, h0⟩ | ⟨g, cap, cur, rfl, _, hg, hn, _, hs, hc⟩
  · rw [ht.1] at h0
    exact ⟨none, 0, by rw [h0], .inl (List.eq_nil_of_length_eq_zero h0)⟩
  · refine ⟨_, cap, by rw [ht.1], .inr ⟨g, 0, rfl, (Array.getElem?_eq_some_iff.1 hg).1, fun i r hr => ?_⟩⟩
    obtain ⟨ai, ci, h1, h2, h3⟩ := ht.2 i r hr
    refine ⟨ai, ci, ?_, h2.sl, h3⟩
    have hi : i < cs.length := (List.getElem?_eq_some_iff.1 h1).1
    rw [← hc, List.getElem?_take, if_pos (by omega)] at h1
    simp only [Nat.zero_add, World.cell?, hg]
    simpa using h1

set_option maxHeartbeats 400000 in
theorem copyRows_any (a : Option Addr) (cap : Nat) (rs : List (List Nat)) (w : World) (hg : SlR w a rs) (hl : rs.length ≤ 1000000000000) (hr : ∀ r ∈ rs, r.length ≤ 140737488355328) :
    Calls Try.prog 69 #[.slice a rs.length cap] w fun e w' => ∃ v cs, e = .returned v ∧ w'.ownsRow w.heap.size 28 1 v cs.length cs ∧ Ties w' w.heap.size cs rs ∧ Below w.heap.size w w' := by
  obtain ⟨i0, hi, hz0, hz1, hz2⟩ := info_parts Try.info22
  go_enter Try.func69, Try.ntmps69
  go_wp2
  go_loopw [3, 4] (fun v i wr => ∃ (k : Nat) (cs : List Value), k ≤ rs.length ∧ i = .int .i64 k ∧ wr.ownsRow w.heap.size 28 1 v cs.length cs ∧ Ties wr w.heap.size cs (rs.take k) ∧ Below w.heap.size w wr)
    (fun _ i _ => rs.length - (intOf i).toNat)
  case atStart => exact ⟨0, [], by omega, rfl, World.ownsRow_nil _ _ _ _, Ties.nil _ _, Below.refl _ _⟩
  case round =>
    obtain ⟨k, cs, hk, rfl, hown, ht, hB⟩ := hrel
    have HT := hide ht
    have HB := hide hB
    have hcs : cs.length = k := by have := ht.1; rw [List.length_take] at this; omega
    have HCS := hide hcs
    clear ht hB hcs
    by_cases hlt : k < rs.length
    · obtain ⟨r, hrk⟩ : ∃ r, rs[k]? = some r := ⟨_, List.getElem?_eq_getElem hlt⟩
      obtain ⟨b, off, rfl, hbl, hseg⟩ : ∃ b off, a = some ⟨b, off, none⟩ ∧ b < w.heap.size ∧ ∀ (i : Nat) (r : List Nat), rs[i]? = some r → ∃ ai cap, w.cell? ⟨b, off + i, none⟩ = some (.slice ai r.length cap) ∧ Sl w ai r ∧ r.length ≤ maxLen := by
        rcases hg with rfl | h
        · simp at hlt
        · exact h
      obtain ⟨ai, ci, hc0, hsl, hm⟩ := hseg k r hrk
      have hc : wr.cell? ⟨b, off + k, none⟩ = some (.slice ai r.length ci) := (HB.out.cell (p := ⟨b, off + k, none⟩) hbl).trans hc0
      have HS : Hid (Sl wr ai r) := hsl.below HB.out
      have hrl := hr r (List.mem_of_getElem? hrk)
      have HX := hide hrk
      have HO := hide hown
      have HM := hide hm
      have hsz := HB.out.size
      have HRR := hide hr
      clear hrk hc0 hsl hm hseg hg hown hr
      go_wp2_with (first | (go_at_call 17; refine (copyBytes_any ai ci r wr HS.out hrl).mono ?_; rintro e w2 ⟨rfl, hO2, hB2⟩; have hown2 := ownsRow_below HO.out hB2; have hs2 := hB2.size) | (at_builtin; refine wpList_append_own _ rfl _ _ 33 rfl w.heap.size 28 i0 (.slice none 0 0) 1 24 Try.underlying33 hi hz0 hz1 hz2 rfl (by omega) _ _ _ rfl (hown2.alloc _) ⟨w2.heap.size, 0, none⟩ 1 1 [.slice (some ⟨wr.heap.size, 0, none⟩) r.length r.length] rfl rfl (cell_one_new _ _ _) (by simp [Value.oneCell']) (by have := HCS.out; unfold maxLen; omega) (by have := HCS.out; omega) (by simp; omega) ?_; intro v3 w3 hown3 hgrow3 _))
      have hA : Below w2.heap.size w2 (w2.alloc (.cells #[.slice (some ⟨wr.heap.size, 0, none⟩) r.length r.length] 28)) := (Below.refl _ _).alloc (Nat.le_refl _) _
      have hT3 : Ties w3 w.heap.size (cs ++ [.slice (some ⟨wr.heap.size, 0, none⟩) r.length r.length]) (rs.take k ++ [r]) :=
        (((HT.out.below hB2).snoc r.length (hO2.piece w.heap.size HS.out.lt) HM.out).below hA).grown (hown2.alloc _) hgrow3
      have HT3 := hide hT3
      have HO3 := hide hown3
      have HB3 : Hid (Below w.heap.size w w3) := ((bseq HB.out hB2).alloc (by omega) _).grown hgrow3 (by simp; omega) (fun j e => (hown2.lt j e).1)
      clear hA hT3 hown3 hgrow3 hown2 hO2 hB2
      go_wp2
      go_roundw
      case rel =>
        refine ⟨k + 1, cs ++ [.slice (some ⟨wr.heap.size, 0, none⟩) r.length r.length], by omega, by go_num, by simpa using HO3.out, ?_, HB3.out⟩
        rw [List.take_add_one, HX.out]
        exact HT3.out
      case measure => simp [intOf]; omega
    · have hkk : k = rs.length := by omega
      subst hkk
      have HO := hide hown
      clear hown hg hr
      go_wp2
      go_ret
      have h1 := HT.out
      rw [List.take_length] at h1
      exact ⟨_, cs, rfl, HO.out, h1, HB.out⟩
end Go.Proofs.Ytjbfbdnibnmfgaa
