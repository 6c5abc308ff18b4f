/- What the two lists of BitsPuts hold from round to round: those that the program has put, each in a block of its own, and those that the document asks for. -/
import Derived.Test.YtjkglimbmfgllaaApartW
namespace Go.Proofs.Ytjkglimbmfgllaa.bitsPuts
open Go.RowKit Go.Proofs.Ytjkglimbmfgllaa
set_option linter.unusedVariables false

theorem cell_two_new (w : World) (x y : Value) (t : TypeId) : ∀ j u, [x, y][j]? = some u → (w.alloc (.cells #[x, y] t)).cell? ((⟨w.heap.size, 0, none⟩ : Addr).add j) = some u := by
  intro j u hj
  match j, hj with
  | 0, hj => simp at hj; subst hj; simp [Addr.add]
  | 1, hj => simp at hj; subst hj; simp [Addr.add]
  | n + 2, hj => simp at hj
theorem ownsRow_beside {W W' : World} {base base' : Nat} {e : TypeId} {size : Nat} {v v' : Value} {k : Nat} {xs : List Value} (h : W.ownsRow base e size v k xs) (hg : W.grownBy W' v'.ownBlock) (hd : ∀ q, v.ownBlock = some q → v'.ownBlock = some q → False) : W'.ownsRow base e size v k xs := by
  refine ⟨h.1, ?_⟩
  rcases h.2 with h2 | ⟨g, cap, cur, hv, hb, hh, r⟩
  · exact .inl h2
  · exact .inr ⟨g, cap, cur, hv, hb, (hg.block g (Array.getElem?_eq_some_iff.1 hh).1 (fun e => hd g (by rw [hv]; rfl) e.symm)).trans hh, r⟩
theorem ownB_beside {W W' : World} {base g : Nat} {bs : List Nat} {v : Value} {k : Nat} {xs : List Value} (h : OwnB W g bs) (hown : W.ownsRow base 22 1 v k xs) (hg : W.grownBy W' v.ownBlock) : OwnB W' g bs := by
  refine h.of_block (hg.block g h.lt fun e => ?_)
  rcases hown.2 with ⟨rfl, _⟩ | ⟨g', cap, cur, rfl, hb, hh, _⟩
  · simp [Value.ownBlock] at e
  · obtain rfl : g = g' := by simpa [Value.ownBlock] using e
    unfold OwnB at h
    rw [hh] at h
    simp at h

def row (bs : List Nat) (v s : Nat) : List Nat := bs ++ leB s v
theorem row_length (bs : List Nat) (v s : Nat) : (row bs v s).length = bs.length + s := by simp [row, leB_length]
theorem row_lt {bs : List Nat} (h : ∀ x ∈ bs, x < 256) (v s : Nat) : ∀ x ∈ row bs v s, x < 256 := by
  intro x hx
  rcases List.mem_append.1 hx with h1 | h1
  · exact h x h1
  · exact leB_lt s v x h1
def cellOf (n g s : Nat) : Value := .slice (some ⟨g, 0, none⟩) (n + s) (n + s)

/-- The list that was put: blocks of their own, one each. -/
def StA (B : Nat) (bs : List Nat) (v : Nat) (W : World) (S : List Nat) (va : Value) : Prop :=
  ∃ gs : List Nat, gs.length = S.length ∧ gs.Nodup ∧ (∀ g ∈ gs, B ≤ g) ∧ (∀ (i g s : Nat), gs[i]? = some g → S[i]? = some s → OwnB W g (row bs v s)) ∧
    W.ownsRow B 22 1 va S.length (List.zipWith (cellOf bs.length) gs S)
/-- The list that is asked for. -/
def StW (B : Nat) (bs : List Nat) (v : Nat) (W : World) (S : List Nat) (vw : Value) : Prop :=
  ∃ ds : List Value, ds.length = S.length ∧ W.ownsRow B 22 1 vw ds.length ds ∧ Ties W B ds (S.map (row bs v))
def Dis (va vw : Value) : Prop := ∀ q, va.ownBlock = some q → vw.ownBlock = some q → False

theorem gs_lt {W : World} {bs : List Nat} {v : Nat} {S gs : List Nat} (hl : gs.length = S.length) (h : ∀ (i g s : Nat), gs[i]? = some g → S[i]? = some s → OwnB W g (row bs v s)) : ∀ g ∈ gs, g < W.heap.size := by
  intro g hg
  obtain ⟨i, hi⟩ := List.getElem?_of_mem hg
  have h1 := (List.getElem?_eq_some_iff.1 hi).1
  exact (h i g _ hi (List.getElem?_eq_getElem (by omega))).lt

theorem StA.below {B : Nat} {bs : List Nat} {v : Nat} {W W' : World} {S : List Nat} {va : Value} (h : StA B bs v W S va) (hb : Below W.heap.size W W') : StA B bs v W' S va := by
  obtain ⟨gs, h1, h2, h3, h4, h5⟩ := h
  exact ⟨gs, h1, h2, h3, fun i g s hg hs => (h4 i g s hg hs).below hb (h4 i g s hg hs).lt, ownsRow_below h5 hb⟩
theorem StW.below {B : Nat} {bs : List Nat} {v : Nat} {W W' : World} {S : List Nat} {vw : Value} (h : StW B bs v W S vw) (hb : Below W.heap.size W W') : StW B bs v W' S vw := by
  obtain ⟨ds, h0, h1, h2⟩ := h
  exact ⟨ds, h0, ownsRow_below h1 hb, h2.below hb⟩
theorem StA.beside {B : Nat} {bs : List Nat} {v : Nat} {W W' : World} {S : List Nat} {va vw : Value} {k : Nat} {xs : List Value} (h : StA B bs v W S va) (hown : W.ownsRow B 22 1 vw k xs) (hg : W.grownBy W' vw.ownBlock) (hd : Dis va vw) : StA B bs v W' S va := by
  obtain ⟨gs, h1, h2, h3, h4, h5⟩ := h
  exact ⟨gs, h1, h2, h3, fun i g s hg' hs => ownB_beside (h4 i g s hg' hs) hown hg, ownsRow_beside (base' := B) h5 hg hd⟩
theorem StW.beside {B : Nat} {bs : List Nat} {v : Nat} {W W' : World} {S : List Nat} {va vw : Value} {k : Nat} {xs : List Value} (h : StW B bs v W S vw) (hown : W.ownsRow B 22 1 va k xs) (hg : W.grownBy W' va.ownBlock) (hd : Dis va vw) : StW B bs v W' S vw := by
  obtain ⟨ds, h0, h1, h2⟩ := h
  exact ⟨ds, h0, ownsRow_beside (base' := B) h1 hg (fun q e1 e2 => hd q e2 e1), h2.grown hown hg⟩
theorem Dis.next {va va' vw : Value} {H : Nat} {W : World} {B k : Nat} {e : TypeId} {xs : List Value} (h : Dis va vw) (hat : va'.ownBlock = va.ownBlock ∨ va'.ownBlock = some H) (hw : W.ownsRow B e 1 vw k xs) (hH : W.heap.size ≤ H) : Dis va' vw := by
  intro q h1 h2
  rcases hat with e | e
  · exact h q (by rw [← e]; exact h1) h2
  · rw [e] at h1
    have h3 := (hw.lt q h2).2
    cases h1
    omega
theorem Dis.symm {va vw : Value} (h : Dis va vw) : Dis vw va := fun q h1 h2 => h q h2 h1

theorem ofA {B : Nat} {bs : List Nat} {v : Nat} {W : World} {S : List Nat} {va : Value} (h : StA B bs v W S va) : ∃ gs : List Nat, gs.length = S.length ∧ W.ownsRow B 22 1 va S.length (List.zipWith (cellOf bs.length) gs S) := by
  obtain ⟨gs, h1, h2, h3, h4, h5⟩ := h
  exact ⟨gs, h1, h5⟩

theorem StA.push {B : Nat} {bs : List Nat} {v : Nat} {W W1 W2 W3 : World} {S gs : List Nat} {va v3 : Value} {s : Nat} {o : Obj} (h : StA B bs v W S va) (hBW : B ≤ W.heap.size)
    (hB1 : Below W.heap.size W W1) (hO1 : OwnB W1 W.heap.size (row bs v s)) (hB2 : Below W1.heap.size W1 W2) (hO2 : OwnB W2 W1.heap.size (row bs v s))
    (hgs : gs.length = S.length) (hva : W.ownsRow B 22 1 va S.length (List.zipWith (cellOf bs.length) gs S))
    (hown : W3.ownsRow B 22 1 v3 (S.length + 2) (List.zipWith (cellOf bs.length) gs S ++ [cellOf bs.length W.heap.size s, cellOf bs.length W1.heap.size s])) (hg : (W2.alloc o).grownBy W3 va.ownBlock) :
    StA B bs v W3 (S ++ [s, s]) v3 := by
  obtain ⟨gs', h1, h2, h3, h4, h5⟩ := h
  have hl1 := hO1.lt
  have hs1 := hB1.size
  have hs2 := hB2.size
  have hA : Below W2.heap.size W2 (W2.alloc o) := (Below.refl _ _).alloc (Nat.le_refl _) _
  have hA' : Below W.heap.size W (W2.alloc o) := bseq (bseq hB1 hB2) hA
  have e : gs' = gs := by
    have hx : List.zipWith (cellOf bs.length) gs' S = List.zipWith (cellOf bs.length) gs S := by
      rcases h5.2 with ⟨hn, h0⟩ | ⟨g, cap, cur, hv, _, hh, _, _, _, ht⟩
      · have : S = [] := List.eq_nil_of_length_eq_zero h0
        subst this
        simp
      · rcases hva.2 with ⟨hn, h0⟩ | ⟨g', cap', cur', hv', _, hh', _, _, _, ht'⟩
        · rw [hv] at hn; cases hn
        · rw [hv] at hv'
          cases hv'
          rw [hh] at hh'
          cases hh'
          rw [← ht, ← ht']
    refine List.ext_getElem? fun i => ?_
    have hi := congrArg (fun l => l[i]?) hx
    simp only [List.getElem?_zipWith] at hi
    by_cases hil : i < S.length
    · rw [List.getElem?_eq_getElem (by omega : i < gs'.length), List.getElem?_eq_getElem (by omega : i < gs.length), List.getElem?_eq_getElem hil] at hi
      simp [cellOf] at hi
      rw [List.getElem?_eq_getElem (by omega : i < gs'.length), List.getElem?_eq_getElem (by omega : i < gs.length), hi]
    · rw [List.getElem?_eq_none (by omega), List.getElem?_eq_none (by omega)]
  subst e
  have hlt := gs_lt h1 h4
  refine ⟨gs' ++ [W.heap.size, W1.heap.size], by simp [h1], ?_, ?_, ?_, ?_⟩
  · rw [List.nodup_append]
    refine ⟨h2, ?_, ?_⟩
    · simp; omega
    · intro x hx y hy e
      have := hlt x hx
      subst e
      simp at hy
      omega
  · intro g hg'
    rcases List.mem_append.1 hg' with hx | hx
    · exact h3 g hx
    · simp at hx; omega
  · intro i g s' hi hs
    have hown' : (W2.alloc o).ownsRow B 22 1 va S.length (List.zipWith (cellOf bs.length) gs' S) := ownsRow_below h5 hA'
    refine ownB_beside ?_ hown' hg
    by_cases hil : i < gs'.length
    · rw [List.getElem?_append_left hil] at hi
      rw [List.getElem?_append_left (by omega)] at hs
      exact (h4 i g s' hi hs).below hA' (h4 i g s' hi hs).lt
    · rw [List.getElem?_append_right (by omega)] at hi
      rw [List.getElem?_append_right (by omega), ← h1] at hs
      generalize i - gs'.length = d at hi hs
      match d, hi, hs with
      | 0, hi, hs => simp at hi hs; subst hi hs; exact (hO1.below hB2 hl1).below hA (by omega)
      | 1, hi, hs => simp at hi hs; subst hi hs; exact hO2.below hA hO2.lt
      | n + 2, hi, hs => simp at hi
  · rw [List.zipWith_append h1]
    simpa using hown

theorem StW.push {B : Nat} {bs : List Nat} {v : Nat} {W W4 W5 : World} {S : List Nat} {vw v5 : Value} {s g c : Nat} {ds : List Value} {o : Obj} (hx : ∀ x ∈ bs, x < 256) (hm : bs.length + s ≤ maxLen) (hds : ds.length = S.length) (how : W.ownsRow B 22 1 vw ds.length ds) (ht : Ties W B ds (S.map (row bs v)))
    (hB4 : Below W.heap.size W W4) (hO4 : W4.ownsRow W.heap.size 5 1 (.slice (some ⟨g, 0, none⟩) (bs.length + s) c) (bs.length + s) ((row bs v s).map B8))
    (hown : W5.ownsRow B 22 1 v5 (ds.length + 2) (ds ++ [.slice (some ⟨g, 0, none⟩) (bs.length + s) c, .slice (some ⟨g, 0, none⟩) (bs.length + s) c])) (hg : (W4.alloc o).grownBy W5 vw.ownBlock) :
    StW B bs v W5 (S ++ [s, s]) v5 := by
  have hA : Below W4.heap.size W4 (W4.alloc o) := (Below.refl _ _).alloc (Nat.le_refl _) _
  have hp : Piece W4 B (some ⟨g, 0, none⟩) (row bs v s) := by
    have h := hO4
    rw [← row_length bs v s] at h
    exact piece_of_owns h (row_lt hx v s)
  have t1 := ((ht.below hB4).snoc c hp (by rw [row_length]; exact hm)).snoc c hp (by rw [row_length]; exact hm)
  have t2 := (t1.below hA).grown (ownsRow_below how (bseq hB4 hA)) hg
  refine ⟨ds ++ [.slice (some ⟨g, 0, none⟩) (bs.length + s) c, .slice (some ⟨g, 0, none⟩) (bs.length + s) c], by simp [hds], by simpa using hown, ?_⟩
  rw [row_length] at t2
  simpa using t2

end Go.Proofs.Ytjkglimbmfgllaa.bitsPuts
