/- A row of bytes with room behind it, one of them turned. -/
import Derived.Test.YtheefdplbmneeaaGpKh
import Derived.Test.YtheefdplbmneeaaGpS
namespace Go.Proofs.Ytheefdplbmneeaa
open Go.RowKit
set_option linter.unusedVariables false
set_option linter.unusedSimpArgs false

/-- The bytes lie ahead in a block, which may have more. -/
def Lies (W : World) (g : Nat) (xs : List Nat) : Prop := ∃ cur : Array Value, W.heap[g]? = some (.cells cur 5 (0, 0)) ∧ ∀ (j x : Nat), xs[j]? = some x → cur[j]? = some (Value.int .u8 (x : Int))
theorem Lies.lt {W : World} {g : Nat} {xs : List Nat} (h : Lies W g xs) : g < W.heap.size := by
  obtain ⟨cur, h1, _⟩ := h
  exact (Array.getElem?_eq_some_iff.1 h1).1
theorem Lies.cell {W : World} {g : Nat} {xs : List Nat} (h : Lies W g xs) (j x : Nat) (hx : xs[j]? = some x) : W.cell? ⟨g, j, none⟩ = some (.int .u8 (x : Int)) := by
  obtain ⟨cur, h1, h2⟩ := h
  exact knCelH h1 j _ (h2 j x hx)
theorem Lies.frozen {W : World} {g : Nat} {xs : List Nat} (h : Lies W g xs) (i : Nat) : W.frozen? ⟨g, i, none⟩ = false := by
  obtain ⟨cur, h1, h2⟩ := h
  simp [World.frozen?, h1]
theorem Lies.set {W : World} {g : Nat} {xs : List Nat} (h : Lies W g xs) (i y : Nat) : Lies (W.setCell ⟨g, i, none⟩ (.int .u8 (y : Int))) g (xs.set i y) := by
  obtain ⟨cur, h1, h2⟩ := h
  refine ⟨cur.setIfInBounds i (Value.int .u8 (y : Int)), ?_, fun j x hx => ?_⟩
  · simp only [World.setCell, Array.getElem?_modify, h1]
    simp
  · rw [List.getElem?_set] at hx
    rw [Array.getElem?_setIfInBounds]
    by_cases e : i = j
    · subst e
      rw [if_pos rfl] at hx ⊢
      by_cases hl : i < xs.length
      · rw [if_pos hl] at hx
        obtain rfl : y = x := by simpa using hx
        have h3 := h2 i _ (List.getElem?_eq_getElem hl)
        rw [if_pos (Array.getElem?_eq_some_iff.1 h3).1]
      · rw [if_neg hl] at hx
        simp at hx
    · rw [if_neg e] at hx ⊢
      exact h2 j x hx
theorem Lies.sl {W : World} {g : Nat} {xs : List Nat} (h : Lies W g xs) (hx : ∀ x ∈ xs, x < 256) : Sl W (some ⟨g, 0, none⟩) xs :=
  .inr ⟨g, 0, rfl, h.lt, fun i x hi => ⟨by rw [Nat.zero_add]; exact h.cell i x hi, hx x (List.mem_of_getElem? hi)⟩⟩
theorem lies_of {W : World} {base : Nat} {v : Value} {bs : List Nat} (h : W.ownsRow base 5 1 v bs.length (bs.map B8)) (hn : 0 < bs.length) : ∃ g c, v = .slice (some ⟨g, 0, none⟩) bs.length c ∧ base ≤ g ∧ Lies W g bs ∧ bs.length ≤ c := by
  rcases h.2 with ⟨rfl, h0⟩ | ⟨g, cap, cur, rfl, hb, hg, hn, _, hs, hc⟩
  · omega
  · refine ⟨g, cap, rfl, hb, ⟨cur, hg, fun j x hx => ?_⟩, hn⟩
    have h1 : (bs.map B8)[j]? = some (B8 x) := by rw [List.getElem?_map, hx]; rfl
    have h2 : j < bs.length := (List.getElem?_eq_some_iff.1 hx).1
    rw [← hc, List.getElem?_take, if_pos (by omega)] at h1
    simpa [B8] using h1
/-- A head and 252 bytes behind it. -/
theorem kn_two {W : World} {b N : Nat} {hd Z : List Nat} (h1 : Sl W (some ⟨b, 0, none⟩) hd) (h2 : Sl W (some ⟨N, 0, none⟩) Z) (hl : hd.length = 4) (hz : Z.length = 252) :
    Calls Try.prog 8 #[.slice (some ⟨b, 0, none⟩) 4 4, .slice (some ⟨N, 0, none⟩) 252 252] W fun e w' => ∃ g c, e = .returned (.slice (some ⟨g, 0, none⟩) 256 c) ∧ W.heap.size ≤ g ∧ Lies w' g (hd ++ Z) ∧ 256 ≤ c ∧ Below W.heap.size W w' := by
  have k := rtwo_any (some ⟨b, 0, none⟩) (some ⟨N, 0, none⟩) 4 252 hd Z W h1 h2 (by omega) (by omega)
  rw [hl, hz] at k
  refine k.mono ?_
  rintro e w' ⟨v, rfl, ho, hb⟩
  have e2 : (hd ++ Z).length = 256 := by rw [List.length_append, hl, hz]
  obtain ⟨g, c, rfl, h3, h4, h5⟩ := lies_of (bs := hd ++ Z) (by rw [e2]; exact ho) (by omega)
  rw [e2] at h5 ⊢
  exact ⟨g, c, rfl, h3, h4, h5, hb⟩
end Go.Proofs.Ytheefdplbmneeaa
