/- What Apart answers for lists of bytes that lie in blocks of their own, full: they share no memory. -/
import Derived.Test.YtheefdplbmneeaaRefB
import Derived.ArgAppend
import Derived.Deep.RegionWith
import Derived.BigRegion
import Derived.Deep.QuietTactic
import Derived.BigQuiet
namespace Go.Proofs.Ytheefdplbmneeaa
open Go.RowKit
set_option linter.unusedVariables false

/-- The marks of list number i. -/
def marksOf (i n : Nat) : List Nat := (List.range n).map (markOf i)
theorem marksOf_length (i n : Nat) : (marksOf i n).length = n := by simp [marksOf]
theorem marksOf_get {i n k : Nat} (h : k < n) : (marksOf i n)[k]? = some (markOf i k) := by simp [marksOf, h]
theorem marksOf_succ (i n : Nat) : marksOf i (n + 1) = marksOf i n ++ [markOf i n] := by simp [marksOf, List.range_succ]
theorem markOf_lt (i k : Nat) : markOf i k < 256 := Nat.mod_lt _ (by omega)
theorem marksOf_lt (i n : Nat) : ∀ x ∈ marksOf i n, x < 256 := by
  intro x hx
  obtain ⟨k, _, rfl⟩ := List.mem_map.1 hx
  exact markOf_lt i k

/-- The first bytes of one list, the others of another. -/
def mixed (l r : List Nat) (k : Nat) : List Nat := l.take k ++ r.drop k
theorem mixed_zero (l r : List Nat) : mixed l r 0 = r := by simp [mixed]
theorem mixed_all (l r : List Nat) (k : Nat) (h1 : l.length ≤ k) (h2 : r.length ≤ k) : mixed l r k = l := by simp [mixed, List.take_of_length_le h1, List.drop_eq_nil_of_le h2]
theorem mixed_get (l r : List Nat) (k : Nat) (h1 : k ≤ l.length) : (mixed l r k)[k]? = r[k]? := by
  unfold mixed
  rw [List.getElem?_append_right (by simp; omega), List.getElem?_drop]
  simp [Nat.min_eq_left h1]
theorem mixed_set (l r : List Nat) (k x : Nat) (hl : l[k]? = some x) (hr : k < r.length) : (mixed l r k).set k x = mixed l r (k + 1) := by
  have h1 : k < l.length := (List.getElem?_eq_some_iff.1 hl).1
  unfold mixed
  have e : r.drop k = r[k] :: r.drop (k + 1) := List.drop_eq_getElem_cons hr
  rw [List.set_append_right _ _ (by simp; omega), List.length_take, Nat.min_eq_left (by omega), Nat.sub_self, e, List.set_cons_zero, List.take_add_one, hl]
  simp

theorem OwnB.other {w : World} {g g' i : Nat} {bs : List Nat} {v : Value} (h : OwnB w g bs) (hne : g ≠ g') : OwnB (w.setCell ⟨g', i, none⟩ v) g bs := by
  unfold OwnB at *
  simp only [World.setCell, Array.getElem?_modify, h]
  rw [if_neg (fun e => hne e.symm)]
theorem block_other {w : World} {b g' i : Nat} {v : Value} (hne : b ≠ g') : (w.setCell ⟨g', i, none⟩ v).heap[b]? = w.heap[b]? := by
  simp only [World.setCell, Array.getElem?_modify]
  rw [if_neg (fun e => hne e.symm)]
theorem ownsRow_base {W : World} {base base' : Nat} {e : TypeId} {size : Nat} {v : Value} {k : Nat} {xs : List Value} (h : W.ownsRow base e size v k xs) (hb : base' ≤ base) : W.ownsRow base' e size v k xs := by
  refine ⟨h.1, ?_⟩
  rcases h.2 with h2 | ⟨g, cap, cur, hv, hg, r⟩
  · exact .inl h2
  · exact .inr ⟨g, cap, cur, hv, Nat.le_trans hb hg, r⟩
theorem piece_of_owns {W : World} {base base' : Nat} {a : Option Addr} {c : Nat} {bs : List Nat} (h : W.ownsRow base' 5 1 (.slice a bs.length c) bs.length (bs.map B8)) (hx : ∀ x ∈ bs, x < 256) : Piece W base a bs := by
  rcases h.2 with ⟨h1, h0⟩ | ⟨g, cap, cur, hv, _, hg, hn, _, hs, hc⟩
  · exact .inl (List.eq_nil_of_length_eq_zero h0)
  · cases hv
    refine .inr ⟨g, 0, rfl, (Array.getElem?_eq_some_iff.1 hg).1, .inr ⟨_, _, hg⟩, fun i x hx' => ⟨?_, hx x (List.mem_of_getElem? hx')⟩⟩
    have h1 : (bs.map B8)[i]? = some (B8 x) := by rw [List.getElem?_map, hx']; rfl
    have h2 : i < bs.length := (List.getElem?_eq_some_iff.1 hx').1
    rw [← hc, List.getElem?_take, if_pos (by omega)] at h1
    simp only [Nat.zero_add, World.cell?, hg]
    simpa [B8] using h1

theorem owns_cut {W : World} {base m : Nat} {e : TypeId} {v : Value} {xs : List Value} (h : W.ownsRow base e 1 v m xs) (hm : 0 < m) : ∃ g c, v = .slice (some ⟨g, 0, none⟩) m c := by
  rcases h.2 with ⟨_, h0⟩ | ⟨g, cap, cur, hv, _⟩
  · omega
  · exact ⟨g, cap, hv⟩

end Go.Proofs.Ytheefdplbmneeaa
