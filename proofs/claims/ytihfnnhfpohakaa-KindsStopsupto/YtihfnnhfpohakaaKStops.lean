/- The stops of a text, as the statement lists them. -/
import Derived.Test.YtihfnnhfpohakaaKWkM
import Derived.Test.YtihfnnhfpohakaaURun
import Derived.Laws.AppendOwnNone
import Derived.OwnWalk
namespace Go.Proofs.Ytihfnnhfpohakaa
open Go.RowKit Go.Shelf
set_option linter.unusedVariables false

/-- The statement's numbers of the classes. -/
def phi (c : Int) : Int := if c = 1 then 0 else if c = 2 then 1 else if c = 7 then -1 else 2
theorem phi_blank (r : Int) : (phi (clsK r) = 0) ↔ clsK r = 1 := by
  rcases clsK_vals r with h | h | h <;> rw [h] <;> decide
theorem phi_same (r : Int) (c : Int) (hc : c = 0 ∨ c = 1 ∨ c = 2 ∨ c = 7) : (phi (clsK r) = phi c) ↔ clsK r = c := by
  rcases clsK_vals r with h | h | h <;> rw [h] <;> rcases hc with rfl | rfl | rfl | rfl <;> decide
theorem lcl_vals (l : List (Nat × Nat × Nat)) : lcl 7 l = 0 ∨ lcl 7 l = 1 ∨ lcl 7 l = 2 ∨ lcl 7 l = 7 := by
  unfold lcl
  cases l.getLast? with
  | none => exact .inr (.inr (.inr rfl))
  | some e => rcases clsK_vals (e.2.1 : Int) with h | h | h
              · exact .inl h
              · exact .inr (.inl h)
              · exact .inr (.inr (.inl h))
theorem ownsRow_iter' {W : World} {base K : Nat} {t : TypeId} {n : Nat} {v : Value} {k : Nat} {xs : List Value} {s : ByteArray} {pos : Nat} (h : W.ownsRow base t n v k xs) (hit : W.heap[K]? = some (.stringIter s pos)) (pos' : Nat) : (W.iterAt K s pos').ownsRow base t n v k xs := ownsRow_iter h hit pos'
theorem ownsRow_belowK {W W' : World} {base : Nat} {e : TypeId} {size : Nat} {v : Value} {k : Nat} {xs : List Value} (h : W.ownsRow base e size v k xs) (hb : Below W.heap.size W W') : W'.ownsRow base e size v k xs := by
  refine ⟨h.1, ?_⟩
  rcases h.2 with h | ⟨g, cap, cur, hv, hg, hk, r⟩
  · exact .inl h
  · exact .inr ⟨g, cap, cur, hv, hg, (hb.block g (Array.getElem?_eq_some_iff.1 hk).1).trans hk, r⟩
theorem stp_stay (a : Int) (x : List (Nat × Nat × Nat)) (e : Nat × Nat × Nat) (h : clsE e = 1 ∨ clsE e = lcl a x) : stp a (x ++ [e]) = stp a x := by
  rw [stp_snoc, if_neg (fun g => h.elim g.1 g.2), List.append_nil]
theorem stp_new (a : Int) (x : List (Nat × Nat × Nat)) (e : Nat × Nat × Nat) (h : clsE e ≠ 1) (k : clsE e ≠ lcl a x) : stp a (x ++ [e]) = stp a x ++ [e.1] := by
  rw [stp_snoc, if_pos ⟨h, k⟩]
theorem stp_len : ∀ (l : List (Nat × Nat × Nat)) (a : Int), (stp a l).length ≤ l.length
  | [], a => by simp [stp]
  | x :: l, a => by
    have := stp_len l (clsE x)
    simp only [stp]
    split <;> simp only [List.length_cons] <;> omega
def I64k (p : Nat) : Value := .int .i64 (p : Int)
theorem Try.info64k : (Try.prog.info? 3).map (fun i => (i.zero, i.size, i.bytes)) = some (some (.int .i64 0), 1, 8) := by kernel_rfl
end Go.Proofs.Ytihfnnhfpohakaa
