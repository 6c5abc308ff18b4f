/- What UtfRange asks at each character: its place, its number, its rune. -/
import Derived.Test.YtfiocfhehofheaaUBackC
import Derived.Test.YtfiocfhehofheaaUOrdM
import Derived.Test.YtfiocfhehofheaaUPlaces
import Derived.Test.YtfiocfhehofheaaUFirst
namespace Go.Proofs.Ytfiocfhehofheaa
open Go.RowKit Go.Shelf
set_option linter.unusedVariables false

theorem at_char {l : List UInt8} {pos k : Nat} (hI : Inv l pos k) (hp : pos < l.length) : atV l (k : Int) = ((pos : Int), 0) ∧ ofV l (pos : Int) = ((k : Int), 0) ∧ beginsV l (pos : Int) = true ∧ (firstV (l.drop pos)).1 = (rune (l.drop pos) : Int) := by
  have hh := hI.here hp
  have h1 : atV l (k : Int) = ((pos : Int), 0) := by rw [atV_in hI.2.1, pl_at hh]
  obtain ⟨p, e1, e2, _⟩ := order_char l k hI.2.1
  rw [h1] at e1
  have hpe : (p : Int) = (pos : Int) := (congrArg Prod.fst e1).symm
  rw [hpe] at e2
  obtain ⟨k', b, nx, f1, f2, _, _, f3, _⟩ := order_in l pos hp
  rw [e2] at f1
  have hk : (k' : Int) = (k : Int) := (congrArg Prod.fst f1).symm
  rw [hk, h1] at f2
  have hb : (b : Int) = (pos : Int) := (congrArg Prod.fst f2).symm
  refine ⟨h1, e2, ?_, ?_⟩
  · rw [f3]; exact decide_eq_true (by omega)
  · unfold firstV
    rw [if_neg (drop_ne hp)]
/-- The places of a text's characters, and its end. -/
def PLi (a : Nat) (l : List UInt8) : List Int := (Cs a l).map (fun e => (e.1 : Int)) ++ [((a + l.length : Nat) : Int)]
theorem PLi_here (a : Nat) (l : List UInt8) (k : Nat) (e : Nat × Nat × Nat) (h : (Cs a l)[k]? = some e) : (PLi a l)[k]? = some (e.1 : Int) := by
  unfold PLi
  have hk := (List.getElem?_eq_some_iff.1 h).1
  rw [List.getElem?_append_left (by rw [List.length_map]; exact hk), List.getElem?_map, h]; rfl
theorem PLi_head (a : Nat) (l : List UInt8) : (PLi a l)[0]? = some (a : Int) := by
  by_cases h : l = []
  · subst h; rfl
  · exact PLi_here a l 0 (a, rune l, cw l) (by rw [Cs_cons a l h]; rfl)
theorem PLi_next (l : List UInt8) : ∀ (a k : Nat) (e : Nat × Nat × Nat), (Cs a l)[k]? = some e → (PLi a l)[k + 1]? = some ((e.1 + e.2.2 : Nat) : Int) := by
  refine byChars (P := fun l => ∀ (a k : Nat) (e : Nat × Nat × Nat), (Cs a l)[k]? = some e → (PLi a l)[k + 1]? = some ((e.1 + e.2.2 : Nat) : Int)) (fun a k e h => by simp [Cs_nil] at h) (fun l hl ih a k e h => ?_) l
  have hc := cw_len l hl
  have e1 : PLi a l = (a : Int) :: PLi (a + cw l) (l.drop (cw l)) := by
    unfold PLi
    rw [Cs_cons a l hl, List.map_cons, List.cons_append, List.length_drop]
    congr 4
    omega
  rw [e1]
  rw [Cs_cons a l hl] at h
  cases k with
  | zero =>
    simp only [List.getElem?_cons_zero, Option.some.injEq] at h
    subst h
    rw [List.getElem?_cons_succ]
    exact PLi_head _ _
  | succ k =>
    rw [List.getElem?_cons_succ] at h ⊢
    exact ih _ k e h
theorem PLi_len (a : Nat) (l : List UInt8) : (PLi a l).length = (Cs a l).length + 1 := by unfold PLi; simp
theorem slnV {W : World} {base n cap : Nat} {a : Option Addr} {zs : List Int} (h : W.ownsRow base 3 1 (.slice a n cap) n (zs.map (Value.int .i64))) (hn : zs.length = n) : SlN W a zs := by
  rcases h.2 with ⟨h1, h2⟩ | ⟨g, cap', cur, h1, h2, h3, _⟩
  · exact .inl (List.length_eq_zero_iff.1 (hn.trans h2))
  · cases h1
    have hc := h.cells (g := g) rfl
    refine .inr ⟨g, 0, rfl, (Array.getElem?_eq_some_iff.1 h3).1, fun i x hx => ?_⟩
    have := hc i (.int .i64 x) (by rw [List.getElem?_map, hx]; rfl)
    rw [Nat.zero_add]
    cases i with
    | zero => simpa [Addr.add] using this
    | succ k => simpa [Addr.add] using this
theorem SlN.below {w w' : World} {a : Option Addr} {xs : List Int} (h : SlN w a xs) (hb : Below w.heap.size w w') : SlN w' a xs := by
  rcases h with h | ⟨b, off, h1, h2, h3⟩
  · exact .inl h
  · exact .inr ⟨b, off, h1, Nat.lt_of_lt_of_le h2 hb.size, fun i x hx => (hb.cell (p := ⟨b, off + i, none⟩) h2).trans (h3 i x hx)⟩
theorem SlN.get {w : World} {a : Option Addr} {xs : List Int} (h : SlN w a xs) {k : Nat} (hk : k < xs.length) : ∃ b off, a = some ⟨b, off, none⟩ ∧ ∀ (i : Nat) (x : Int), xs[i]? = some x → w.cell? ⟨b, off + i, none⟩ = some (.int .i64 x) := by
  rcases h with h | ⟨b, off, h1, _, h3⟩
  · rw [h] at hk; simp at hk
  · exact ⟨b, off, h1, h3⟩
theorem SlU.get {w : World} {a : Option Addr} {xs : List Int} (h : SlU w a xs) {k : Nat} (hk : k < xs.length) : ∃ b off, a = some ⟨b, off, none⟩ ∧ ∀ (i : Nat) (x : Int), xs[i]? = some x → w.cell? ⟨b, off + i, none⟩ = some (.int .i32 x) := by
  rcases h with h | ⟨b, off, h1, _, h3⟩
  · rw [h] at hk; simp at hk
  · exact ⟨b, off, h1, h3⟩
theorem runesZ_get {l : List UInt8} {k : Nat} {e : Nat × Nat × Nat} (h : (Cs 0 l)[k]? = some e) : (runesZ l)[k]? = some (e.2.1 : Int) := by
  unfold runesZ; rw [List.getElem?_map, h]; rfl
/-- The walk from wrong byte to wrong byte. -/
theorem wr_stay {l : List UInt8} {k : Nat} {e : Nat × Nat × Nat} {pre : List (Nat × Nat × Nat)} (h : ((Cs 0 l).take k).filter isW = pre) (he : (Cs 0 l)[k]? = some e) (hn : isW e = false) : ((Cs 0 l).take (k + 1)).filter isW = pre := by
  rw [← take_snoc he, List.filter_append, h]; simp [hn]
theorem wr_hit {l : List UInt8} {k : Nat} {e : Nat × Nat × Nat} {pre : List (Nat × Nat × Nat)} (h : ((Cs 0 l).take k).filter isW = pre) (he : (Cs 0 l)[k]? = some e) (hn : isW e = true) : ((Cs 0 l).take (k + 1)).filter isW = pre ++ [e] := by
  rw [← take_snoc he, List.filter_append, h]; simp [hn]
theorem wr_same {l : List UInt8} {k : Nat} {e x : Nat × Nat × Nat} {pre : List (Nat × Nat × Nat)} (h : ((Cs 0 l).take k).filter isW = pre) (he : (Cs 0 l)[k]? = some e) (hn : isW e = true) (hp : pre ++ [x] <+: Ws l) : x = e := by
  have h1 := wr_hit h he hn
  have h2 : ((Cs 0 l).take (k + 1)).filter isW <+: Ws l := filt_pre isW (Cs 0 l) (k + 1)
  rw [h1] at h2
  have h3 := List.prefix_of_prefix_length_le hp h2 (by simp)
  obtain ⟨t, ht⟩ := h3
  rw [List.append_assoc] at ht
  have h4 := List.append_cancel_left ht
  cases t with
  | nil => simpa using h4
  | cons y t => simp at h4
theorem wr_end {l : List UInt8} {x : Nat × Nat × Nat} {pre : List (Nat × Nat × Nat)} (h : ((Cs 0 l).take (Cs 0 l).length).filter isW = pre) (hp : pre ++ [x] <+: Ws l) : False := by
  rw [List.take_length] at h
  have := hp.length_le
  rw [← h] at this
  unfold Ws at this
  simp at this
  omega
end Go.Proofs.Ytfiocfhehofheaa
