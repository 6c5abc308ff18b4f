/- Package pmem: a content is put behind the others. -/
import Derived.Test.YtmlhibkofalamaaPBld
import Derived.Test.YtmlhibkofalamaaPHeld
import Derived.Deep.QuietTactic
import Derived.BigQuiet
namespace Go.Proofs.Ytmlhibkofalamaa
open Go.RowKit
set_option linter.unusedVariables false

theorem Gr.drewN {X : Nat → Prop} {a b : World} (h : Gr X a b) (n : Nat) : Gr X a (b.drewN n) := h
theorem heapNew (w : World) (o : Obj) : (w.alloc o).heap[w.heap.size]? = some o := by
  show (w.heap.push o)[w.heap.size]? = some o
  simp
theorem B8_cell (l : List Nat) : ∀ v ∈ l.map B8, v.oneCell' = true := by
  intro v hv
  obtain ⟨x, _, rfl⟩ := List.mem_map.1 hv
  rfl
theorem range_row {w : World} {g : Nat} {cur : List Value} {t : TypeId} {fr : Nat × Nat} (h : w.heap[g]? = some (.cells cur.toArray t fr)) (o : Nat) (l : List Value) (hl : (cur.drop o).take l.length = l) : w.rangeAt g o l := by
  intro j v hv
  have hj : j < l.length := (List.getElem?_eq_some_iff.1 hv).1
  rw [← hl, List.getElem?_take, if_pos hj, List.getElem?_drop] at hv
  simp [World.cell?, h, hv]
theorem range_all {w : World} {g : Nat} {l : List Value} {t : TypeId} {fr : Nat × Nat} (h : w.heap[g]? = some (.cells l.toArray t fr)) : w.rangeAt g 0 l := range_row h 0 l (by simp)
theorem load_content {w : World} {g o : Nat} {l : List Nat} (h : w.rangeAt g o (l.map B8)) (hl : l.length = 64) : (Instr.loadAt 62 (.pointer (some ⟨g, o, none⟩))).run Try.prog w = .ok (.agg (l.map B8).toArray) w :=
  run_loadAt_mid w g o 62 (l.map B8) (.array 8 60) h (by kernel_rfl) rfl (by rw [List.length_map, hl]; kernel_rfl)
theorem runC_len (r : List Nat × Nat) (h : r.1.length = 64) : (runC r).length = 65 := by simp [runC, h]
theorem runC_cell (r : List Nat × Nat) : ∀ v ∈ runC r, v.oneCell' = true := by
  intro v hv
  rcases List.mem_append.1 hv with h | h
  · exact B8_cell _ v h
  · obtain rfl := List.mem_singleton.1 h; rfl
theorem runs_len (rs : List (List Nat × Nat)) (h : ∀ r ∈ rs, r.1.length = 64 ∧ 1 ≤ r.2) : (rs.flatMap runC).length = rs.length * 65 := by
  induction rs with
  | nil => rfl
  | cons r rs ih =>
    rw [List.flatMap_cons, List.length_append, runC_len r (h r (by simp)).1, ih (fun x hx => h x (by simp [hx])), List.length_cons]
    omega
theorem exR_len (rs : List (List Nat × Nat)) (h : ∀ r ∈ rs, r.1.length = 64 ∧ 1 ≤ r.2) : rs.length ≤ (exR rs).length := by
  induction rs with
  | nil => simp
  | cons r rs ih =>
    have h1 := (h r (by simp)).2
    have h2 := ih (fun x hx => h x (by simp [hx]))
    have e : exR (r :: rs) = List.replicate r.2 r.1 ++ exR rs := by simp [exR]
    rw [e, List.length_append, List.length_replicate, List.length_cons]
    omega
theorem exR_append (a b : List (List Nat × Nat)) : exR (a ++ b) = exR a ++ exR b := by simp [exR]
theorem own_slice {w : World} {base : Nat} {e : TypeId} {size : Nat} {v : Value} {n : Nat} {xs : List Value} (h : w.ownsRow base e size v n xs) : ∃ a c, v = .slice a n c := by
  rcases h.2 with ⟨rfl, rfl⟩ | ⟨g, cap, cur, rfl, _⟩
  · exact ⟨_, _, rfl⟩
  · exact ⟨_, _, rfl⟩
theorem own_type {w : World} {base : Nat} {e : TypeId} {size : Nat} {v : Value} {n : Nat} {xs : List Value} (h : w.ownsRow base e size v n xs) {g : Nat} (hg : v.ownBlock = some g) : ∃ c, w.heap[g]? = some (.cells c e (0, 0)) := by
  rcases h.2 with ⟨rfl, rfl⟩ | ⟨g', cap, cur, rfl, _, hg', _⟩
  · cases hg
  · cases hg; exact ⟨_, hg'⟩
/-- What a past is behind one content more, laid at the row's end. -/
theorem padd_fin {w W0 W7 W8 : World} {pb n : Nat} {v v8 : Value} {rs : List (List Nat × Nat)} {cs : List (List Nat)} {c : List Nat} (X : Array Value)
    (h0 : W0.heap[pb]? = some (.cells #[v, .int .i64 ((n + 1 : Nat) : Int)] 103 (0, 0))) (hg0 : Gr (fun k => k = pb ∨ v.ownBlock = some k) w W0) (h7 : W7 = W0.drew.alloc (.cells X 115))
    (hown : W8.ownsRow 0 115 65 v8 (rs.length + 1) (rs.flatMap runC ++ (c.map B8 ++ [.int .i64 1]))) (hgr : W7.grownBy W8 v.ownBlock) (hloc : v8.ownBlock = v.ownBlock ∨ v8.ownBlock = some W7.heap.size)
    (hvb : v.ownBlock ≠ some pb) (hpb : pb < w.heap.size) (hc : c.length = 64) (hcs : exR rs = cs) (hn : n = cs.length) (hr : ∀ r ∈ rs, r.1.length = 64 ∧ 1 ≤ r.2) :
    PastAt (W8.setCell ⟨pb, 0, none⟩ v8) pb v8 (cs ++ [c]) ∧ (v8.ownBlock = v.ownBlock ∨ ∃ g, v8.ownBlock = some g ∧ w.heap.size ≤ g) ∧ Gr (fun k => k = pb ∨ v.ownBlock = some k) w (W8.setCell ⟨pb, 0, none⟩ v8) := by
  have hs0 := hg0.size
  have hd : W0.drew.heap = W0.heap := rfl
  have hs7 : W7.heap.size = W0.heap.size + 1 := by rw [h7]; simp [hd]
  have b7 : W7.heap[pb]? = some (.cells #[v, .int .i64 ((n + 1 : Nat) : Int)] 103 (0, 0)) := by
    rw [h7]
    exact (((Below.refl _ W0.drew).alloc (Nat.le_refl _) _).block pb (lt_of_heap h0)).trans h0
  have b8 : W8.heap[pb]? = some (.cells #[v, .int .i64 ((n + 1 : Nat) : Int)] 103 (0, 0)) := (hgr.block pb (lt_of_heap b7) (fun e => hvb e.symm)).trans b7
  have hloc' : v8.ownBlock = v.ownBlock ∨ ∃ g, v8.ownBlock = some g ∧ w.heap.size ≤ g := hloc.imp id (fun h => ⟨_, h, by omega⟩)
  have hne : ∀ g, v8.ownBlock = some g → g ≠ pb := fun g hg => by
    obtain ⟨c', hc'⟩ := own_type hown hg
    exact ne_ty hc' b8 (by decide)
  refine ⟨⟨?_, rs ++ [(c, 1)], ?_, ?_, ?_⟩, hloc', ?_⟩
  · rw [heap_set1 W8 pb 0 _ _ _ b8]
    rw [List.length_append, ← hn]
    rfl
  · rw [List.flatMap_append, List.length_append]
    have e : List.flatMap runC [(c, 1)] = c.map B8 ++ [.int .i64 1] := by simp [runC]
    rw [e]
    exact ownsRow_of_block hown (fun g hg => heap_set_ne W8 pb 0 g _ (hne g hg))
  · rw [exR_append, hcs]
    rfl
  · intro r hr'
    rcases List.mem_append.1 hr' with h | h
    · exact hr r h
    · obtain rfl := List.mem_singleton.1 h
      exact ⟨hc, Nat.le_refl _⟩
  · have g7 : Gr (fun k => k = pb ∨ v.ownBlock = some k) w W7 := by
      rw [h7]
      exact hg0.trans (Gr.of_below (w := W0) (w' := W0.drew.alloc (.cells X 115)) ((Below.refl _ W0).drew.alloc (Nat.le_refl _) _) : Gr (fun k => k = pb ∨ v.ownBlock = some k) W0 _) (fun i h => .inl h)
    exact (g7.trans (Gr.of_grown (X := fun k => k = pb ∨ v.ownBlock = some k) hgr (fun k hk => .inl (.inr hk))) (fun i h => .inl h)).trans (Gr.set W8 pb 0 v8 (X := fun k => k = pb ∨ v.ownBlock = some k) (.inl rfl)) (fun i h => .inl h)
end Go.Proofs.Ytmlhibkofalamaa
