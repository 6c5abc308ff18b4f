/- How a slice of slices of bytes that came in is opened: what it holds, and that its bulk bounds its rows and their bytes. -/
import Derived.Test.YtjkglimbmfgllaaOpen
import Derived.Deep.Slices
namespace Go.Proofs.Ytjkglimbmfgllaa
open Go.ChangeShapes Go.WideShapes Go.ChangeAt Go.RowKit
set_option linter.unusedVariables false

theorem bulk_snoc {H : Type} (l : List (DataW H)) (d : DataW H) : Rows.uptoBulkAll (l ++ [d]) = Rows.uptoBulkAll l + Rows.uptoBulk d := by
  induction l with
  | nil => simp [Rows.uptoBulkAll]
  | cons a l ih => simp only [List.cons_append, Rows.uptoBulkAll, ih]; omega
theorem bulk_flat {H : Type} (D : Nat → DataW H) (R : Nat → List Nat) : ∀ n, (∀ i, i < n → (R i).length ≤ Rows.uptoBulk (D i)) → ((List.range n).map R).flatten.length ≤ Rows.uptoBulkAll ((List.range n).map D) := by
  intro n
  induction n with
  | zero => intro _; simp
  | succ n ih =>
    intro h
    have h1 := ih (fun i hi => h i (by omega))
    have h2 := h n (by omega)
    rw [List.range_succ, List.map_append, List.map_append, List.map_singleton, List.map_singleton, bulk_snoc, List.flatten_append, List.length_append]
    simp only [List.flatten_cons, List.flatten_nil, List.append_nil]
    omega

theorem open_rows_up {H : Type} {enc : TypeId × Value → H} {W : World} {a : Option Addr} {len cap : Nat} {d : DataW H} {p : List MemPlace} (h : DataW.Trod enc Try.prog W 0 (fun _ => true) true 25 (.slice a len cap) d p) :
    ∃ rs : List (List Nat), len = rs.length ∧ SlR W a rs ∧ rs.length ≤ Rows.uptoBulk d ∧ rs.flatten.length ≤ Rows.uptoBulk d := by
  obtain ⟨fuel, hf⟩ := h
  rcases Go.Deep.open_slice1 Try.underlying25 (by kernel_rfl) hf with ⟨hcs, hx0⟩ | ⟨x, l, c, m, n, V, D, Pl, hcs, _, hl, hm, hmm, hx, hV⟩
  · simp [Value.cells] at hcs
    obtain ⟨rfl, rfl, rfl⟩ := hcs
    exact ⟨[], rfl, .inl rfl, by simp, by simp⟩
  · simp [Value.cells] at hcs
    obtain ⟨rfl, rfl, rfl⟩ := hcs
    simp only [if_true] at hmm
    have each : ∀ i, i < len → ∃ r : List Nat, (∃ ai ci, V i = .slice ai r.length ci ∧ Sl W ai r) ∧ r.length ≤ maxLen ∧ r.length ≤ Rows.uptoBulk (D i) := by
      intro i hi
      obtain ⟨hc, ht⟩ := hV i (by omega)
      have hv : ∃ ai li ci, V i = .slice ai li ci := by
        rcases open_ints Try.underlying22 Try.underlying5 (by kernel_rfl) ht with ⟨h, _⟩ | ⟨x, l, c, zs, h, _⟩
        · simp at h; exact ⟨_, _, _, h⟩
        · simp at h; exact ⟨_, _, _, h⟩
      obtain ⟨ai, li, ci, hv⟩ := hv
      rw [hv] at ht
      obtain ⟨r, rfl, hs, hm, _, _, _, he⟩ := open_bytes_up ⟨n, by simpa [Value.cells] using ht⟩
      exact ⟨r, ⟨ai, ci, hv, hs⟩, hm, bulk_bytes he⟩
    obtain ⟨R, hR⟩ := Go.Deep.choose_lt each
    have hd : d = .slice ((List.range len).map D) ((List.range (m - len)).map fun j => D (len + j)) := congrArg Prod.fst hx
    have hb := bulk_len ((List.range len).map D)
    have hb2 := bulk_flat D R len (fun i hi => (hR i hi).2.2)
    rw [List.length_map, List.length_range] at hb
    refine ⟨(List.range len).map R, by simp, ?_, ?_, ?_⟩
    · by_cases h0 : len = 0
      · subst h0; exact .inl (by simp)
      · obtain ⟨b, off, spot⟩ := x
        have hc := (hV 0 (by omega)).1
        have hspot : spot = none := by simpa [Addr.add] using World.cell?_spot hc
        subst hspot
        refine .inr ⟨b, off, rfl, World.block_lt_of_cell? _ _ hc, fun i r hr => ?_⟩
        have hi : i < len := by
          have := (List.getElem?_eq_some_iff.1 hr).1
          simpa using this
        rw [List.getElem?_map, List.getElem?_range hi] at hr
        simp at hr
        subst hr
        obtain ⟨⟨ai, ci, hv, hs⟩, hm, _⟩ := hR i hi
        have h1 := (hV i (by omega)).1
        have e : (⟨b, off, none⟩ : Addr).add i = ⟨b, off + i, none⟩ := by simp [Addr.add]
        rw [e, hv] at h1
        exact ⟨ai, ci, h1, hs, hm⟩
    · rw [hd]
      simp only [List.length_map, List.length_range, Rows.uptoBulk]
      omega
    · rw [hd]
      simp only [Rows.uptoBulk]
      omega

end Go.Proofs.Ytjkglimbmfgllaa
