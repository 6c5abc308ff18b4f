/- What opening a list of tallies that is handed in leans on. -/
import Derived.Test.YtehekcfliloodaaTOpen
import Derived.Test.YtehekcfliloodaaTSu
import Derived.Deep.Slices
namespace Go.Proofs.Ytehekcfliloodaa
open Go.ChangeShapes Go.WideShapes Go.ChangeAt Go.RowKit
set_option linter.unusedVariables false

theorem Try.bytesT : Try.prog.bytesOf 24 = 56 := by kernel_rfl
theorem gather {Q : Nat → (Int × Int × Int × ByteArray × ByteArray) → Prop} : ∀ n, (∀ i, i < n → ∃ x, Q i x) → ∃ xs : List (Int × Int × Int × ByteArray × ByteArray), xs.length = n ∧ ∀ i x, xs[i]? = some x → Q i x := by
  intro n
  induction n with
  | zero => intro _; exact ⟨[], rfl, fun i x h => by simp at h⟩
  | succ n ih =>
    intro h
    obtain ⟨xs, hl, hq⟩ := ih (fun i hi => h i (by omega))
    obtain ⟨y, hy⟩ := h n (by omega)
    refine ⟨xs ++ [y], by rw [List.length_append, hl]; rfl, fun i x hx => ?_⟩
    by_cases hi : i < xs.length
    · rw [List.getElem?_append_left hi] at hx
      exact hq i x hx
    · rw [List.getElem?_append_right (by omega)] at hx
      have hlt := (List.getElem?_eq_some_iff.1 hx).1
      simp at hlt
      have e : i - xs.length = 0 := by omega
      rw [e] at hx
      simp at hx
      subst hx
      have : i = n := by omega
      subst this
      exact hy
theorem open_tallies {H : Type} {enc : TypeId × Value → H} {W : World} {a : Option Addr} {len cap : Nat} {d : DataW H} {p : List MemPlace} (h : DataW.Trod enc Try.prog W 0 (fun _ => true) true 31 (.slice a len cap) d p)
    (hz : ∀ el sp, d = .slice el sp → (el.length + sp.length) * Try.prog.bytesOf 24 ≤ reachBytes) :
    ∃ xs : List (Int × Int × Int × ByteArray × ByteArray), len = xs.length ∧ SlT W a xs ∧ (∀ x ∈ xs, x.1 ≤ 9223372036854775807) ∧ xs.length ≤ 2513169434843 := by
  obtain ⟨fuel, hf⟩ := h
  rcases Go.Deep.open_slice Try.underlying31 hf with ⟨hcs, hx0⟩ | ⟨ad, l, c, m, n, D, Pl, hcs, _, hl, hm, hmm, hx, hel⟩
  · simp [Value.cells] at hcs
    obtain ⟨rfl, rfl, rfl⟩ := hcs
    exact ⟨[], rfl, .inl rfl, by simp, by simp⟩
  · simp [Value.cells] at hcs
    obtain ⟨rfl, rfl, rfl⟩ := hcs
    simp only [Prod.mk.injEq] at hx
    have hw := hz _ _ hx.1
    rw [Try.bytesT] at hw
    simp only [List.length_map, List.length_range, reachBytes] at hw
    have hlm : len ≤ m := by rw [hmm]; simp; exact hl
    rw [Try.cells24] at hel
    obtain ⟨xs, hxl, hxq⟩ := gather (Q := fun i x => x.1 ≤ 9223372036854775807 ∧ W.cells? 0 (ad.add (i * 5)) 5 = some [.int .i64 x.1, .int .i64 x.2.1, .int .i64 x.2.2.1, .string x.2.2.2.1, .string x.2.2.2.2]) len (fun i hi => by
      obtain ⟨cs', h1, h2⟩ := hel i (by omega)
      obtain ⟨b, c0, l0, hh, t, rfl, hb⟩ := tally_cells h2
      exact ⟨(b, c0, l0, hh, t), hb, h1⟩)
    refine ⟨xs, hxl.symm, ?_, ?_, by omega⟩
    · by_cases h0 : len = 0
      · exact .inl (List.eq_nil_of_length_eq_zero (by omega))
      · obtain ⟨b, off, spot⟩ := ad
        obtain ⟨x0, hx0⟩ : ∃ x, xs[0]? = some x := ⟨_, List.getElem?_eq_getElem (by omega)⟩
        have hc0 : W.cell? ⟨b, off, spot⟩ = some (.int .i64 x0.1) := by
          obtain ⟨_, _, hc⟩ := World.cells?_some (hxq 0 x0 hx0).2
          have h1 := hc 0 (by omega)
          have e : ((⟨b, off, spot⟩ : Addr).add (0 * 5)).add 0 = ⟨b, off, spot⟩ := by simp [Addr.add]
          rw [e] at h1
          exact h1
        have hspot : spot = none := by simpa using World.cell?_spot hc0
        subst hspot
        have key : ∀ i x, xs[i]? = some x → ∀ j (v : Value), j < 5 → [Value.int .i64 x.1, .int .i64 x.2.1, .int .i64 x.2.2.1, .string x.2.2.2.1, .string x.2.2.2.2][j]? = some v → W.cell? ⟨b, off + i * 5 + j, none⟩ = some v := by
          intro i x hx j v hj hv
          obtain ⟨_, _, hc⟩ := World.cells?_some (hxq i x hx).2
          have h1 := hc j hj
          rw [hv] at h1
          have e1 : (⟨b, off, none⟩ : Addr).add (i * 5) = ⟨b, off + i * 5, none⟩ := by simp [Addr.add]
          have e2 : (⟨b, off + i * 5, none⟩ : Addr).add j = ⟨b, off + i * 5 + j, none⟩ := by simp [Addr.add]
          rw [e1, e2] at h1
          exact h1
        refine .inr ⟨b, off, rfl, World.block_lt_of_cell? _ _ hc0, fun i x hx => ?_⟩
        exact ⟨key i x hx 0 _ (by omega) rfl, key i x hx 1 _ (by omega) rfl, key i x hx 2 _ (by omega) rfl, key i x hx 3 _ (by omega) rfl, key i x hx 4 _ (by omega) rfl⟩
    · intro x hx
      obtain ⟨i, hi⟩ := List.getElem?_of_mem hx
      exact (hxq i x hi).1
end Go.Proofs.Ytehekcfliloodaa
