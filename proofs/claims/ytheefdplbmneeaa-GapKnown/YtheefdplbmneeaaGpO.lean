/- What opening a script of the statements leans on. -/
import Derived.Test.YtheefdplbmneeaaROpen
namespace Go.Proofs.Ytheefdplbmneeaa
open Go.ChangeShapes Go.WideShapes Go.ChangeAt Go.RowKit
set_option linter.unusedVariables false
set_option maxRecDepth 100000

/-- A step of a script. -/
structure GSt where
  d : Int
  f : Int
  t : Int
  x : ByteArray
def GSt.vals (s : GSt) : List Value := [.int .i64 s.d, .int .i64 s.f, .int .i64 s.t, .string s.x]
def GSt.Ok (s : GSt) : Prop := (-9223372036854775808 ≤ s.f ∧ s.f ≤ 9223372036854775807) ∧ (-9223372036854775808 ≤ s.t ∧ s.t ≤ 9223372036854775807) ∧ s.x.size ≤ 140737488351232
/-- A script lies there. -/
def GStR (W : World) (a : Option Addr) (xs : List GSt) : Prop := RowW 4 GSt.vals W a xs ∧ (∀ s ∈ xs, s.Ok)
theorem Try.cellsGs : Try.prog.cellsOf 25 = 4 := by kernel_rfl
theorem Try.cellsGi : Try.prog.cellsOf 3 = 1 := by kernel_rfl
theorem Try.cellsGx : Try.prog.cellsOf 9 = 1 := by kernel_rfl
theorem gst_cells {H : Type} {enc : TypeId × Value → H} {W : World} (fuel : Nat) (cs : List Value) (x : DataW H × List MemPlace)
    (h : DataW.trod enc Try.prog W 0 (fun _ => true) true fuel 25 cs = some x) :
    ∃ s : GSt, cs = s.vals ∧ ((-9223372036854775808 ≤ s.f ∧ s.f ≤ 9223372036854775807) ∧ (-9223372036854775808 ≤ s.t ∧ s.t ≤ 9223372036854775807) ∧ s.x.size ∈ x.1.weights Try.prog 25) := by
  obtain ⟨xs, n, _, hx, hl, hlen, hf⟩ := DataW.trod_struct Try.underlying25 h
  rw [Try.cellsGs] at hl
  match cs, hl with
  | [c0, c1, c2, c3], _ =>
    match xs, hlen with
    | [y0, y1, y2, y3], _ =>
      have h0 := hf 0 _ rfl
      have h1 := hf 1 _ rfl
      have h2 := hf 2 _ rfl
      have h3 := hf 3 _ rfl
      simp [Try.cellsGi, Try.cellsGx] at h0 h1 h2 h3
      obtain ⟨z0, e0, g0, w0⟩ := DataW.trod_int Try.underlying3 h0
      obtain ⟨z1, e1, g1, w1⟩ := DataW.trod_int Try.underlying3 h1
      obtain ⟨z2, e2, g2, w2⟩ := DataW.trod_int Try.underlying3 h2
      obtain ⟨z3, e3, hd3, w3⟩ := DataW.trod_string Try.underlying9 h3
      simp at e0 e1 e2 e3
      subst e0 e1 e2 e3
      subst g0 g1 g2
      refine ⟨⟨z0, z1, z2, z3⟩, rfl, bounds_i64 w1, bounds_i64 w2, ?_⟩
      subst hx hd3
      simp only [List.map_cons, List.map_nil, DataW.weights, Try.underlying25, DataW.weightsEach, List.mem_append]
      simp
theorem weights_all {H : Type} {P : Program} {e : TypeId} : ∀ {l : List (DataW H)} {d : DataW H}, d ∈ l → ∀ n ∈ d.weights P e, n ∈ DataW.weightsAll P e l
  | d0 :: r, d, h, n, hn => by
    simp only [DataW.weightsAll, List.mem_append]
    rcases List.mem_cons.1 h with rfl | h
    · exact .inl hn
    · exact .inr (weights_all h n hn)
set_option maxHeartbeats 400000 in
theorem open_steps {H : Type} {enc : TypeId × Value → H} {W : World} {v : Value} {d : DataW H} {p : List MemPlace} (h : DataW.Trod enc Try.prog W 0 (fun _ => true) true 26 v d p) (hv : ∃ a l c, v = .slice a l c)
    (hz : ∀ n ∈ d.weights Try.prog 26, n ≤ reachBytes) :
    ∃ (a : Option Addr) (ns c : Nat) (xs : List GSt), v = .slice a ns c ∧ GStR W a xs ∧ xs.length = ns ∧ ns ≤ 3518437208780 := by
  obtain ⟨a, l, c, rfl⟩ := hv
  obtain ⟨fuel, hf⟩ := h
  have hf : DataW.trod enc Try.prog W 0 (fun _ => true) true fuel 26 [.slice a l c] = some (d, p) := by simpa [Value.cells] using hf
  have er : reachBytes = 140737488351232 := by decide
  rcases Go.Deep.open_slice Try.underlying26 hf with ⟨hcs, hx0⟩ | ⟨ad, l', c', m, n, D, Pl, hcs, _, hl, hm, hmm, hx, hele⟩
  · simp at hcs
    obtain ⟨rfl, rfl, rfl⟩ := hcs
    exact ⟨none, 0, 0, [], rfl, ⟨.inl rfl, by simp⟩, rfl, by omega⟩
  · simp at hcs
    obtain ⟨rfl, rfl, rfl⟩ := hcs
    have hlm : l ≤ m := by rw [hmm]; simp; exact hl
    rw [Try.cellsGs] at hele
    obtain ⟨xs, hxl, hxq⟩ := gatherQ (Q := fun i (x : GSt) => ((-9223372036854775808 ≤ x.f ∧ x.f ≤ 9223372036854775807) ∧ (-9223372036854775808 ≤ x.t ∧ x.t ≤ 9223372036854775807) ∧ x.x.size ∈ (D i).weights Try.prog 25) ∧ W.cells? 0 (ad.add (i * 4)) 4 = some x.vals) l (fun i hi => by
      obtain ⟨cs', h1, h2⟩ := hele i (by omega)
      obtain ⟨y, rfl, hq⟩ := gst_cells _ _ _ h2
      exact ⟨y, hq, h1⟩)
    simp only [Prod.mk.injEq] at hx
    have hd := hx.1
    have hzz : ∀ i, i < l → ∀ n ∈ (D i).weights Try.prog 25, n ≤ reachBytes := fun i hi n hn => by
      refine hz n ?_
      rw [hd]
      simp only [DataW.weights, Try.underlying26, List.mem_cons, List.mem_append]
      exact .inr (.inl (weights_all (List.mem_map.2 ⟨i, by simpa using hi, rfl⟩) n hn))
    have hln : l ≤ 3518437208780 := by
      have h1 := hz _ (by rw [hd]; simp only [DataW.weights, Try.underlying26]; exact List.mem_cons_self ..)
      simp only [List.length_map, List.length_range] at h1
      have e : Try.prog.bytesOf 25 = 40 := by kernel_rfl
      rw [e, er] at h1
      omega
    refine ⟨_, _, _, xs, rfl, ⟨?_, ?_⟩, hxl, hln⟩
    · by_cases h0 : l = 0
      · exact .inl (List.eq_nil_of_length_eq_zero (by omega))
      · obtain ⟨b, off, spot⟩ := ad
        obtain ⟨x0, hx0⟩ : ∃ x, xs[0]? = some x := ⟨_, List.getElem?_eq_getElem (by omega)⟩
        have hc0 : W.cell? ⟨b, off, spot⟩ = some (.int .i64 x0.d) := by
          obtain ⟨_, _, hcc⟩ := World.cells?_some (hxq 0 x0 hx0).2
          have h1 := hcc 0 (by omega)
          have e : ((⟨b, off, spot⟩ : Addr).add (0 * 4)).add 0 = ⟨b, off, spot⟩ := by simp [Addr.add]
          rw [e] at h1
          exact h1
        have hspot : spot = none := by simpa using World.cell?_spot hc0
        subst hspot
        refine .inr ⟨b, off, rfl, World.block_lt_of_cell? _ _ hc0, fun i x hx j v hv => ?_⟩
        have hj : j < 4 := by have := (List.getElem?_eq_some_iff.1 hv).1; exact this
        obtain ⟨_, _, hcc⟩ := World.cells?_some (hxq i x hx).2
        have h1 := hcc j hj
        rw [hv] at h1
        have e1 : (⟨b, off, none⟩ : Addr).add (i * 4) = ⟨b, off + i * 4, none⟩ := by simp [Addr.add]
        have e2 : (⟨b, off + i * 4, none⟩ : Addr).add j = ⟨b, off + i * 4 + j, none⟩ := by simp [Addr.add]
        rw [e1, e2] at h1
        exact h1
    · intro y hy
      obtain ⟨i, hi⟩ := List.getElem?_of_mem hy
      have hil := (List.getElem?_eq_some_iff.1 hi).1
      obtain ⟨⟨q1, q2, q3⟩, _⟩ := hxq i y hi
      have := hzz i (by omega) _ q3
      exact ⟨q1, q2, by omega⟩
end Go.Proofs.Ytheefdplbmneeaa
