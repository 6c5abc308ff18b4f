/- What opening two scripts of the statements leans on. -/
import Derived.Test.YtmjiaglmhlokjaaGpO
namespace Go.Proofs.Ytmjiaglmhlokjaa
open Go.ChangeShapes Go.WideShapes Go.ChangeAt Go.RowKit
set_option linter.unusedVariables false
set_option maxRecDepth 100000

theorem Try.cellsGt : Try.prog.cellsOf 24 = 4 := by kernel_rfl
theorem Try.cellsGl : Try.prog.cellsOf 22 = 1 := by kernel_rfl
theorem gslice_form {H : Type} {enc : TypeId × Value → H} {W : World} {fuel : Nat} {t e : TypeId} {c : Value} {x : DataW H × List MemPlace} (ht : Try.prog.underlying t = some (.slice e)) (h : DataW.trod enc Try.prog W 0 (fun _ => true) true fuel t [c] = some x) : ∃ a l k, c = .slice a l k := by
  rcases Go.Deep.open_slice ht h with ⟨e, _⟩ | ⟨a, l, c, _, _, _, _, e, _⟩
  · simp at e; exact ⟨_, _, _, e⟩
  · simp at e; exact ⟨_, _, _, e⟩
theorem open_two {H : Type} {enc : TypeId × Value → H} {W : World} {r : Reach} {b0 : Nat} {v : Value} {d : DataW H} {p : List MemPlace}
    (hv : Value.okWide Try.prog W r b0 24 v) (h : DataW.Trod enc Try.prog W 0 (fun _ => true) true 24 v d p)
    (hz : ∀ n ∈ d.weights Try.prog 24, n ≤ reachBytes) :
    ∃ (sA sB : ByteArray) (a : Option Addr) (c : Nat) (b : Option Addr) (k : Nat) (xs ys : List GSt), v = .agg #[.string sA, .string sB, .slice a xs.length c, .slice b ys.length k] ∧ sA.size ≤ 9223372036854775807 ∧ sB.size ≤ 9223372036854775807 ∧ GStR W a xs ∧ GStR W b ys ∧ xs.length ≤ 3518437208780 ∧ ys.length ≤ 3518437208780 := by
  obtain ⟨cs, rfl, hsz⟩ := okWide_struct Try.underlying24 hv
  obtain ⟨fuel, hf⟩ := h
  have hf : DataW.trod enc Try.prog W 0 (fun _ => true) true fuel 24 cs.toList = some (d, p) := by simpa [Value.cells] using hf
  obtain ⟨us, n, _, hx, hl, hlen, hf2⟩ := DataW.trod_struct Try.underlying24 hf
  rw [Try.cellsGt] at hl
  match hcs : cs.toList, hl with
  | [c0, c1, c2, c3], _ =>
    match us, hlen with
    | [y0, y1, y2, y3], _ =>
      rw [hcs] at hf2
      have h0 := hf2 0 _ rfl
      have h1 := hf2 1 _ rfl
      have h2 := hf2 2 _ rfl
      have h3 := hf2 3 _ rfl
      simp [Try.cellsGx, Try.cellsGl] at h0 h1 h2 h3
      obtain ⟨z0, e0, g0, w0⟩ := DataW.trod_string Try.underlying9 h0
      obtain ⟨z1, e1, g1, w1⟩ := DataW.trod_string Try.underlying9 h1
      obtain ⟨a2, l2, k2, rfl⟩ := gslice_form Try.underlying22 h2
      obtain ⟨a3, l3, k3, rfl⟩ := gslice_form Try.underlying22 h3
      simp at e0 e1
      subst e0 e1
      have hd : d = .agg [y0.1, y1.1, y2.1, y3.1] := by
        simp only [Prod.mk.injEq] at hx
        exact hx.1
      have hw : d.weights Try.prog 24 = y0.1.weights Try.prog 9 ++ (y1.1.weights Try.prog 9 ++ (y2.1.weights Try.prog 22 ++ (y3.1.weights Try.prog 22 ++ []))) := by
        rw [hd]
        simp only [DataW.weights, Try.underlying24]
        rfl
      obtain ⟨qa, qn, qc, xs, e2, hx2, hn2, hb2⟩ := open_steps (d := y2.1) (p := y2.2) (v := .slice a2 l2 k2) ⟨n, h2⟩ ⟨_, _, _, rfl⟩ (fun m hm => hz m (by rw [hw]; simp [hm]))
      obtain ⟨qb, qm, qd, ys, e3, hx3, hn3, hb3⟩ := open_steps (d := y3.1) (p := y3.2) (v := .slice a3 l3 k3) ⟨n, h3⟩ ⟨_, _, _, rfl⟩ (fun m hm => hz m (by rw [hw]; simp [hm]))
      simp only [Value.slice.injEq] at e2 e3
      obtain ⟨rfl, rfl, rfl⟩ := e2
      obtain ⟨rfl, rfl, rfl⟩ := e3
      refine ⟨z0, z1, a2, k2, a3, k3, xs, ys, ?_, w0, w1, hx2, hx3, by omega, by omega⟩
      rw [hn2, hn3]
      congr 1
      apply Array.ext'
      rw [hcs]
end Go.Proofs.Ytmjiaglmhlokjaa
