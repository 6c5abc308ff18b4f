/- Package seek: a run of a pattern: worse, come. -/
import Derived.Test.YtodooppapciegaaGreatDoorXRunA
namespace Go.Proofs.YtodooppapciegaaGreatDoor
open Go.RowKit Go.Shelf
set_option linter.unusedVariables false
set_option linter.unusedSimpArgs false

section
variable {B : Nat} {D : Nat → Prop} {s : ByteArray} {g : Bool} {its : List Kd} {w w' : World} {b : Nat} {σ : Rs} {iv nv xv : Value} {S : Nat}
theorem RunC.c0 (h : RunC B D s g its w b σ iv nv xv S) : w.cell? ⟨b, 0, none⟩ = some iv := by have k := h.box; simp only [World.cell?, k]; rfl
theorem RunC.c1 (h : RunC B D s g its w b σ iv nv xv S) : w.cell? ⟨b, 1, none⟩ = some (.string s) := by have k := h.box; simp only [World.cell?, k]; rfl
theorem RunC.c2 (h : RunC B D s g its w b σ iv nv xv S) : w.cell? ⟨b, 2, none⟩ = some (.bool g) := by have k := h.box; simp only [World.cell?, k]; rfl
theorem RunC.c3 (h : RunC B D s g its w b σ iv nv xv S) : w.cell? ⟨b, 3, none⟩ = some nv := by have k := h.box; simp only [World.cell?, k]; rfl
theorem RunC.c4 (h : RunC B D s g its w b σ iv nv xv S) : w.cell? ⟨b, 4, none⟩ = some xv := by have k := h.box; simp only [World.cell?, k]; rfl
theorem RunC.c5 (h : RunC B D s g its w b σ iv nv xv S) : w.cell? ⟨b, 5, none⟩ = some (.slice (some ⟨S, 0, none⟩) (its.length + 1) (its.length + 1)) := by have k := h.box; simp only [World.cell?, k]; rfl
theorem RunC.c6 (h : RunC B D s g its w b σ iv nv xv S) : w.cell? ⟨b, 6, none⟩ = some (.int .i64 (σ.round : Int)) := by have k := h.box; simp only [World.cell?, k]; rfl
theorem RunC.c7 (h : RunC B D s g its w b σ iv nv xv S) : w.cell? ⟨b, 7, none⟩ = some (.int .i64 (σ.loc : Int)) := by have k := h.box; simp only [World.cell?, k]; rfl
theorem RunC.c8 (h : RunC B D s g its w b σ iv nv xv S) : w.cell? ⟨b, 8, none⟩ = some (.bool σ.be) := by have k := h.box; simp only [World.cell?, k]; rfl
theorem RunC.c9 (h : RunC B D s g its w b σ iv nv xv S) : w.cell? ⟨b, 9, none⟩ = some (.bool σ.en) := by have k := h.box; simp only [World.cell?, k]; rfl
theorem RunC.c10 (h : RunC B D s g its w b σ iv nv xv S) : w.cell? ⟨b, 10, none⟩ = some (.int .i64 (σ.bf : Int)) := by have k := h.box; simp only [World.cell?, k]; rfl
theorem RunC.c11 (h : RunC B D s g its w b σ iv nv xv S) : w.cell? ⟨b, 11, none⟩ = some (.int .i64 (σ.bt : Int)) := by have k := h.box; simp only [World.cell?, k]; rfl
theorem RunC.c12 (h : RunC B D s g its w b σ iv nv xv S) : w.cell? ⟨b, 12, none⟩ = some (.bool σ.fo) := by have k := h.box; simp only [World.cell?, k]; rfl
theorem RunC.cS (h : RunC B D s g its w b σ iv nv xv S) (n x : Nat) (hx : σ.seen[n]? = some x) : w.cell? ⟨S, n, none⟩ = some (.int .i64 (x : Int)) := by
  have k := h.seen
  simp only [World.cell?, k]
  simp [hx]
/-- One of the run's cells is written; its rows stay. -/
theorem RunC.putN (h : RunC B D s g its w b σ iv nv xv S) (o : Nat) (v : Value) (τ : Rs)
    (hb : (#[iv, .string s, .bool g, nv, xv, .slice (some ⟨S, 0, none⟩) (its.length + 1) (its.length + 1), .int .i64 (σ.round : Int), .int .i64 (σ.loc : Int), .bool σ.be, .bool σ.en, .int .i64 (σ.bf : Int), .int .i64 (σ.bt : Int), .bool σ.fo] : Array Value).setIfInBounds o v = #[iv, .string s, .bool g, nv, xv, .slice (some ⟨S, 0, none⟩) (its.length + 1) (its.length + 1), .int .i64 (τ.round : Int), .int .i64 (τ.loc : Int), .bool τ.be, .bool τ.en, .int .i64 (τ.bf : Int), .int .i64 (τ.bt : Int), .bool τ.fo])
    (hn : τ.now = σ.now) (hx : τ.next = σ.next) (hs : τ.seen = σ.seen) : RunC B D s g its (w.setCell ⟨b, o, none⟩ v) b τ iv nv xv S :=
  h.put o v τ nv xv hb (by rw [hn]; exact h.now) (by rw [hx]; exact h.next) h.apart hs
end
set_option maxHeartbeats 1000000 in
theorem worse_any (B : Nat) (D : Nat → Prop) (s : ByteArray) (g : Bool) (its : List Kd) (w : World) (b : Nat) (σ : Rs) (h : RunL B D s g its w b σ) (p : Nat) :
    Calls Tryz.prog 45 #[.pointer (some ⟨b, 0, none⟩), .int .i64 (p : Int)] w fun e w' => e = .returned (.bool (worseV g σ p)) ∧ w' = w := by
  obtain ⟨nv, iv, xv, S, hc⟩ := h
  have c2 := hc.c2
  have ca := hc.c10
  have cc := hc.c12
  have e1 : decide ((p : Int) < (σ.bf : Int)) = decide (p < σ.bf) := by by_cases e : p < σ.bf <;> simp [e]
  have e2 : decide ((σ.bf : Int) < (p : Int)) = decide (σ.bf < p) := by by_cases e : σ.bf < p <;> simp [e]
  unfold worseV
  clear hc
  cases g <;> cases hf : σ.fo <;> rw [hf] at cc <;> (
    go_enter Tryz.func45, Tryz.ntmps45
    go_wp2_with (fail)
    go_ret
    refine ⟨?_, rfl⟩
    simp [e1, e2])
end Go.Proofs.YtodooppapciegaaGreatDoor
