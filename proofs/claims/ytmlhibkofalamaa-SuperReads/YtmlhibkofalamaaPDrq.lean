/- Package pmem: the first contents of a line are dropped. -/
import Derived.Test.YtmlhibkofalamaaPDrp
namespace Go.Proofs.Ytmlhibkofalamaa
open Go.RowKit
set_option linter.unusedVariables false

theorem slice_runs (g i m cap : Nat) (hi : i ≤ m) (hm : m ≤ cap) (w : World) : (Instr.sliceAt 101 (.slice (some ⟨g, 0, none⟩) m cap) (some (.int .i64 (i : Int))) none none).run Try.prog w = .ok (.slice (some (if cap = i then ⟨g, 0, none⟩ else ⟨g, i * 65, none⟩)) (m - i) (cap - i)) w := by
  obtain ⟨it, h1, h2⟩ := info_of (t := 115) (n := 65) (by kernel_rfl)
  have hu : Try.prog.underlying 101 = some (.slice 115) := by kernel_rfl
  have h3 : (0 : Int) ≤ (i : Int) ∧ (i : Int) ≤ (m : Int) := by omega
  by_cases h4 : cap = i
  · simp only [Instr.sliceAt, Instr.slice, Sem.run_bind, run_underlying hu, Result.andThen_ok, Sem.run_pure, Instr.sliceBounds, Instr.sliceBound, asIntOf, h3, and_self, if_true, sizeOf, typeInfo, h1, h2, h4, Int.toNat_natCast, run_program]
  · simp only [Instr.sliceAt, Instr.slice, Sem.run_bind, run_underlying hu, Result.andThen_ok, Sem.run_pure, Instr.sliceBounds, Instr.sliceBound, asIntOf, h3, and_self, if_true, sizeOf, typeInfo, h1, h2, h4, if_false, Int.toNat_natCast, Addr.add_mid, run_program, Option.map_some, Nat.zero_add]
theorem drop_cell {rs : List (List Nat × Nat)} (i : Nat) : ∀ u ∈ (rs.drop i).flatMap runC, u.oneCell' = true := fun u hu => by
  obtain ⟨r, _, h⟩ := List.mem_flatMap.1 hu
  exact runC_cell r u h
theorem exR_cut (c : List Nat) (t : List (List Nat × Nat)) (n : Nat) : exR ((c, n) :: t) = List.replicate n c ++ exR t := by simp [exR]
theorem own_block {w : World} {base : Nat} {e : TypeId} {size : Nat} {v : Value} {n : Nat} {xs : List Value} (h : w.ownsRow base e size v n xs) {g : Nat} (hg : v.ownBlock = some g) : ∃ cap, v = .slice (some ⟨g, 0, none⟩) n cap := by
  rcases h.2 with ⟨rfl, rfl⟩ | ⟨g', cap, cur, rfl, _⟩
  · cases hg
  · cases hg; exact ⟨_, rfl⟩
theorem index_zero (g len cap : Nat) (h : 0 < len) (w : World) : (Instr.indexAt 101 (.slice (some ⟨g, 0, none⟩) len cap) (.int .i64 0)).run Try.prog w = .ok (.pointer (some ⟨g, 0, none⟩)) w := by
  have e := index_run g 0 len cap h w
  simpa using e
end Go.Proofs.Ytmlhibkofalamaa
