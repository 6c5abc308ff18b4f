/- Package super: plans and lines are compared. -/
import Derived.Test.YtmljacjbpcgijaaZBlk
namespace Go.Proofs.Ytmljacjbpcgijaa
open Go.RowKit Go.Shelf
set_option linter.unusedVariables false

theorem Try.noGuard37 : Try.prog.eqGuardType Try.prog.depth 37 = false := by kernel_rfl
theorem Try.noHeld37 : Try.prog.stoodInHeld 37 = false := by kernel_rfl
theorem Try.fields37 : Try.prog.underlying 37 = some (.struct (Try.prog.fieldsOf 37)) := by kernel_rfl
def sameS (a b c d e a' b' c' d' e' : Int) : Bool := decide (a = a' ∧ b = b' ∧ c = c' ∧ d = d' ∧ e = e')
theorem eql_su (a b c d e a' b' c' d' e' : Int) (w : World) :
    (Op.equalIn 10000 37 (.agg #[.int .i64 a, .int .i64 b, .int .i64 c, .int .i64 d, .int .i64 e]) (.agg #[.int .i64 a', .int .i64 b', .int .i64 c', .int .i64 d', .int .i64 e'])).run Try.prog w = .ok (sameS a b c d e a' b' c' d' e') w := by
  rw [run_equalIn_agg w 9999 37 _ _ Try.fields37 Try.noHeld37]
  have u3 := Try.underlying3
  have a3 : ∀ w : World, (isAgg 3).run Try.prog w = .ok false w := fun w => by kernel_rfl
  unfold Program.fieldsOf
  rw [Try.underlying37]
  unfold sameS
  by_cases h1 : a = a'
  · by_cases h2 : b = b'
    · by_cases h3 : c = c'
      · by_cases h4 : d = d'
        · by_cases h5 : e = e'
          · simp [Op.eqFields, part, u3, a3, go_sem, h1, h2, h3, h4, h5]
          · simp [Op.eqFields, part, u3, a3, go_sem, h1, h2, h3, h4, h5]
        · simp [Op.eqFields, part, u3, a3, go_sem, h1, h2, h3, h4]
      · simp [Op.eqFields, part, u3, a3, go_sem, h1, h2, h3]
    · simp [Op.eqFields, part, u3, a3, go_sem, h1, h2]
  · simp [Op.eqFields, part, u3, a3, go_sem, h1]
/-- Are two lines one? -/
theorem eql_line (xs ys : List Nat) (w : World) (hx : xs.length = 64) (hy : ys.length = 64) : (Op.equalIn 10000 68 (.agg (xs.map B8).toArray) (.agg (ys.map B8).toArray)).run Try.prog w = .ok (decide (xs = ys)) w := by
  obtain ⟨i, hi, hs⟩ := info_of (t := 5) (n := 1) (by kernel_rfl)
  rw [run_equalIn_array w 9999 _ _ (e := 5) (n := 64) (by kernel_rfl) hi, cellsOf8, List.range_eq_range', eqItems8 9998 xs ys w 64 0 (by omega) (by omega)]
  rw [List.drop_zero, List.drop_zero, List.take_of_length_le (by omega), List.take_of_length_le (by omega)]
theorem slice_line (g : Nat) (w : World) : (Instr.sliceAt 68 (.pointer (some ⟨g, 0, none⟩)) none none none).run Try.prog w = .ok (.slice (some ⟨g, 0, none⟩) 64 64) w := by
  obtain ⟨it, h1, h2⟩ := info_of (t := 5) (n := 1) (by kernel_rfl)
  have hu : Try.prog.underlying 68 = some (.array 64 5) := by kernel_rfl
  simp [Instr.sliceAt, Sem.run_bind, run_underlying hu, Instr.sureAddr, Instr.sliceBounds, sizeOf, typeInfo, h1, Addr.add_mid]
/-- The superblock of a size. -/
def sbX (x : Int) : List Nat := sbB x.toNat ((x - 32896) / 256).toNat
theorem sbX_len (x : Int) : (sbX x).length = 64 := sbB_len _ _
theorem sbX_lt (x : Int) : ∀ y ∈ sbX x, y < 256 := sbB_lt _ _
theorem block_any (x : Int) (w : World) (h : okS x) : Calls Try.prog 28 #[.agg #[.int .i64 x, .int .i64 128, .int .i64 32768, .int .i64 32896, .int .i64 ((x - 32896) / 256)]] w fun e w' => e = .returned (.agg ((sbX x).map B8).toArray) ∧ Below w.heap.size w w' := by
  obtain ⟨h1, h2, h3⟩ := h
  obtain ⟨N, rfl⟩ : ∃ N : Nat, x = (N : Int) := ⟨x.toNat, by omega⟩
  obtain ⟨q, hq⟩ : ∃ q : Nat, ((N : Int) - 32896) / 256 = (q : Int) := ⟨(((N : Int) - 32896) / 256).toNat, by omega⟩
  unfold sbX
  rw [hq]
  exact block_nat N q w (by omega) (by omega)
end Go.Proofs.Ytmljacjbpcgijaa
