/- The road of TallySums: for every list of tallies that memory can hold it returns true, and writes nothing that was there. -/
import Derived.Test.YtojbclifafmllaaTEq
namespace Go.Proofs.Ytojbclifafmllaa
open Go.RowKit
set_option linter.unusedVariables false

def markT : (Int × Int × Int × ByteArray × ByteArray) := (-7, 0, 0, ⟨#[]⟩, ⟨#[]⟩)
def t1T : (Int × Int × Int × ByteArray × ByteArray) := (2, 2, 0, ⟨#[226, 128]⟩, ⟨#[226, 128]⟩)
def t2T : (Int × Int × Int × ByteArray × ByteArray) := (2, 2, 1, ⟨#[169, 13]⟩, ⟨#[169, 13]⟩)
/-- What a row of tallies holds, whose block is known. -/
theorem slt_of_row {W : World} {B m : Nat} {ys : List (Int × Int × Int × ByteArray × ByteArray)} {ty : TypeId} (hR : W.heap[B]? = some (.cells (tCs ys).toArray ty (0, 0))) : SlT W (some ⟨B, 0, none⟩) (ys.take m) := by
  refine .inr ⟨B, 0, rfl, (Array.getElem?_eq_some_iff.1 hR).1, fun i x hx => ?_⟩
  rw [List.getElem?_take] at hx
  split at hx
  · have key : ∀ j (v : Value), j < 5 → (tC x)[j]? = some v → W.cell? ⟨B, 0 + i * 5 + j, none⟩ = some v := by
      intro j v hj hv
      refine cell_of hR _ _ ?_
      rw [Nat.zero_add]
      have := tCs_get ys i x hx j hj
      rw [hv] at this
      simpa using this
    exact ⟨key 0 _ (by omega) rfl, key 1 _ (by omega) rfl, key 2 _ (by omega) rfl, key 3 _ (by omega) rfl, key 4 _ (by omega) rfl⟩
  · cases hx
/-- The five cells of one of a row of tallies. -/
theorem cells_at {W : World} {B i : Nat} {ys : List (Int × Int × Int × ByteArray × ByteArray)} {x : (Int × Int × Int × ByteArray × ByteArray)} {ty : TypeId} (hR : W.heap[B]? = some (.cells (tCs ys).toArray ty (0, 0))) (hx : ys[i]? = some x) :
    W.cell? ⟨B, i * 5, none⟩ = some (.int .i64 x.1) ∧ W.cell? ⟨B, i * 5 + 1, none⟩ = some (.int .i64 x.2.1) ∧ W.cell? ⟨B, i * 5 + 2, none⟩ = some (.int .i64 x.2.2.1) ∧ W.cell? ⟨B, i * 5 + 3, none⟩ = some (.string x.2.2.2.1) ∧ W.cell? ⟨B, i * 5 + 4, none⟩ = some (.string x.2.2.2.2) := by
  have key : ∀ j (v : Value), j < 5 → (tC x)[j]? = some v → W.cell? ⟨B, i * 5 + j, none⟩ = some v := by
    intro j v hj hv
    refine cell_of hR _ _ ?_
    have := tCs_get ys i x hx j hj
    rw [hv] at this
    simpa using this
  exact ⟨key 0 _ (by omega) rfl, key 1 _ (by omega) rfl, key 2 _ (by omega) rfl, key 3 _ (by omega) rfl, key 4 _ (by omega) rfl⟩
theorem made_row (n : Nat) : madeCells (Value.cells (.agg #[.int .i64 0, .int .i64 0, .int .i64 0, .string ⟨#[]⟩, .string ⟨#[]⟩])) (n * 5) = (tCs (List.replicate n zT)).toArray := by
  apply Array.ext_getElem?
  intro p
  by_cases hp : p < n * 5
  · have hx : (List.replicate n zT)[p / 5]? = some zT := by rw [List.getElem?_replicate, if_pos (by omega)]
    have h3 := tCs_get _ (p / 5) zT hx (p % 5) (Nat.mod_lt _ (by omega))
    rw [show p / 5 * 5 + p % 5 = p by omega] at h3
    have h4 : (tCs (List.replicate n zT)).toArray[p]? = (tC zT)[p % 5]? := by simpa using h3
    have h5 : (madeCells (Value.cells (.agg #[.int .i64 0, .int .i64 0, .int .i64 0, .string ⟨#[]⟩, .string ⟨#[]⟩])) (n * 5))[p]? = some ((Value.cells (.agg #[.int .i64 0, .int .i64 0, .int .i64 0, .string ⟨#[]⟩, .string ⟨#[]⟩]))[p % 5]!) := by
      unfold madeCells
      rw [Array.getElem?_map, Array.getElem?_range, if_pos hp]
      rfl
    rw [h4, h5]
    have hj : p % 5 = 0 ∨ p % 5 = 1 ∨ p % 5 = 2 ∨ p % 5 = 3 ∨ p % 5 = 4 := by omega
    rcases hj with h | h | h | h | h <;> (rw [h]; rfl)
  · rw [Array.getElem?_eq_none (by rw [size_madeCells]; omega), Array.getElem?_eq_none (by simp [tCs_len]; omega)]
theorem wk7 (w : World) : Calls Try.prog 7 #[.string ⟨#[226, 128]⟩] w fun e w' => e = .returned (.agg #[.int .i64 2, .int .i64 2, .int .i64 0, .string ⟨#[226, 128]⟩, .string ⟨#[226, 128]⟩]) ∧ Below w.heap.size w w' := by
  have h := refOf_any ⟨#[226, 128]⟩ w (by decide)
  rw [show tyC (ByteArray.size ⟨#[226, 128]⟩ : Nat) (chn (bl ⟨#[226, 128]⟩) : Nat) (lin (bl ⟨#[226, 128]⟩) : Nat) (hd ⟨#[226, 128]⟩) (tl ⟨#[226, 128]⟩) = #[.int .i64 2, .int .i64 2, .int .i64 0, .string ⟨#[226, 128]⟩, .string ⟨#[226, 128]⟩] from by kernel_rfl] at h
  exact h
theorem wk8 (w : World) : Calls Try.prog 7 #[.string ⟨#[169, 13]⟩] w fun e w' => e = .returned (.agg #[.int .i64 2, .int .i64 2, .int .i64 1, .string ⟨#[169, 13]⟩, .string ⟨#[169, 13]⟩]) ∧ Below w.heap.size w w' := by
  have h := refOf_any ⟨#[169, 13]⟩ w (by decide)
  rw [show tyC (ByteArray.size ⟨#[169, 13]⟩ : Nat) (chn (bl ⟨#[169, 13]⟩) : Nat) (lin (bl ⟨#[169, 13]⟩) : Nat) (hd ⟨#[169, 13]⟩) (tl ⟨#[169, 13]⟩) = #[.int .i64 2, .int .i64 2, .int .i64 1, .string ⟨#[169, 13]⟩, .string ⟨#[169, 13]⟩] from by kernel_rfl] at h
  exact h
end Go.Proofs.Ytojbclifafmllaa
