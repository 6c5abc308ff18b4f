/- The rows of GapKnown's heads; a gap that no call made. -/
import Derived.Test.YtheefdplbmneeaaGpK
namespace Go.Proofs.Ytheefdplbmneeaa
open Go.RowKit
set_option linter.unusedVariables false
set_option linter.unusedSimpArgs false

theorem knCelH {w : World} {B : Nat} {cs : Array Value} {t : TypeId} (h : w.heap[B]? = some (.cells cs t (0, 0))) (i : Nat) (v : Value) (hv : cs[i]? = some v) : w.cell? ⟨B, i, none⟩ = some v := by
  simp only [World.cell?, h]
  exact hv
set_option maxRecDepth 100000 in
theorem kn_heads (L0 : World) : Below L0.heap.size L0 (((((((((L0.alloc (.cells #[.int .u8 5, .int .u8 0, .int .u8 4, .int .u8 0] 5)).alloc (.cells #[.int .u8 0, .int .u8 0, .int .u8 253, .int .u8 0] 5)).alloc (.cells #[.int .u8 252, .int .u8 0, .int .u8 252, .int .u8 0] 5)).alloc (.cells #[.int .u8 253, .int .u8 0, .int .u8 253, .int .u8 0] 5)).alloc (.cells #[.int .u8 0, .int .u8 1, .int .u8 0, .int .u8 1] 5)).alloc (.cells #[.int .u8 3, .int .u8 0, .int .u8 9, .int .u8 0] 5)).alloc (.cells #[.int .u8 3, .int .u8 0, .int .u8 252, .int .u8 0] 5)).alloc (.cells #[.int .u8 0, .int .u8 0, .int .u8 252, .int .u8 0] 5)).alloc (.cells #[.slice (some ⟨L0.heap.size, 0, none⟩) 4 4, .slice (some ⟨L0.heap.size + 1, 0, none⟩) 4 4, .slice (some ⟨L0.heap.size + 1 + 1, 0, none⟩) 4 4, .slice (some ⟨L0.heap.size + 1 + 1 + 1, 0, none⟩) 4 4, .slice (some ⟨L0.heap.size + 1 + 1 + 1 + 1, 0, none⟩) 4 4, .slice (some ⟨L0.heap.size + 1 + 1 + 1 + 1 + 1, 0, none⟩) 4 4, .slice (some ⟨L0.heap.size + 1 + 1 + 1 + 1 + 1 + 1, 0, none⟩) 4 4, .slice (some ⟨L0.heap.size + 1 + 1 + 1 + 1 + 1 + 1 + 1, 0, none⟩) 4 4] 22)) ∧ ∀ i, i < 8 → ∃ (b : Nat) (hd : List Nat), hd.length = 4 ∧ ((((((((((L0.alloc (.cells #[.int .u8 5, .int .u8 0, .int .u8 4, .int .u8 0] 5)).alloc (.cells #[.int .u8 0, .int .u8 0, .int .u8 253, .int .u8 0] 5)).alloc (.cells #[.int .u8 252, .int .u8 0, .int .u8 252, .int .u8 0] 5)).alloc (.cells #[.int .u8 253, .int .u8 0, .int .u8 253, .int .u8 0] 5)).alloc (.cells #[.int .u8 0, .int .u8 1, .int .u8 0, .int .u8 1] 5)).alloc (.cells #[.int .u8 3, .int .u8 0, .int .u8 9, .int .u8 0] 5)).alloc (.cells #[.int .u8 3, .int .u8 0, .int .u8 252, .int .u8 0] 5)).alloc (.cells #[.int .u8 0, .int .u8 0, .int .u8 252, .int .u8 0] 5)).alloc (.cells #[.slice (some ⟨L0.heap.size, 0, none⟩) 4 4, .slice (some ⟨L0.heap.size + 1, 0, none⟩) 4 4, .slice (some ⟨L0.heap.size + 1 + 1, 0, none⟩) 4 4, .slice (some ⟨L0.heap.size + 1 + 1 + 1, 0, none⟩) 4 4, .slice (some ⟨L0.heap.size + 1 + 1 + 1 + 1, 0, none⟩) 4 4, .slice (some ⟨L0.heap.size + 1 + 1 + 1 + 1 + 1, 0, none⟩) 4 4, .slice (some ⟨L0.heap.size + 1 + 1 + 1 + 1 + 1 + 1, 0, none⟩) 4 4, .slice (some ⟨L0.heap.size + 1 + 1 + 1 + 1 + 1 + 1 + 1, 0, none⟩) 4 4] 22))).cell? ⟨L0.heap.size + 1 + 1 + 1 + 1 + 1 + 1 + 1 + 1, i, none⟩ = some (.slice (some ⟨b, 0, none⟩) 4 4) ∧ Sl (((((((((L0.alloc (.cells #[.int .u8 5, .int .u8 0, .int .u8 4, .int .u8 0] 5)).alloc (.cells #[.int .u8 0, .int .u8 0, .int .u8 253, .int .u8 0] 5)).alloc (.cells #[.int .u8 252, .int .u8 0, .int .u8 252, .int .u8 0] 5)).alloc (.cells #[.int .u8 253, .int .u8 0, .int .u8 253, .int .u8 0] 5)).alloc (.cells #[.int .u8 0, .int .u8 1, .int .u8 0, .int .u8 1] 5)).alloc (.cells #[.int .u8 3, .int .u8 0, .int .u8 9, .int .u8 0] 5)).alloc (.cells #[.int .u8 3, .int .u8 0, .int .u8 252, .int .u8 0] 5)).alloc (.cells #[.int .u8 0, .int .u8 0, .int .u8 252, .int .u8 0] 5)).alloc (.cells #[.slice (some ⟨L0.heap.size, 0, none⟩) 4 4, .slice (some ⟨L0.heap.size + 1, 0, none⟩) 4 4, .slice (some ⟨L0.heap.size + 1 + 1, 0, none⟩) 4 4, .slice (some ⟨L0.heap.size + 1 + 1 + 1, 0, none⟩) 4 4, .slice (some ⟨L0.heap.size + 1 + 1 + 1 + 1, 0, none⟩) 4 4, .slice (some ⟨L0.heap.size + 1 + 1 + 1 + 1 + 1, 0, none⟩) 4 4, .slice (some ⟨L0.heap.size + 1 + 1 + 1 + 1 + 1 + 1, 0, none⟩) 4 4, .slice (some ⟨L0.heap.size + 1 + 1 + 1 + 1 + 1 + 1 + 1, 0, none⟩) 4 4] 22)) (some ⟨b, 0, none⟩) hd := by
  obtain ⟨L1, e1⟩ : ∃ L, L = L0.alloc (.cells #[.int .u8 5, .int .u8 0, .int .u8 4, .int .u8 0] 5) := ⟨_, rfl⟩
  rw [← e1]
  obtain ⟨L2, e2⟩ : ∃ L, L = L1.alloc (.cells #[.int .u8 0, .int .u8 0, .int .u8 253, .int .u8 0] 5) := ⟨_, rfl⟩
  rw [← e2]
  obtain ⟨L3, e3⟩ : ∃ L, L = L2.alloc (.cells #[.int .u8 252, .int .u8 0, .int .u8 252, .int .u8 0] 5) := ⟨_, rfl⟩
  rw [← e3]
  obtain ⟨L4, e4⟩ : ∃ L, L = L3.alloc (.cells #[.int .u8 253, .int .u8 0, .int .u8 253, .int .u8 0] 5) := ⟨_, rfl⟩
  rw [← e4]
  obtain ⟨L5, e5⟩ : ∃ L, L = L4.alloc (.cells #[.int .u8 0, .int .u8 1, .int .u8 0, .int .u8 1] 5) := ⟨_, rfl⟩
  rw [← e5]
  obtain ⟨L6, e6⟩ : ∃ L, L = L5.alloc (.cells #[.int .u8 3, .int .u8 0, .int .u8 9, .int .u8 0] 5) := ⟨_, rfl⟩
  rw [← e6]
  obtain ⟨L7, e7⟩ : ∃ L, L = L6.alloc (.cells #[.int .u8 3, .int .u8 0, .int .u8 252, .int .u8 0] 5) := ⟨_, rfl⟩
  rw [← e7]
  obtain ⟨L8, e8⟩ : ∃ L, L = L7.alloc (.cells #[.int .u8 0, .int .u8 0, .int .u8 252, .int .u8 0] 5) := ⟨_, rfl⟩
  rw [← e8]
  obtain ⟨L9, e9⟩ : ∃ L, L = L8.alloc (.cells #[.slice (some ⟨L0.heap.size, 0, none⟩) 4 4, .slice (some ⟨L0.heap.size + 1, 0, none⟩) 4 4, .slice (some ⟨L0.heap.size + 1 + 1, 0, none⟩) 4 4, .slice (some ⟨L0.heap.size + 1 + 1 + 1, 0, none⟩) 4 4, .slice (some ⟨L0.heap.size + 1 + 1 + 1 + 1, 0, none⟩) 4 4, .slice (some ⟨L0.heap.size + 1 + 1 + 1 + 1 + 1, 0, none⟩) 4 4, .slice (some ⟨L0.heap.size + 1 + 1 + 1 + 1 + 1 + 1, 0, none⟩) 4 4, .slice (some ⟨L0.heap.size + 1 + 1 + 1 + 1 + 1 + 1 + 1, 0, none⟩) 4 4] 22) := ⟨_, rfl⟩
  rw [← e9]
  have s1 : L1.heap.size = L0.heap.size + 1 := by rw [e1]; simp
  have s2 : L2.heap.size = L0.heap.size + 2 := by rw [e2]; simp; omega
  have s3 : L3.heap.size = L0.heap.size + 3 := by rw [e3]; simp; omega
  have s4 : L4.heap.size = L0.heap.size + 4 := by rw [e4]; simp; omega
  have s5 : L5.heap.size = L0.heap.size + 5 := by rw [e5]; simp; omega
  have s6 : L6.heap.size = L0.heap.size + 6 := by rw [e6]; simp; omega
  have s7 : L7.heap.size = L0.heap.size + 7 := by rw [e7]; simp; omega
  have s8 : L8.heap.size = L0.heap.size + 8 := by rw [e8]; simp; omega
  have b0 : Below L0.heap.size L0 L1 := by rw [e1]; exact (Below.refl _ _).alloc (Nat.le_refl _) _
  have b1 : Below L1.heap.size L1 L2 := by rw [e2]; exact (Below.refl _ _).alloc (Nat.le_refl _) _
  have b2 : Below L2.heap.size L2 L3 := by rw [e3]; exact (Below.refl _ _).alloc (Nat.le_refl _) _
  have b3 : Below L3.heap.size L3 L4 := by rw [e4]; exact (Below.refl _ _).alloc (Nat.le_refl _) _
  have b4 : Below L4.heap.size L4 L5 := by rw [e5]; exact (Below.refl _ _).alloc (Nat.le_refl _) _
  have b5 : Below L5.heap.size L5 L6 := by rw [e6]; exact (Below.refl _ _).alloc (Nat.le_refl _) _
  have b6 : Below L6.heap.size L6 L7 := by rw [e7]; exact (Below.refl _ _).alloc (Nat.le_refl _) _
  have b7 : Below L7.heap.size L7 L8 := by rw [e8]; exact (Below.refl _ _).alloc (Nat.le_refl _) _
  have b8 : Below L8.heap.size L8 L9 := by rw [e9]; exact (Below.refl _ _).alloc (Nat.le_refl _) _
  have h0 : OwnB L1 L0.heap.size [5, 0, 4, 0] := by rw [e1]; exact heap_alloc_new _ _
  have h1 : OwnB L2 L1.heap.size [0, 0, 253, 0] := by rw [e2]; exact heap_alloc_new _ _
  have h2 : OwnB L3 L2.heap.size [252, 0, 252, 0] := by rw [e3]; exact heap_alloc_new _ _
  have h3 : OwnB L4 L3.heap.size [253, 0, 253, 0] := by rw [e4]; exact heap_alloc_new _ _
  have h4 : OwnB L5 L4.heap.size [0, 1, 0, 1] := by rw [e5]; exact heap_alloc_new _ _
  have h5 : OwnB L6 L5.heap.size [3, 0, 9, 0] := by rw [e6]; exact heap_alloc_new _ _
  have h6 : OwnB L7 L6.heap.size [3, 0, 252, 0] := by rw [e7]; exact heap_alloc_new _ _
  have h7 : OwnB L8 L7.heap.size [0, 0, 252, 0] := by rw [e8]; exact heap_alloc_new _ _
  have k8 := b8
  have k7 : Below L7.heap.size L7 L9 := b7.trans (k8.mono b7.size)
  have k6 : Below L6.heap.size L6 L9 := b6.trans (k7.mono b6.size)
  have k5 : Below L5.heap.size L5 L9 := b5.trans (k6.mono b5.size)
  have k4 : Below L4.heap.size L4 L9 := b4.trans (k5.mono b4.size)
  have k3 : Below L3.heap.size L3 L9 := b3.trans (k4.mono b3.size)
  have k2 : Below L2.heap.size L2 L9 := b2.trans (k3.mono b2.size)
  have k1 : Below L1.heap.size L1 L9 := b1.trans (k2.mono b1.size)
  have k0 : Below L0.heap.size L0 L9 := b0.trans (k1.mono b0.size)
  refine ⟨k0, fun i hi => ?_⟩
  have hc : L9.heap[L0.heap.size + 1 + 1 + 1 + 1 + 1 + 1 + 1 + 1]? = some (.cells #[.slice (some ⟨L0.heap.size, 0, none⟩) 4 4, .slice (some ⟨L0.heap.size + 1, 0, none⟩) 4 4, .slice (some ⟨L0.heap.size + 1 + 1, 0, none⟩) 4 4, .slice (some ⟨L0.heap.size + 1 + 1 + 1, 0, none⟩) 4 4, .slice (some ⟨L0.heap.size + 1 + 1 + 1 + 1, 0, none⟩) 4 4, .slice (some ⟨L0.heap.size + 1 + 1 + 1 + 1 + 1, 0, none⟩) 4 4, .slice (some ⟨L0.heap.size + 1 + 1 + 1 + 1 + 1 + 1, 0, none⟩) 4 4, .slice (some ⟨L0.heap.size + 1 + 1 + 1 + 1 + 1 + 1 + 1, 0, none⟩) 4 4] 22) := by rw [show L0.heap.size + 1 + 1 + 1 + 1 + 1 + 1 + 1 + 1 = L8.heap.size by omega, e9]; exact heap_alloc_new _ _
  match i, hi with
  | 0, _ => exact ⟨L0.heap.size, [5, 0, 4, 0], rfl, knCelH hc 0 _ rfl, by rw [show L0.heap.size = L0.heap.size by omega]; exact (h0.below k1 h0.lt).sl (by decide)⟩
  | 1, _ => exact ⟨L0.heap.size + 1, [0, 0, 253, 0], rfl, knCelH hc 1 _ rfl, by rw [show L0.heap.size + 1 = L1.heap.size by omega]; exact (h1.below k2 h1.lt).sl (by decide)⟩
  | 2, _ => exact ⟨L0.heap.size + 1 + 1, [252, 0, 252, 0], rfl, knCelH hc 2 _ rfl, by rw [show L0.heap.size + 1 + 1 = L2.heap.size by omega]; exact (h2.below k3 h2.lt).sl (by decide)⟩
  | 3, _ => exact ⟨L0.heap.size + 1 + 1 + 1, [253, 0, 253, 0], rfl, knCelH hc 3 _ rfl, by rw [show L0.heap.size + 1 + 1 + 1 = L3.heap.size by omega]; exact (h3.below k4 h3.lt).sl (by decide)⟩
  | 4, _ => exact ⟨L0.heap.size + 1 + 1 + 1 + 1, [0, 1, 0, 1], rfl, knCelH hc 4 _ rfl, by rw [show L0.heap.size + 1 + 1 + 1 + 1 = L4.heap.size by omega]; exact (h4.below k5 h4.lt).sl (by decide)⟩
  | 5, _ => exact ⟨L0.heap.size + 1 + 1 + 1 + 1 + 1, [3, 0, 9, 0], rfl, knCelH hc 5 _ rfl, by rw [show L0.heap.size + 1 + 1 + 1 + 1 + 1 = L5.heap.size by omega]; exact (h5.below k6 h5.lt).sl (by decide)⟩
  | 6, _ => exact ⟨L0.heap.size + 1 + 1 + 1 + 1 + 1 + 1, [3, 0, 252, 0], rfl, knCelH hc 6 _ rfl, by rw [show L0.heap.size + 1 + 1 + 1 + 1 + 1 + 1 = L6.heap.size by omega]; exact (h6.below k7 h6.lt).sl (by decide)⟩
  | 7, _ => exact ⟨L0.heap.size + 1 + 1 + 1 + 1 + 1 + 1 + 1, [0, 0, 252, 0], rfl, knCelH hc 7 _ rfl, by rw [show L0.heap.size + 1 + 1 + 1 + 1 + 1 + 1 + 1 = L7.heap.size by omega]; exact (h7.below k8 h7.lt).sl (by decide)⟩
  | n + 8, h => omega
/-- A gap as it is where no call made it. -/
theorem kn_build (W : World) : (Instr.build 39 #[]).run Try.prog W = .ok (.agg (gZ 0 0).toArray) W := by
  refine run_build W 39 _ _ ?_
  kernel_rfl
theorem kn_zv (W : World) : (zeroValue 39).run Try.prog W = .ok (.agg (gZ 0 0).toArray) W := by kernel_rfl
theorem kn_zero (W : World) : NoG (W.alloc (.cells (gZ 0 0).toArray 39)) (some ⟨W.heap.size, 0, none⟩) :=
  NoG.zero (by simp) (knCelH (heap_alloc_new W _) 0 _ (by rw [List.getElem?_toArray]; unfold gZ; exact List.getElem?_cons_zero))
end Go.Proofs.Ytheefdplbmneeaa
