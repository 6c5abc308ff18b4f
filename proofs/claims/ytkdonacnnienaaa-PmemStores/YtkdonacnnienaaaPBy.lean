/- Package pmem: contents' bytes. -/
import Derived.Test.YtkdonacnnienaaaPLay
namespace Go.Proofs.Ytkdonacnnienaaa
open Go.RowKit Go.Shelf
set_option linter.unusedVariables false

set_option maxRecDepth 100000 in
theorem pcb_any (w : World) (c : List Nat) (hc : c.length = 64) : Calls Try.prog 45 #[.agg (c.map B8).toArray] w fun e w' => e = .returned (.slice (some ⟨w.heap.size + 1, 0, none⟩) 64 64) ∧ OwnB w' (w.heap.size + 1) c ∧ Below w.heap.size w w' := by
  obtain ⟨W1, hW1⟩ : ∃ W1, W1 = w.alloc (.cells (c.map B8).toArray 83) := ⟨_, rfl⟩
  have hs1 : W1.heap.size = w.heap.size + 1 := by rw [hW1]; simp
  have hmk : (Instr.makeSlice 28 (.int .i64 64) (.int .i64 64)).run Try.prog W1 = .ok (.slice (some ⟨W1.heap.size, 0, none⟩) 64 64) (W1.alloc (.cells ((List.replicate 64 0).map B8).toArray 5)) := makeB_run 64 (by omega) W1
  have hown : OwnB (W1.alloc (.cells ((List.replicate 64 0).map B8).toArray 5)) (w.heap.size + 1) (List.replicate 64 0) := by rw [← hs1]; exact heapNew W1 _
  have hB : Below w.heap.size w (W1.alloc (.cells ((List.replicate 64 0).map B8).toArray 5)) := by rw [hW1]; exact ((Below.refl _ w).alloc (Nat.le_refl _) _).alloc (by simp) _
  have hrn : (W1.alloc (.cells ((List.replicate 64 0).map B8).toArray 5)).rangeAt w.heap.size 0 (c.map B8) := by
    rw [hW1]
    exact range_all ((((Below.refl _ (w.alloc (.cells (c.map B8).toArray 83))).alloc (Nat.le_refl _) _).block _ (by simp)).trans (heapNew w _))
  have kl := play_any _ (w.heap.size + 1) 64 64 c _ hc (Nat.le_refl _) (Nat.le_refl _) (by simp) hown
  have hsp : splice (List.replicate 64 0) 0 c = c := by
    unfold splice
    rw [hc]
    simp
  rw [hsp] at kl
  rw [hs1] at hmk
  generalize hR : ((List.replicate 64 0).map B8).toArray = R at *
  rw [hW1] at hmk hrn kl hB
  have KL := hide kl
  have HRN := hide hrn
  have HC := hide hc
  have HB := hide hB
  clear kl hrn hR hsp hown hs1 hW1 W1 hc hB
  go_enter Try.func45, Try.ntmps45
  go_wp2_with (first | (refine wpList_load_mid rfl 83 (.tmp 1) rfl w.heap.size 0 (by kernel_rfl) (c.map B8) (.array 8 81) HRN.out (by kernel_rfl) rfl (by rw [List.length_map, HC.out]; kernel_rfl) ?_) | (go_at_call 43; refine (KL.out).mono ?_; rintro e w' ⟨rfl, h1, h2⟩; have H1 := hide h1; have H2 := hide h2; clear h1 h2))
  go_ret
  have h5 := H2.out
  have h6 := HB.out
  refine ⟨rfl, H1.out, h5.1.trans h6.os, h5.2.1.trans h6.tape, h5.2.2.1.trans h6.output, Nat.le_trans h6.size h5.size, fun k hk => (h5.block (Nat.lt_of_lt_of_le hk h6.size) (by omega)).trans (h6.block k hk)⟩
/-- A row of rows of bytes, laid since B. -/
def RowsB (W : World) (B : Nat) (lv : Value) (cs : List (List Nat)) : Prop :=
  ∃ vals : List Value, W.ownsRow B 28 1 lv cs.length vals ∧ vals.length = cs.length ∧ ∀ (i : Nat) (c : List Nat), cs[i]? = some c → ∃ g, vals[i]? = some (.slice (some ⟨g, 0, none⟩) 64 64) ∧ B ≤ g ∧ OwnB W g c
theorem RowsB.nil (W : World) (B : Nat) : RowsB W B (.slice none 0 0) [] := ⟨[], ⟨rfl, .inl ⟨rfl, rfl⟩⟩, rfl, fun i c h => by simp at h⟩
theorem infoRow : ∃ i, Try.prog.info? 28 = some i ∧ i.zero = some (.slice none 0 0) ∧ i.size = 1 ∧ i.bytes = 24 := by
  have h : (Try.prog.info? 28).map (fun i => (i.zero, i.size, i.bytes)) = some (some (.slice none 0 0), 1, 24) := by kernel_rfl
  obtain ⟨i, h1, h2⟩ := Option.map_eq_some_iff.1 h
  simp only [Prod.mk.injEq] at h2
  exact ⟨i, h1, h2.1, h2.2.1, h2.2.2⟩
end Go.Proofs.Ytkdonacnnienaaa
