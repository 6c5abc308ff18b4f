/- Package scan: how a byte is written that does not stand for itself. -/
import Derived.Test.YtaljllbfedfpoaaGreatDoorSEsp
namespace Go.Proofs.YtaljllbfedfpoaaGreatDoor
open Go.RowKit Go.Shelf
set_option linter.unusedVariables false

/-- A digit of sixteen. -/
def hexD (n : Nat) : UInt8 := (#[48, 49, 50, 51, 52, 53, 54, 55, 56, 57, 97, 98, 99, 100, 101, 102] : Array UInt8)[n]?.getD 0
theorem cell_at {w : World} {b : Nat} {cs : Array Value} {T : TypeId} {z : Nat × Nat} (h : w.heap[b]? = some (.cells cs T z)) (o : Nat) {v : Value} (hv : cs[o]? = some v) : w.cell? ⟨b, 0 + o, none⟩ = some v := by
  rw [Nat.zero_add]
  simp [World.cell?, h, hv]
theorem and_lo (f : UInt8) : bits BinOp.and IntKind.u8 (f.toNat : Int) 15 = ((f.toNat % 16 : Nat) : Int) := by
  have h : ∀ n : Fin 256, bits BinOp.and IntKind.u8 ((n.val : Nat) : Int) 15 = ((n.val % 16 : Nat) : Int) := by decide +kernel
  exact h ⟨f.toNat, f.toNat_lt⟩
theorem str_two (y : World) (c d : UInt8) : (convert 25 9 (.slice (some ⟨y.heap.size, 0, none⟩) 2 2)).run Tryz.prog (y.alloc (.cells #[.int .u8 (c.toNat : Int), .int .u8 (d.toNat : Int)] 5)).drew = .ok (.string ⟨#[c, d]⟩) (y.alloc (.cells #[.int .u8 (c.toNat : Int), .int .u8 (d.toNat : Int)] 5)).drew := by
  refine run_convert_bytes_back (P := Tryz.prog) _ 25 9 5 ⟨y.heap.size, 0, none⟩ 2 [c, d] Tryz.underlying25 Tryz.underlying5 Tryz.underlying9 (fun j hj => ?_)
  have h0 : j = 0 ∨ j = 1 := by simp at hj; omega
  have hh : (y.alloc (.cells #[.int .u8 (c.toNat : Int), .int .u8 (d.toNat : Int)] 5)).drew.heap[y.heap.size]? = some (.cells #[.int .u8 (c.toNat : Int), .int .u8 (d.toNat : Int)] 5 (0, 0)) := heap_alloc_new y _
  rcases h0 with rfl | rfl
  · exact cell_at hh 0 rfl
  · exact cell_at hh 1 rfl
set_option maxRecDepth 100000 in
set_option maxHeartbeats 4000000 in
theorem escape_byte (c : Int) (f : UInt8) (w : World) (h : (c == 34) = false ∧ (c == 92) = false ∧ (c == 10) = false ∧ (c == 13) = false ∧ (c == 9) = false ∧ (c == 133) = false ∧ (c == 8232) = false ∧ (c == 8233) = false) :
    Calls Tryz.prog 43 #[.int .i32 c, .int .u8 (f.toNat : Int)] w fun e w' => e = .returned (.string ⟨#[92, 120, hexD (f.toNat / 16), hexD (f.toNat % 16)]⟩) ∧ Below w.heap.size w w' := by
  obtain ⟨h1, h2, h3, h4, h5, h6, h7, h8⟩ := h
  have hf := f.toNat_lt
  obtain ⟨hi, hhi⟩ : ∃ hi, f.toNat / 16 = hi := ⟨_, rfl⟩
  obtain ⟨lo, hlo⟩ : ∃ lo, f.toNat % 16 = lo := ⟨_, rfl⟩
  rw [hhi, hlo]
  have g1 : (f.toNat : Int) / 16 = (hi : Int) := by omega
  have g2 : bits BinOp.and IntKind.u8 (f.toNat : Int) 15 = (lo : Int) := by rw [and_lo, hlo]
  have k1 : hi < 16 := by omega
  have k2 : lo < 16 := by omega
  clear hhi hlo
  go_enter Tryz.func43, Tryz.ntmps43
  go_wp2_with (fail)
  refine Go.wp_mono (Q := noPanS _) ?_ noPanS_le
  refine wp_region_held_drew (S := fun W => True) (by kernel_rfl) trivial (fun hS => ?_)
  refine wpAnyH_take (i := 0) (v := .int .u8 (f.toNat : Int)) rfl (by kernel_rfl) (by kernel_rfl) (by kernel_rfl) (fun _ _ _ h => h) (Or.inl ⟨by kernel_rfl, fun w' hw => by (go_simp)⟩) trivial ?_
  refine wpAnyH_take (i := 1) (v := .int .u8 (hi : Int)) rfl (by kernel_rfl) (by kernel_rfl) (by kernel_rfl) (fun _ _ _ h => h) (Or.inl ⟨by kernel_rfl, fun w' hw => by (go_simp; try exact g1)⟩) trivial ?_
  refine wpAnyH_take (i := 2) (v := .int .u8 ((hexD hi).toNat : Int)) rfl (by kernel_rfl) (by kernel_rfl) (by kernel_rfl) (fun _ _ _ h => h) (Or.inl ⟨by kernel_rfl, fun w' hw => by (clear g1; go_simp; rcases (show hi = 0 ∨ hi = 1 ∨ hi = 2 ∨ hi = 3 ∨ hi = 4 ∨ hi = 5 ∨ hi = 6 ∨ hi = 7 ∨ hi = 8 ∨ hi = 9 ∨ hi = 10 ∨ hi = 11 ∨ hi = 12 ∨ hi = 13 ∨ hi = 14 ∨ hi = 15 by omega) with rfl | rfl | rfl | rfl | rfl | rfl | rfl | rfl | rfl | rfl | rfl | rfl | rfl | rfl | rfl | rfl <;> rfl)⟩) trivial ?_
  refine wpAnyH_take (i := 3) (v := .int .u8 (f.toNat : Int)) rfl (by kernel_rfl) (by kernel_rfl) (by kernel_rfl) (fun _ _ _ h => h) (Or.inl ⟨by kernel_rfl, fun w' hw => by (go_simp)⟩) trivial ?_
  refine wpAnyH_take (i := 4) (v := .int .u8 (lo : Int)) rfl (by kernel_rfl) (by kernel_rfl) (by kernel_rfl) (fun _ _ _ h => h) (Or.inl ⟨by kernel_rfl, fun w' hw => by (go_simp; try exact g2)⟩) trivial ?_
  refine wpAnyH_take (i := 5) (v := .int .u8 ((hexD lo).toNat : Int)) rfl (by kernel_rfl) (by kernel_rfl) (by kernel_rfl) (fun _ _ _ h => h) (Or.inl ⟨by kernel_rfl, fun w' hw => by (clear g2; go_simp; rcases (show lo = 0 ∨ lo = 1 ∨ lo = 2 ∨ lo = 3 ∨ lo = 4 ∨ lo = 5 ∨ lo = 6 ∨ lo = 7 ∨ lo = 8 ∨ lo = 9 ∨ lo = 10 ∨ lo = 11 ∨ lo = 12 ∨ lo = 13 ∨ lo = 14 ∨ lo = 15 by omega) with rfl | rfl | rfl | rfl | rfl | rfl | rfl | rfl | rfl | rfl | rfl | rfl | rfl | rfl | rfl | rfl <;> rfl)⟩) trivial ?_
  refine wpAnyH_ready (rs := [6]) (by kernel_rfl) (by simp) ?_
  refine AllReadyH.cons rfl (fun K hK => ?_) AllReadyH.nil
  rw [if_pos (by kernel_rfl)]
  go_simp
  have hBA : Below w.heap.size w (w.alloc (.cells #[.int .u8 ((hexD hi).toNat : Int), .int .u8 ((hexD lo).toNat : Int)] 5)).drew := ((Below.refl _ w).alloc (Nat.le_refl _) _).drew
  refine hK.out _ _ trivial (fun _ => ?_)
  clear hK K
  have hcv := str_two w (hexD hi) (hexD lo)
  generalize (w.alloc (.cells #[.int .u8 ((hexD hi).toNat : Int), .int .u8 ((hexD lo).toNat : Int)] 5)).drew = Y at *
  refine wpAnyH_ready (rs := [7]) (by kernel_rfl) (by simp) ?_
  refine AllReadyH.cons rfl (fun K hK => ?_) AllReadyH.nil
  rw [if_pos (by kernel_rfl)]
  go_simp
  refine hK.out _ _ trivial (fun _ => ?_)
  clear hK K hcv
  refine wpAnyH_take (i := 8) (v := .string ⟨#[92, 120, hexD hi, hexD lo]⟩) rfl (by kernel_rfl) (by kernel_rfl) (by kernel_rfl) (fun _ _ _ h => h) (Or.inl ⟨by kernel_rfl, fun w' hw => by (go_simp; try rfl)⟩) trivial ?_
  refine wpAnyH_take (i := 9) (v := .string ⟨#[92, 120, hexD hi, hexD lo]⟩) rfl (by kernel_rfl) (by kernel_rfl) (by kernel_rfl) (fun _ _ _ h => h) (Or.inl ⟨by kernel_rfl, fun w' hw => by (go_simp)⟩) trivial ?_
  refine wpAnyH_done (by kernel_rfl) (noPanS_normal ?_) _
  try simp only [Act.put, List.getElem_toArray, List.getElem_cons_zero, List.getElem_cons_succ, List.setIfInBounds_toArray, List.set_cons_zero, List.set_cons_succ]
  go_wp2_with (fail)
  go_ret
  exact ⟨rfl, hBA⟩
end Go.Proofs.YtaljllbfedfpoaaGreatDoor
