/- Package seek: written, where a mark stands behind a backslash. -/
import Derived.Test.YtodooppapciegaaGreatDoorXEscM
namespace Go.Proofs.YtodooppapciegaaGreatDoor
open Go.RowKit Go.Shelf
set_option linter.unusedVariables false
set_option linter.unusedSimpArgs false

set_option maxRecDepth 100000 in
set_option maxHeartbeats 4000000 in
theorem xwritten_mark (b : Nat) (s : ByteArray) (p m : Nat) (f : Bool) (v : Value) (w : World) (h : Rx w b s p f v) (hp : p + 1 < s.size) (hs : s.size ≤ 140737488355328) (h92 : xAt s p 92 = true) (hm : by' (bl s) (p + 1) = m) (hk : mkB m = true) (hm8 : m < 128)
    (hx : ∀ k ∈ [119, 87, 115, 83, 110, 114, 116, 120, 117], xAt s (p + 1) k = false) :
    Calls Tryz.prog 29 #[.pointer (some ⟨b, 0, none⟩)] w fun e w' => e = .returned (.tuple #[.nilFunc, .agg #[.int .i32 (m : Int), .bool true], .bool true]) ∧ Rx w' b s (p + 2) f v ∧ GrX (fun j => j = b) w w' := by
  have hlt := h.lt
  have hB : Below w.heap.size w (w.alloc (.cells #[.int .i32 0, .bool false] 71)) := (Below.refl _ w).alloc (Nat.le_refl _) _
  have kt := xtakes_any b s p 92 f v (w.alloc (.cells #[.int .i32 0, .bool false] 71)) (h.below hB) (by omega) hs
  rw [h92] at kt
  simp only [if_true] at kt
  have ke := fun W (hw : Rx W b s (p + 1) f v) => xescaped_mark b s (p + 1) m f v W hw hp hs hm hk hm8 hx
  have h3 := heap_alloc_new w (.cells #[.int .i32 0, .bool false] 71)
  have hsz : (w.alloc (.cells #[.int .i32 0, .bool false] 71)).heap.size = w.heap.size + 1 := by simp
  have KT := hide kt
  have KE := hide ke
  have H3 := hide h3
  have HLT := hide hlt
  have HB := hide hB
  clear kt ke h3 hlt hB h hx hm hk
  go_enter Tryz.func29, Tryz.ntmps29
  go_upto_region 1 with (fail)
  generalize w.alloc (.cells #[.int .i32 0, .bool false] 71) = X at *
  go_wp2_with (first
    | (go_at_call 25; refine (KT.out).mono ?_; rintro e x ⟨rfl, hRn, hgn⟩; have HR := hide hRn; have G1 := hide ((GrX.of_below HB.out).trans (GrX.of_grown hgn (fun j hj => .inl (by cases hj; rfl)) : GrX (fun j => j = b) X x)); have Q3 := hide ((hgn.block w.heap.size (by rw [hsz]; omega) (fun e => by have := HLT.out; cases e; omega)).trans H3.out); clear hRn hgn KT)
    | (go_at_call 49; refine (KE.out _ HR.out).mono ?_; rintro e y ⟨rfl, hRn, hgn⟩; have HRY := hide hRn; have G2 := hide (G1.out.trans hgn); have Q4 := hide ((hgn.2.2.2.2 w.heap.size (Array.getElem?_eq_some_iff.1 Q3.out).1 (by have := HLT.out; omega)).trans Q3.out); obtain ⟨a30, a31, a3f⟩ := chr_facts (b := b) Q4.out; clear hRn hgn KE))
  have u3 : ((y.setCell ⟨w.heap.size, 0, none⟩ (.int .i32 (m : Int))).setCell ⟨w.heap.size, 1, none⟩ (.bool true)).heap[w.heap.size]? = some (.cells #[.int .i32 (m : Int), .bool true] 71 (0, 0)) := heap_setCell_same _ _ 1 _ _ _ (heap_setCell_same y _ 0 _ _ _ Q4.out)
  have hne3 : b ≠ w.heap.size := fun e => by have := HLT.out; omega
  refine bodyPost_ret (results_tctX rfl _ _ w.heap.size _ _ _ _ rfl u3 Tryz.underlying71 rfl (by kernel_rfl)) rfl ?_
  exact ⟨rfl, wrt_rx HRY.out hne3, (G2.out.setNew (Nat.le_refl _)).setNew (Nat.le_refl _)⟩
end Go.Proofs.YtodooppapciegaaGreatDoor
