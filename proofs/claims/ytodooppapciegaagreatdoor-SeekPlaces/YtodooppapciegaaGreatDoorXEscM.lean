/- Package seek: escaped, where a mark stands. -/
import Derived.Test.YtodooppapciegaaGreatDoorXWrt
import Derived.Test.YtodooppapciegaaGreatDoorXOne
import Derived.Test.YtodooppapciegaaGreatDoorSJump
import Derived.Deep.Cut
namespace Go.Proofs.YtodooppapciegaaGreatDoor
open Go.RowKit Go.Shelf
set_option linter.unusedVariables false
set_option linter.unusedSimpArgs false

theorem chr_facts {W : World} {R b : Nat} {c0 : Int} {c1 : Bool} (hR : W.heap[R]? = some (.cells #[.int .i32 c0, .bool c1] 71 (0, 0))) : W.cell? ⟨R, 0, none⟩ = some (.int .i32 c0) ∧ W.cell? ⟨R, 1, none⟩ = some (.bool c1) ∧ ∀ o, W.frozen? ⟨R, o, none⟩ = false := by
  refine ⟨cel2 hR 0 _ rfl, cel2 hR 1 _ rfl, fun o => ?_⟩
  simp only [World.frozen?, hR]
  simp
theorem idx_by (s : ByteArray) (p : Nat) (hp : p < s.size) (W : World) : (Instr.index 9 (.string s) (.int .i64 (p : Int))).run Tryz.prog W = .ok (.int .u8 (by' (bl s) p : Int)) W := by
  have h3 : (0 : Int) ≤ (p : Int) ∧ (p : Int) < (s.size : Int) := by omega
  rw [show by' (bl s) p = (s[p]'hp).toNat from by'_get s p hp]
  simp [Instr.index, Sem.run_bind, run_underlying Tryz.underlying9, asIntOf, h3, hp]
set_option maxRecDepth 100000 in
set_option maxHeartbeats 4000000 in
theorem xescaped_mark (b : Nat) (s : ByteArray) (p m : Nat) (f : Bool) (v : Value) (w : World) (h : Rx w b s p f v) (hp : p < s.size) (hs : s.size ≤ 140737488355328) (hm : by' (bl s) p = m) (hk : mkB m = true) (hm8 : m < 128)
    (hx : ∀ k ∈ [119, 87, 115, 83, 110, 114, 116, 120, 117], xAt s p k = false) :
    Calls Tryz.prog 49 #[.pointer (some ⟨b, 0, none⟩)] w fun e w' => e = .returned (.tuple #[.nilFunc, .agg #[.int .i32 (m : Int), .bool true], .bool true]) ∧ Rx w' b s (p + 1) f v ∧ GrX (fun j => j = b) w w' := by
  have hlt := h.lt
  have x119 := hx 119 (by simp)
  have x87 := hx 87 (by simp)
  have x115 := hx 115 (by simp)
  have x83 := hx 83 (by simp)
  have x110 := hx 110 (by simp)
  have x114 := hx 114 (by simp)
  have x116 := hx 116 (by simp)
  have x120 := hx 120 (by simp)
  have x117 := hx 117 (by simp)
  obtain ⟨X, hX⟩ : ∃ X, X = (w.alloc (.cells #[.int .i32 0, .bool false] 71)).alloc (.cells #[.int .i32 0, .bool false] 71) := ⟨_, rfl⟩
  have hB : Below w.heap.size w X := by rw [hX]; exact ((Below.refl _ w).alloc (Nat.le_refl _) _).alloc (by simp) _
  have hsz : X.heap.size = w.heap.size + 2 := by rw [hX]; simp
  have h3 : X.heap[w.heap.size]? = some (.cells #[.int .i32 0, .bool false] 71 (0, 0)) := by
    rw [hX]
    exact (((Below.refl _ (w.alloc (.cells #[.int .i32 0, .bool false] 71))).alloc (Nat.le_refl _) (.cells #[.int .i32 0, .bool false] 71)).block w.heap.size (by simp)).trans (heap_alloc_new w _)
  have h5 : X.heap[w.heap.size + 1]? = some (.cells #[.int .i32 0, .bool false] 71 (0, 0)) := by
    rw [hX]
    have k := heap_alloc_new (w.alloc (.cells #[.int .i32 0, .bool false] 71)) (.cells #[.int .i32 0, .bool false] 71)
    simpa using k
  have HR := hide (h.below hB)
  have HG := hide (grownX_drewN X 0 (some b))
  have HB := hide hB
  have H3 := hide h3
  have H5 := hide h5
  have HLT := hide hlt
  have HM := hide hm
  have HMK := hide hk
  have hpp : p ≤ s.size := Nat.le_of_lt hp
  have hd : decide (p = s.size) = false := decide_eq_false (by omega)
  clear hx h hB h3 h5 hlt hm hk
  go_enter Tryz.func49, Tryz.ntmps49
  go_wp2_with (fail)
  refine wp_scope_n 3 ?_
  go_upto_region 2 with (fail)
  rw [← hX]
  clear hX
  go_upto_region 19 with (first
    | (go_at_call 24; refine (xdone_any b s p f v _ HR.out hpp).mono ?_; rintro e x ⟨rfl, n1, rfl⟩; replace HG := hide (grownX_trans HG.out (grownX_drewN _ n1 (some b))); replace HR := hide (HR.out.drewN n1))
    | (go_at_call 25; refine (xtakes_any b s p _ f v _ HR.out hpp hs).mono ?_; rintro e x ⟨rfl, hRn, hgn⟩; replace HG := hide (grownX_trans HG.out hgn); replace HR := hide hRn; clear hRn hgn; first | (rw [x119] at HR ⊢) | (rw [x87] at HR ⊢) | (rw [x115] at HR ⊢) | (rw [x83] at HR ⊢) | (rw [x110] at HR ⊢) | (rw [x114] at HR ⊢) | (rw [x116] at HR ⊢) | (rw [x120] at HR ⊢) | (rw [x117] at HR ⊢); simp only [Bool.false_eq_true, if_false] at HR))
  have ix := fun W => idx_by s p hp W
  rw [HM.out] at ix
  have ki := fun W => xisMark_any m W
  rw [HMK.out] at ki
  have KI := hide ki
  have c0 := HR.out.text
  have c1 := HR.out.at
  have fb := HR.out.frz
  have q3 := (HG.out.block w.heap.size (by rw [hsz]; omega) (fun e => by have := HLT.out; cases e; omega)).trans H3.out
  have q5 := (HG.out.block (w.heap.size + 1) (by rw [hsz]; omega) (fun e => by have := HLT.out; cases e; omega)).trans H5.out
  have HQ3 := hide q3
  have HQ5 := hide q5
  obtain ⟨a50, a51, a5f⟩ := chr_facts (b := b) q5
  clear ki q3 q5 x119 x87 x115 x83 x110 x114 x116 x120 x117 hd
  go_quiet ((go_at_call 68; refine Calls.quiet_of_same (KI.out _)))
  go_wp2_with (fail)
  have wm : IntKind.i32.wrap (m : Int) = (m : Int) := by rw [IntKind.wrap_i32]; omega
  go_region
  have hne5 : w.heap.size + 1 ≠ b := fun e => by have := HLT.out; omega
  have hne3 : w.heap.size ≠ b := fun e => by have := HLT.out; omega
  obtain ⟨Y, hY⟩ : ∃ Y, Y = ((x.drewN (nq + 1)).setCell ⟨w.heap.size + 1, 0, none⟩ (.int .i32 (m : Int))).setCell ⟨w.heap.size + 1, 1, none⟩ (.bool true) := ⟨_, rfl⟩
  have y5 : Y.heap[w.heap.size + 1]? = some (.cells #[.int .i32 (m : Int), .bool true] 71 (0, 0)) := by
    rw [hY]
    exact heap_setCell_same _ _ 1 _ _ _ (heap_setCell_same (x.drewN (nq + 1)) _ 0 _ _ _ HQ5.out)
  have yo : ∀ k, k ≠ w.heap.size + 1 → Y.heap[k]? = x.heap[k]? := fun k hk => by
    rw [hY]
    exact (heap_setCell_other _ ⟨w.heap.size + 1, 1, none⟩ k _ hk).trans (heap_setCell_other _ ⟨w.heap.size + 1, 0, none⟩ k _ hk)
  have y3 := (yo w.heap.size (by omega)).trans HQ3.out
  have yr : Rx Y b s p f v := (yo b hne5.symm).trans HR.out
  have hGx : GrX (fun j => j = b) w x := (GrX.of_below HB.out).trans (GrX.of_grown HG.out (fun j hj => .inl (by cases hj; rfl)))
  have hGy : GrX (fun j => j = b) w Y := by
    rw [hY]
    exact (show GrX (fun j => j = b) w (x.drewN (nq + 1)) from hGx).setNew (Nat.le_add_right _ _) |>.setNew (Nat.le_add_right _ _)
  rw [← hY]
  have HGY := hide hGy
  have HYR := hide yr
  have HY3 := hide y3
  have HY5 := hide y5
  clear hY yo hGx hGy c0 c1 fb a50 a51 a5f HQ3 HQ5 HG HR
  have c1 := yr.at
  have fb := yr.frz
  have wp1 : IntKind.i64.wrap ((p : Int) + 1) = ((p + 1 : Nat) : Int) := by rw [IntKind.wrap_i64]; omega
  clear yr y3 y5
  go_upto_region 22 with (fail)
  have zr := HYR.out.set (p + 1)
  rw [show ((p + 1 : Nat) : Int) = (p : Int) + 1 by omega] at zr
  have z3 := (heap_setCell_other Y ⟨b, 1, none⟩ (w.heap.size) (.int .i64 ((p : Int) + 1)) hne3).trans HY3.out
  have z5 := (heap_setCell_other Y ⟨b, 1, none⟩ (w.heap.size + 1) (.int .i64 ((p : Int) + 1)) hne5).trans HY5.out
  have zg : GrX (fun j => j = b) w (Y.setCell ⟨b, 1, none⟩ (.int .i64 ((p : Int) + 1))) := HGY.out.trans (GrX.of_grown (grownX_set Y b 1 _) (fun j hj => .inl (by cases hj; rfl)))
  have HZR := hide zr
  have HZ3 := hide z3
  have HZG := hide zg
  obtain ⟨a50, a51, a5f⟩ := chr_facts (b := b) z5
  obtain ⟨a30, a31, a3f⟩ := chr_facts (b := b) z3
  clear zr z3 z5 zg c1 fb wp1 HY3 HY5 HYR HGY
  generalize Y.setCell ⟨b, 1, none⟩ (.int .i64 ((p : Int) + 1)) = Z at *
  go_region
  go_wp2_with (fail)
  rw [jumpA_ret]
  have u3 : (((Z.setCell ⟨w.heap.size, 0, none⟩ (.int .i32 (m : Int))).setCell ⟨w.heap.size, 1, none⟩ (.bool true)).drew).heap[w.heap.size]? = some (.cells #[.int .i32 (m : Int), .bool true] 71 (0, 0)) := heap_setCell_same _ _ 1 _ _ _ (heap_setCell_same Z _ 0 _ _ _ HZ3.out)
  refine bodyPost_ret (results_tctX rfl _ _ w.heap.size _ _ _ _ rfl u3 Tryz.underlying71 rfl (by kernel_rfl)) rfl ?_
  exact ⟨rfl, wrt_rx HZR.out hne3.symm, (HZG.out.setNew (Nat.le_refl _)).setNew (Nat.le_refl _)⟩
end Go.Proofs.YtodooppapciegaaGreatDoor
