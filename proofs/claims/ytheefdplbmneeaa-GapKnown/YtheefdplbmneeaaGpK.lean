/- A gap that is none: nil, or one that no call made. -/
import Derived.Test.YtheefdplbmneeaaGpJ
namespace Go.Proofs.Ytheefdplbmneeaa
open Go.RowKit
set_option linter.unusedVariables false
set_option linter.unusedSimpArgs false

/-- A pointer to no gap, in every world that keeps w. -/
def NoG (w : World) (p : Option Addr) : Prop := ∀ W, Below w.heap.size w W → Calls Try.prog 38 #[.pointer p] W fun e w' => e = .returned (.bool true) ∧ w' = W
theorem NoG.below {w W : World} {p : Option Addr} (h : NoG w p) (hB : Below w.heap.size w W) : NoG W p := fun W' hB' => h W' (hB.trans (hB'.mono hB.size))
theorem NoG.nil (w : World) : NoG w none := fun W _ => by
  go_enter Try.func38, Try.ntmps38
  go_wp2
  go_ret
  exact ⟨rfl, rfl⟩
theorem gneq_nil (a : Addr) (w : World) : (binOp .neq 36 (.pointer none) (.pointer (some a))).run Try.prog w = .ok (.bool true) w := by
  have h : ∀ d : Nat, (Op.equalIn (d + 1) 36 (.pointer none) (.pointer (some a))).run Try.prog w = .ok false w := fun d => by
    simp [Op.equalIn, run_underlying Try.underlying36]
  simp only [binOp]
  simp [Op.equal, Op.maxDepth, h 9999]
theorem NoG.zero {w : World} {b : Nat} (hb : b < w.heap.size) (h : w.cell? ⟨b, 0, none⟩ = some (.pointer none)) : NoG w (some ⟨b, 0, none⟩) := fun W hB => by
  have c0 : W.cell? ⟨b, 0, none⟩ = some (.pointer none) := (hB.cell (p := ⟨b, 0, none⟩) hb).trans h
  have hq := gneq_nil ⟨b, 0, none⟩ W
  clear h hB hb
  go_enter Try.func38, Try.ntmps38
  go_wp2
  go_ret
  exact ⟨rfl, rfl⟩
section
variable {w : World} {p : Option Addr}
theorem n_check (h : NoG w p) (a b : Int) : Calls Try.prog 39 #[.pointer p, .int .i64 a, .int .i64 b] w fun e w' => e = .returned (.int .i64 1) ∧ w' = w := by
  have KN := hide (h w (Below.refl _ _))
  clear h
  go_enter Try.func39, Try.ntmps39
  go_wp2_with (go_at_call 38; refine (KN.out).mono ?_; rintro e w' ⟨rfl, hw⟩; obtain rfl := hw.symm)
  go_ret
  exact ⟨rfl, rfl⟩
theorem n_len (h : NoG w p) : Calls Try.prog 20 #[.pointer p] w fun e w' => e = .returned (.int .i64 0) ∧ w' = w := by
  have KN := hide (h w (Below.refl _ _))
  clear h
  go_enter Try.func20, Try.ntmps20
  go_wp2_with (go_at_call 38; refine (KN.out).mono ?_; rintro e w' ⟨rfl, hw⟩; obtain rfl := hw.symm)
  go_ret
  exact ⟨rfl, rfl⟩
theorem n_room (h : NoG w p) : Calls Try.prog 21 #[.pointer p] w fun e w' => e = .returned (.int .i64 0) ∧ w' = w := by
  have KN := hide (h w (Below.refl _ _))
  clear h
  go_enter Try.func21, Try.ntmps21
  go_wp2_with (go_at_call 38; refine (KN.out).mono ?_; rintro e w' ⟨rfl, hw⟩; obtain rfl := hw.symm)
  go_ret
  exact ⟨rfl, rfl⟩
theorem n_at (h : NoG w p) : Calls Try.prog 15 #[.pointer p] w fun e w' => e = .returned (.int .i64 0) ∧ w' = w := by
  have KN := hide (h w (Below.refl _ _))
  clear h
  go_enter Try.func15, Try.ntmps15
  go_wp2_with (go_at_call 38; refine (KN.out).mono ?_; rintro e w' ⟨rfl, hw⟩; obtain rfl := hw.symm)
  go_ret
  exact ⟨rfl, rfl⟩
theorem n_text (h : NoG w p) : Calls Try.prog 19 #[.pointer p] w fun e w' => e = .returned (.string { data := #[] }) ∧ w' = w := by
  have KN := hide (h w (Below.refl _ _))
  clear h
  go_enter Try.func19, Try.ntmps19
  go_wp2_with (go_at_call 38; refine (KN.out).mono ?_; rintro e w' ⟨rfl, hw⟩; obtain rfl := hw.symm)
  go_ret
  exact ⟨rfl, rfl⟩
theorem n_block (h : NoG w p) : Calls Try.prog 24 #[.pointer p] w fun e w' => e = .returned (.slice none 0 0) ∧ w' = w := by
  have KN := hide (h w (Below.refl _ _))
  clear h
  go_enter Try.func24, Try.ntmps24
  go_wp2_with (go_at_call 38; refine (KN.out).mono ?_; rintro e w' ⟨rfl, hw⟩; obtain rfl := hw.symm)
  go_ret
  exact ⟨rfl, rfl⟩
theorem n_move (h : NoG w p) (a : Int) : Calls Try.prog 16 #[.pointer p, .int .i64 a] w fun e w' => e = .returned (.int .i64 1) ∧ w' = w := by
  have KN := hide (n_check h a a)
  clear h
  go_enter Try.func16, Try.ntmps16
  go_wp2_with (go_at_call 39; refine (KN.out).mono ?_; rintro e w' ⟨rfl, hw⟩; obtain rfl := hw.symm)
  go_ret
  exact ⟨rfl, rfl⟩
theorem n_insert (h : NoG w p) (a : Int) (s : ByteArray) : Calls Try.prog 17 #[.pointer p, .int .i64 a, .string s] w fun e w' => e = .returned (.int .i64 1) ∧ w' = w := by
  have KN := hide (n_check h a a)
  clear h
  go_enter Try.func17, Try.ntmps17
  go_wp2_with (go_at_call 39; refine (KN.out).mono ?_; rintro e w' ⟨rfl, hw⟩; obtain rfl := hw.symm)
  go_ret
  exact ⟨rfl, rfl⟩
theorem n_delete (h : NoG w p) (a b : Int) : Calls Try.prog 18 #[.pointer p, .int .i64 a, .int .i64 b] w fun e w' => e = .returned (.int .i64 1) ∧ w' = w := by
  have KN := hide (n_check h a b)
  clear h
  go_enter Try.func18, Try.ntmps18
  go_wp2_with (go_at_call 39; refine (KN.out).mono ?_; rintro e w' ⟨rfl, hw⟩; obtain rfl := hw.symm)
  go_ret
  exact ⟨rfl, rfl⟩
theorem n_slice (h : NoG w p) (a b : Int) : Calls Try.prog 31 #[.pointer p, .int .i64 a, .int .i64 b] w fun e w' => e = .returned (.tuple #[.string { data := #[] }, .int .i64 1]) ∧ w' = w := by
  have KN := hide (n_check h a b)
  clear h
  go_enter Try.func31, Try.ntmps31
  go_wp2_with (go_at_call 39; refine (KN.out).mono ?_; rintro e w' ⟨rfl, hw⟩; obtain rfl := hw.symm)
  go_ret2
  exact ⟨rfl, rfl⟩
theorem nothing_any (h : NoG w p) : Calls Try.prog 9 #[.pointer p] w fun e w' => e = .returned (.bool true) ∧ w' = w := by
  have K1 := hide (n_slice h 0 0)
  have K2 := hide (n_move h 0)
  have K3 : Hid (Calls Try.prog 17 #[.pointer p, .int .i64 0, .string { data := #[] }] w fun e w' => e = .returned (.int .i64 1) ∧ w' = w) := n_insert h 0 _
  have K4 := hide (n_delete h 0 0)
  have K5 := hide (n_len h)
  have K6 := hide (n_room h)
  have K7 := hide (n_at h)
  have K8 := hide (n_text h)
  have K9 := hide (n_block h)
  clear h
  go_enter Try.func9, Try.ntmps9
  go_wp2_with (first
    | (go_at_call 31; refine (K1.out).mono ?_; rintro e w' ⟨rfl, hw⟩; obtain rfl := hw.symm)
    | (go_at_call 16; refine (K2.out).mono ?_; rintro e w' ⟨rfl, hw⟩; obtain rfl := hw.symm)
    | (go_at_call 17; refine (K3.out).mono ?_; rintro e w' ⟨rfl, hw⟩; obtain rfl := hw.symm)
    | (go_at_call 18; refine (K4.out).mono ?_; rintro e w' ⟨rfl, hw⟩; obtain rfl := hw.symm)
    | (go_at_call 20; refine (K5.out).mono ?_; rintro e w' ⟨rfl, hw⟩; obtain rfl := hw.symm)
    | (go_at_call 21; refine (K6.out).mono ?_; rintro e w' ⟨rfl, hw⟩; obtain rfl := hw.symm)
    | (go_at_call 15; refine (K7.out).mono ?_; rintro e w' ⟨rfl, hw⟩; obtain rfl := hw.symm)
    | (go_at_call 19; refine (K8.out).mono ?_; rintro e w' ⟨rfl, hw⟩; obtain rfl := hw.symm)
    | (go_at_call 24; refine (K9.out).mono ?_; rintro e w' ⟨rfl, hw⟩; obtain rfl := hw.symm))
  go_ret
  exact ⟨rfl, rfl⟩
end
end Go.Proofs.Ytheefdplbmneeaa
