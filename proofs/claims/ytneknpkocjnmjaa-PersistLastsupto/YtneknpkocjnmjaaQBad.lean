/- Package persist: a device that does not answer. -/
import Derived.Test.YtneknpkocjnmjaaQBy2
import Derived.Test.YtneknpkocjnmjaaPSt
import Derived.Test.YtneknpkocjnmjaaPNew
namespace Go.Proofs.Ytneknpkocjnmjaa
open Go.RowKit Go.Shelf
set_option linter.unusedVariables false

/-- A pointer to what is no device, or one that is off, in every world that keeps w. -/
def BadD (w : World) (p : Value) (c : Int) : Prop := c ≠ 0 ∧ ∀ W, Below w.heap.size w W → Calls Try.prog 25 #[p] W fun e w' => e = .returned (.int .i64 c) ∧ w' = W
theorem BadD.below {w W : World} {p : Value} {c : Int} (h : BadD w p c) (hB : Below w.heap.size w W) : BadD W p c := ⟨h.1, fun W' hB' => h.2 W' (hB.trans (hB'.mono hB.size))⟩
theorem BadD.of_none {w : World} {p : Option Addr} (h : ∀ W, Below w.heap.size w W → Calls Try.prog 28 #[.pointer p] W fun e w' => e = .returned (.bool true) ∧ w' = W) : BadD w (.pointer p) 1 := ⟨by omega, fun W hB => by
  have KN := hide (h W hB)
  clear h hB
  go_enter Try.func25, Try.ntmps25
  go_wp2_with (go_at_call 28; refine (KN.out).mono ?_; rintro e w' ⟨rfl, hw⟩; obtain rfl := hw.symm)
  go_ret
  exact ⟨rfl, rfl⟩⟩
theorem BadD.nil (w : World) : BadD w (.pointer none) 1 := BadD.of_none fun W _ => by
  go_enter Try.func28, Try.ntmps28
  go_wp2
  go_ret
  exact ⟨rfl, rfl⟩
theorem neq_nilQ (a : Addr) (w : World) : (binOp .neq 27 (.pointer none) (.pointer (some a))).run Try.prog w = .ok (.bool true) w := by
  have h : ∀ d : Nat, (Op.equalIn (d + 1) 27 (.pointer none) (.pointer (some a))).run Try.prog w = .ok false w := fun d => by
    simp [Op.equalIn, run_underlying Try.underlying27]
  simp only [binOp]
  simp [Op.equal, Op.maxDepth, h 9999]
theorem BadD.zero {w : World} {b : Nat} {c1 c2 c3 c4 c5 c6 c7 : Value} (h : w.heap[b]? = some (.cells #[.pointer none, c1, c2, c3, c4, c5, c6, c7] 50 (0, 0))) : BadD w (.pointer (some ⟨b, 0, none⟩)) 1 := BadD.of_none fun W hB => by
  have c0 : W.cell? ⟨b, 0, none⟩ = some (.pointer none) := cell8 ((hB.block b (lt_of_heap h)).trans h) 0
  have hq := neq_nilQ ⟨b, 0, none⟩ W
  clear h hB
  go_enter Try.func28, Try.ntmps28
  go_wp2
  go_ret
  exact ⟨rfl, rfl⟩
theorem BadD.off {w : World} {b : Nat} {L : Lay} {σ : St} (h : DevL w b L σ) (ho : σ.off = true) : BadD w (.pointer (some ⟨b, 0, none⟩)) 5 := ⟨by omega, fun W hB => by
  have ks := pstate_any (h.below hB)
  rw [ho] at ks
  simp only [if_true] at ks
  exact ks⟩
section
variable {w : World} {p : Option Addr} {c : Int}
theorem bad_load (h : BadD w (.pointer p) c) (x y : Int) : Calls Try.prog 12 #[.pointer p, .int .i64 x, .int .i64 y] w fun e w' => e = .returned (.tuple #[.slice none 0 0, .int .i64 c]) ∧ Below w.heap.size w w' := by
  have hA : Below w.heap.size w ((w.alloc (.cells #[.pointer p] 27)).alloc (.cells #[.int .i64 x] 3)) := ((Below.refl _ w).alloc (Nat.le_refl _) _).alloc (by simp) _
  have KS := hide (h.2 _ hA)
  have HA := hide hA
  have hc : (c != 0) = true := by simpa using h.1
  clear h hA
  refine (callsIn_wide (n := 3)).1 ?_
  refine callsIn_of_wp_marks Try.func12 rfl trivial ?_ rfl
  simp only [Try.ntmps12, List.size_toArray, List.length_cons, List.length_nil, Nat.reduceAdd, Nat.reduceSub, Array.replicate_succ, Array.replicate_zero, List.push_toArray, List.append_toArray, List.nil_append, List.cons_append]
  gi_wp2_with (refine ⟨trivial, ?_⟩; gi_at_call 25; refine (inW KS.out).mono ?_; rintro e w' ⟨rfl, hw⟩; obtain rfl := hw)
  exact ⟨_, results_tmp2 rfl _ _ _, rfl, HA.out⟩
theorem bad_turn (h : BadD w (.pointer p) c) (x y : Int) (sl : Value) (W : World) (hB : Below w.heap.size w W) : Calls Try.prog 22 #[.agg #[.pointer p, .int .i64 x, .int .i64 y], sl] W fun e w' => e = .returned (.int .i64 c) ∧ Below W.heap.size W w' :=
  qturn_early (.pointer p) c x y sl (fun W' hB' => (bad_load (h.below (hB.trans (hB'.mono hB.size))) 0 0).mono (fun e w' ⟨h1, h2⟩ => ⟨_, h1, h2⟩)) (.inl h.1)
theorem bad_bytes (h : BadD w (.pointer p) c) (x : Int) (a : Option Addr) (n cap : Nat) : Calls Try.prog 8 #[.pointer p, .int .i64 x, .slice a n cap] w fun e w' => e = .returned (.int .i64 c) ∧ Below w.heap.size w w' := by
  have KT := hide (fun sl W hB => bad_turn h x (n : Int) sl W hB)
  clear h
  go_enter Try.func8, Try.ntmps8
  go_wp2_with (go_at_call 22; refine (KT.out _ _ ?hb).mono ?_; (case hb => exact ((Below.refl _ w).alloc (Nat.le_refl _) _).alloc (by simp) _); rintro e W1 ⟨rfl, hb1⟩; have HB1 := hide hb1; clear hb1)
  go_ret
  exact ⟨rfl, (((Below.refl _ w).alloc (Nat.le_refl _) _).alloc (by simp) _).trans (HB1.out.mono (by simp; omega))⟩
theorem bad_publish (h : BadD w (.pointer p) c) (x : Int) (v : Int) : Calls Try.prog 16 #[.pointer p, .int .i64 x, .int .u64 v] w fun e w' => e = .returned (.int .i64 c) ∧ Below w.heap.size w w' := by
  have KT := hide (fun sl W hB => bad_turn h x 8 sl W hB)
  clear h
  go_enter Try.func16, Try.ntmps16
  go_wp2_with (go_at_call 22; refine (KT.out _ _ ?hb).mono ?_; (case hb => exact ((Below.refl _ w).alloc (Nat.le_refl _) _).alloc (by simp) _); rintro e W1 ⟨rfl, hb1⟩; have HB1 := hide hb1; clear hb1)
  go_ret
  exact ⟨rfl, (((Below.refl _ w).alloc (Nat.le_refl _) _).alloc (by simp) _).trans (HB1.out.mono (by simp; omega))⟩
end

section
variable {w : World} {b : Nat} {L : Lay} {σ : St}
theorem no_turn (h : DevL w b L σ) (hok : σ.Ok) (ho : σ.off = false) (x y : Int) (hy : y < 1) (sl : Value) (W : World) (hB : Below w.heap.size w W) : Calls Try.prog 22 #[.agg #[.pointer (some ⟨b, 0, none⟩), .int .i64 x, .int .i64 y], sl] W fun e w' => e = .returned (.int .i64 0) ∧ Below W.heap.size W w' :=
  qturn_early (.pointer (some ⟨b, 0, none⟩)) 0 x y sl (fun W' hB' => (callsIn_wide.1 (pload_in (at_ := 0) (n := 0) (h.below (hB.trans (hB'.mono hB.size))) hok ho (by omega))).mono (fun e w' ⟨R, h1, _, _, h2⟩ => ⟨_, h1, h2⟩)) (.inr hy)
theorem no_bytes (h : DevL w b L σ) (hok : σ.Ok) (ho : σ.off = false) (x : Int) (a : Option Addr) (cap : Nat) : Calls Try.prog 8 #[.pointer (some ⟨b, 0, none⟩), .int .i64 x, .slice a 0 cap] w fun e w' => e = .returned (.int .i64 0) ∧ Below w.heap.size w w' := by
  have KT := hide (fun sl W hB => no_turn h hok ho x 0 (by omega) sl W hB)
  clear h hok ho
  go_enter Try.func8, Try.ntmps8
  go_wp2_with (go_at_call 22; refine (KT.out _ _ ?hb).mono ?_; (case hb => exact ((Below.refl _ w).alloc (Nat.le_refl _) _).alloc (by simp) _); rintro e W1 ⟨rfl, hb1⟩; have HB1 := hide hb1; clear hb1)
  go_ret
  exact ⟨rfl, (((Below.refl _ w).alloc (Nat.le_refl _) _).alloc (by simp) _).trans (HB1.out.mono (by simp; omega))⟩
end
end Go.Proofs.Ytneknpkocjnmjaa
