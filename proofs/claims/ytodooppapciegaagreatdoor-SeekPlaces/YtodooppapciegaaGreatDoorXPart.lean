/- Package seek: kinds of characters as functions. -/
import Derived.Test.YtodooppapciegaaGreatDoorXRd
import Derived.RangeFuncNested
import Derived.Laws.ResultCell
namespace Go.Proofs.YtodooppapciegaaGreatDoor
open Go.RowKit
set_option linter.unusedVariables false

/-- A character: its rune or its byte, and whether it is right. -/
abbrev Ch := Int × Bool
def chV (c : Ch) : Value := .agg #[.int .i32 c.1, .bool c.2]
/-- The blocks of a set are as they were. -/
def KeepD (D : Nat → Prop) (W W' : World) : Prop := W.heap.size ≤ W'.heap.size ∧ ∀ k, D k → W'.heap[k]? = W.heap[k]?
theorem KeepD.refl (D : Nat → Prop) (W : World) : KeepD D W W := ⟨Nat.le_refl _, fun _ _ => rfl⟩
theorem KeepD.trans {D : Nat → Prop} {A B C : World} (h : KeepD D A B) (k : KeepD D B C) : KeepD D A C := ⟨Nat.le_trans h.1 k.1, fun j hj => (k.2 j hj).trans (h.2 j hj)⟩
theorem KeepD.sub {D E : Nat → Prop} {A B : World} (h : KeepD E A B) (hd : ∀ k, D k → E k) : KeepD D A B := ⟨h.1, fun k hk => h.2 k (hd k hk)⟩
theorem KeepD.of_below {D : Nat → Prop} {A B : World} (h : Below A.heap.size A B) (hd : ∀ k, D k → k < A.heap.size) : KeepD D A B := ⟨h.size, fun k hk => h.block k (hd k hk)⟩
/-- A function value that says whether a character is of a kind, as long as the blocks of a set are as they are in this world. -/
def PartV (D : Nat → Prop) (W : World) (v : Value) (P : Ch → Bool) : Prop :=
  (∀ k, D k → k < W.heap.size) ∧ ∃ (f : Nat) (lb : Array Value), v = .func (.func f) #[] lb ∧ (∀ args w, (callFunc f args).run Tryz.prog w = .ok (.enter f args) w) ∧
    ∀ W', KeepD D W W' → ∀ c : Ch, Calls Tryz.prog f (#[chV c] ++ lb) W' fun e w' => e = .returned (.bool (P c)) ∧ Below W'.heap.size W' w'
theorem PartV.keep {D : Nat → Prop} {W W' : World} {v : Value} {P : Ch → Bool} (h : PartV D W v P) (hb : KeepD D W W') : PartV D W' v P := by
  obtain ⟨hd, f, lb, hv, he, hc⟩ := h
  exact ⟨fun k hk => Nat.lt_of_lt_of_le (hd k hk) hb.1, f, lb, hv, he, fun W2 h2 c => hc W2 (hb.trans h2) c⟩
theorem PartV.below {D : Nat → Prop} {W W' : World} {v : Value} {P : Ch → Bool} (h : PartV D W v P) (hb : Below W.heap.size W W') : PartV D W' v P := h.keep (.of_below hb h.1)
theorem PartV.wider {D E : Nat → Prop} {W : World} {v : Value} {P : Ch → Bool} (h : PartV D W v P) (hd : ∀ k, D k → E k) (he : ∀ k, E k → k < W.heap.size) : PartV E W v P := by
  obtain ⟨_, f, lb, hv, hen, hc⟩ := h
  exact ⟨he, f, lb, hv, hen, fun W2 h2 c => hc W2 (h2.sub hd) c⟩
theorem PartV.congr {D : Nat → Prop} {W : World} {v : Value} {P Q : Ch → Bool} (h : PartV D W v P) (hp : ∀ c, P c = Q c) : PartV D W v Q := by
  have : P = Q := funext hp
  rw [← this]
  exact h
theorem Tryz.noGuardCh : Tryz.prog.eqGuardType Tryz.prog.depth 71 = false := by kernel_rfl
theorem Tryz.noHeldCh : Tryz.prog.stoodInHeld 71 = false := by kernel_rfl
theorem Tryz.fieldsCh : Tryz.prog.underlying 71 = some (.struct (Tryz.prog.fieldsOf 71)) := by kernel_rfl
theorem eql_ch (a b : Int) (p q : Bool) (w : World) : (Op.equalIn 10000 71 (.agg #[.int .i32 a, .bool p]) (.agg #[.int .i32 b, .bool q])).run Tryz.prog w = .ok (decide ((a, p) = (b, q))) w := by
  rw [run_equalIn_agg w 9999 71 _ _ Tryz.fieldsCh Tryz.noHeldCh]
  have u3 := Tryz.underlying21
  have u9 := Tryz.underlying4
  have a3 := Tryz.isAgg21
  have a9 := Tryz.isAgg4
  unfold Program.fieldsOf
  rw [Tryz.underlying71]
  by_cases h1 : a = b
  · subst h1
    by_cases h2 : p = q
    · subst h2
      simp [Op.eqFields, part, u3, u9, a3, a9, go_sem]
    · simp [Op.eqFields, part, u3, u9, a3, a9, go_sem, h2]
  · simp [Op.eqFields, part, u3, u9, a3, a9, go_sem, h1]
end Go.Proofs.YtodooppapciegaaGreatDoor
