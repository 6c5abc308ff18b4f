/- Package seek: what makes atoms: a single character, a set; which bytes are marks. -/
import Derived.Test.YtodooppapciegaaGreatDoorXPart6
namespace Go.Proofs.YtodooppapciegaaGreatDoor
open Go.RowKit Go.Shelf
set_option linter.unusedVariables false

/-- A kind that leans on the blocks of a set and on new ones. -/
def PartO (D : Nat → Prop) (n : Nat) (W : World) (v : Value) (P : Ch → Bool) : Prop := ∃ E : Nat → Prop, (∀ k, E k → D k ∨ n ≤ k) ∧ PartV E W v P
def oneP (f : Bool) (d : Ch) : Ch → Bool := if f = true then alkD d else fun c => decide (c = d)
set_option maxHeartbeats 1000000 in
theorem xone_any (b : Nat) (s : ByteArray) (p : Nat) (f : Bool) (vi : Value) (d : Ch) (w : World) (h : Rx w b s p f vi) :
    Calls Tryz.prog 30 #[.pointer (some ⟨b, 0, none⟩), chV d] w fun e w' => ∃ v, e = .returned v ∧ PartO (fun _ => False) w.heap.size w' v (oneP f d) ∧ Below w.heap.size w w' := by
  obtain ⟨d0, d1⟩ := d
  have hb : Below w.heap.size w (w.alloc (.cells #[.int .i32 d0, .bool d1] 71)) := (Below.refl _ w).alloc (Nat.le_refl _) _
  have hz : (w.alloc (.cells #[.int .i32 d0, .bool d1] 71)).heap.size = w.heap.size + 1 := by simp
  have hx' := heap_alloc_new w (.cells #[.int .i32 d0, .bool d1] 71)
  have x0 := cel2 hx' 0 (.int .i32 d0) rfl
  have x1 := cel2 hx' 1 (.bool d1) rfl
  have hr := h.below hb
  have c2 := hr.fold
  have HB := hide hb
  have HZ := hide hz
  have ka := alike_any (d0, d1) (w.alloc (.cells #[.int .i32 d0, .bool d1] 71))
  have ks := same_any (d0, d1) (w.alloc (.cells #[.int .i32 d0, .bool d1] 71))
  unfold chV at ka ks ⊢
  simp only at ka ks ⊢
  have KA := hide ka
  have KS := hide ks
  clear h hb hz hx' hr ka ks
  cases f with
  | true =>
    go_enter Tryz.func30, Tryz.ntmps30
    go_wp2_with (go_at_call 50; refine (KA.out).mono ?_; rintro e z ⟨v, rfl, hp, hbz⟩; have HP := hide hp; have HBZ := hide hbz; clear hbz hp)
    go_ret
    exact ⟨_, rfl, ⟨_, fun k hk => .inr (by have := HZ.out; omega), HP.out⟩, bseq HB.out HBZ.out⟩
  | false =>
    go_enter Tryz.func30, Tryz.ntmps30
    go_wp2_with (go_at_call 51; refine (KS.out).mono ?_; rintro e z ⟨v, rfl, hp, hbz⟩; have HP := hide hp; have HBZ := hide hbz; clear hbz hp)
    go_ret
    exact ⟨_, rfl, ⟨_, fun k hk => .inr (by have := HZ.out; omega), HP.out⟩, bseq HB.out HBZ.out⟩
def setP (f o : Bool) (Ps : List (Ch → Bool)) : Ch → Bool :=
  let P : Ch → Bool := fun c => Ps.any fun P => P c
  let Q : Ch → Bool := if f = true then fldP P else P
  if o = true then fun c => !Q c else Q
set_option maxHeartbeats 1000000 in
theorem xwhole_any (b : Nat) (s : ByteArray) (p : Nat) (f o : Bool) (vi : Value) (D : Nat → Prop) (v : Value) (Ps : List (Ch → Bool)) (w : World) (h : Rx w b s p f vi) (hp : PartsV D w v Ps) (hn : Ps.length ≤ 1048576) :
    Calls Tryz.prog 52 #[.pointer (some ⟨b, 0, none⟩), v, .bool o] w fun e w' => ∃ u, e = .returned u ∧ PartO D w.heap.size w' u (setP f o Ps) ∧ Below w.heap.size w w' := by
  have k1 := oneOf_any D v Ps w hp hn
  obtain ⟨a, cap, rfl⟩ := hp.shape
  have H := hide h
  have K1 := hide k1
  clear h k1 hp
  cases f with
  | false =>
    cases o with
    | false =>
      go_enter Tryz.func52, Tryz.ntmps52
      go_wp2_with (first | (go_at_call 74; refine (K1.out).mono ?_; rintro e z ⟨u1, rfl, hp1, hb1⟩; have c2 := (H.out.below hb1).fold; have P1 := hide hp1; obtain ⟨_, f1, lb1, rfl, _, _⟩ := hp1; have HB := hide hb1; clear hb1))
      go_ret
      exact ⟨_, rfl, ⟨_, fun k hk => (by have s0 := HB.out.size; rcases hk with hk | hk <;> first | exact .inl hk | exact .inr (by omega)), P1.out⟩, HB.out⟩
    | true =>
      go_enter Tryz.func52, Tryz.ntmps52
      go_wp2_with (first | (go_at_call 74; refine (K1.out).mono ?_; rintro e z ⟨u1, rfl, hp1, hb1⟩; have c2 := (H.out.below hb1).fold; have P1 := hide hp1; obtain ⟨_, f1, lb1, rfl, _, _⟩ := hp1; have HB := hide hb1; clear hb1) | (go_at_call 66; refine (not_any _ _ _ _ P1.out).mono ?_; rintro e z3 ⟨u3, rfl, hp3, hb3⟩; have P3 := hide hp3; obtain ⟨_, f3, lb3, rfl, _, _⟩ := hp3; have HB3 := hide (bseq HB.out hb3); clear hb3))
      go_ret
      exact ⟨_, rfl, ⟨_, fun k hk => (by have s0 := HB.out.size; rcases hk with (hk | hk) | hk <;> first | exact .inl hk | exact .inr (by omega)), P3.out⟩, HB3.out⟩
  | true =>
    cases o with
    | false =>
      go_enter Tryz.func52, Tryz.ntmps52
      go_wp2_with (first | (go_at_call 74; refine (K1.out).mono ?_; rintro e z ⟨u1, rfl, hp1, hb1⟩; have c2 := (H.out.below hb1).fold; have P1 := hide hp1; obtain ⟨_, f1, lb1, rfl, _, _⟩ := hp1; have HB := hide hb1; clear hb1) | (go_at_call 75; refine (folded_any _ _ _ _ P1.out).mono ?_; rintro e z2 ⟨u2, rfl, hp2, hb2⟩; have P2 := hide hp2; obtain ⟨_, f2, lb2, rfl, _, _⟩ := hp2; have HB2 := hide (bseq HB.out hb2); clear hb2))
      go_ret
      exact ⟨_, rfl, ⟨_, fun k hk => (by have s0 := HB.out.size; have s1 := HB2.out.size; rcases hk with (hk | hk) | hk <;> first | exact .inl hk | exact .inr (by omega)), P2.out⟩, HB2.out⟩
    | true =>
      go_enter Tryz.func52, Tryz.ntmps52
      go_wp2_with (first | (go_at_call 74; refine (K1.out).mono ?_; rintro e z ⟨u1, rfl, hp1, hb1⟩; have c2 := (H.out.below hb1).fold; have P1 := hide hp1; obtain ⟨_, f1, lb1, rfl, _, _⟩ := hp1; have HB := hide hb1; clear hb1) | (go_at_call 75; refine (folded_any _ _ _ _ P1.out).mono ?_; rintro e z2 ⟨u2, rfl, hp2, hb2⟩; have P2 := hide hp2; obtain ⟨_, f2, lb2, rfl, _, _⟩ := hp2; have HB2 := hide (bseq HB.out hb2); clear hb2) | (go_at_call 66; refine (not_any _ _ _ _ P2.out).mono ?_; rintro e z3 ⟨u3, rfl, hp3, hb3⟩; have P3 := hide hp3; obtain ⟨_, f3, lb3, rfl, _, _⟩ := hp3; have HB3 := hide (bseq HB2.out hb3); clear hb3))
      go_ret
      exact ⟨_, rfl, ⟨_, fun k hk => (by have s0 := HB.out.size; have s1 := HB2.out.size; rcases hk with ((hk | hk) | hk) | hk <;> first | exact .inl hk | exact .inr (by omega)), P3.out⟩, HB3.out⟩
def mkB (b : Nat) : Bool := (decide (33 ≤ b) && decide (b ≤ 47)) || (decide (58 ≤ b) && decide (b ≤ 64)) || (decide (91 ≤ b) && decide (b ≤ 96)) || (decide (123 ≤ b) && decide (b ≤ 126))
set_option maxHeartbeats 4000000 in
theorem xisMark_any (b : Nat) (w : World) : Calls Tryz.prog 68 #[.int .u8 (b : Int)] w fun e w' => e = .returned (.bool (mkB b)) ∧ w' = w := by
  go_enter Tryz.func68, Tryz.ntmps68
  go_wp2_with (fail)
  all_goals go_ret
  all_goals refine ⟨ret_b ?_, rfl⟩
  all_goals unfold mkB
  all_goals (rw [Bool.eq_iff_iff]; simp only [Bool.or_eq_true, Bool.and_eq_true, decide_eq_true_eq, Bool.false_eq_true, eq_self, true_iff, false_iff]; omega)
end Go.Proofs.YtodooppapciegaaGreatDoor
