/- Package seek: an item is put behind the others. -/
import Derived.Test.YtodooppapciegaaGreatDoorXOne
import Derived.Test.YtodooppapciegaaGreatDoorXRow8
namespace Go.Proofs.YtodooppapciegaaGreatDoor
open Go.RowKit Go.Shelf
set_option linter.unusedVariables false

theorem Tryz.infoIt : (Tryz.prog.info? 101).map (fun i => (i.zero, i.size, i.bytes)) = some (some (.agg #[.int .i64 0, .nilFunc]), 2, 16) := by kernel_rfl
/-- Blocks outside a set are as they were; the streams too. -/
def GrX (X : Nat → Prop) (w w' : World) : Prop := w'.os = w.os ∧ w'.tape = w.tape ∧ w'.output = w.output ∧ w.heap.size ≤ w'.heap.size ∧ ∀ k, k < w.heap.size → ¬ X k → w'.heap[k]? = w.heap[k]?
theorem GrX.of_below {X : Nat → Prop} {w w' : World} (h : Below w.heap.size w w') : GrX X w w' := ⟨h.os, h.tape, h.output, h.size, fun k hk _ => h.block k hk⟩
theorem GrX.of_grown {X : Nat → Prop} {w w' : World} {r : Option Nat} (h : w.grownBy w' r) (hr : ∀ k, r = some k → X k ∨ w.heap.size ≤ k) : GrX X w w' :=
  ⟨h.1, h.2, h.3, h.4, fun k hk hx => h.5 k hk fun e => (hr k e.symm).elim hx fun h => absurd hk (Nat.not_lt.2 h)⟩
theorem GrX.trans {X : Nat → Prop} {a b c : World} (h : GrX X a b) (k : GrX X b c) : GrX X a c :=
  ⟨k.1.trans h.1, k.2.1.trans h.2.1, k.2.2.1.trans h.2.2.1, Nat.le_trans h.2.2.2.1 k.2.2.2.1, fun j hj hx => (k.2.2.2.2 j (Nat.lt_of_lt_of_le hj h.2.2.2.1) hx).trans (h.2.2.2.2 j hj hx)⟩
theorem GrX.keepD {X D : Nat → Prop} {w w' : World} (h : GrX X w w') (hd : ∀ k, D k → k < w.heap.size ∧ ¬ X k) : KeepD D w w' := ⟨h.2.2.2.1, fun k hk => h.2.2.2.2 k (hd k hk).1 (hd k hk).2⟩
/-- A function value that a pattern's item may hold. -/
def PFn (u : Value) : Prop := u = .nilFunc ∨ ∃ f lb, u = .func (.func f) #[] lb
theorem PartV.fn {D : Nat → Prop} {W : World} {v : Value} {P : Ch → Bool} (h : PartV D W v P) : PFn v := by
  obtain ⟨_, f, lb, hv, _⟩ := h
  exact .inr ⟨f, lb, hv⟩
theorem Rx.put {w : World} {b : Nat} {s : ByteArray} {p : Nat} {f : Bool} {v : Value} (h : Rx w b s p f v) (u : Value) : Rx (w.setCell ⟨b, 3, none⟩ u) b s p f u := by
  unfold Rx at *
  exact heap_setCell_same _ _ _ _ _ _ h
theorem cell2_new (W : World) (t : TypeId) (a c : Value) : ∀ j u, [a, c][j]? = some u → (W.alloc (.cells #[a, c] t)).cell? ((⟨W.heap.size, 0, none⟩ : Addr).add j) = some u := by
  intro j u hu
  rw [addr_addS]
  refine cel2 (heap_alloc_new W _) j u ?_
  simpa using hu
theorem own_shape {w : World} {base : Nat} {e : TypeId} {size : Nat} {v : Value} {n : Nat} {xs : List Value} (h : w.ownsRow base e size v n xs) : ∃ a c, v = .slice a n c := by
  rcases h.2 with ⟨rfl, rfl⟩ | ⟨g, cap, cur, rfl, _⟩
  · exact ⟨_, _, rfl⟩
  · exact ⟨_, _, rfl⟩
set_option maxRecDepth 100000 in
set_option maxHeartbeats 1000000 in
theorem xput_any (b : Nat) (s : ByteArray) (p : Nat) (f : Bool) (v u : Value) (k : Int) (n : Nat) (xs : List Value) (w : World) (h : Rx w b s p f v) (hu : PFn u) (ho : w.ownsRow 0 101 2 v n xs) (hvb : v.ownBlock ≠ some b) (hn : n ≤ 1048576) :
    Calls Tryz.prog 26 #[.pointer (some ⟨b, 0, none⟩), .int .i64 k, u] w fun e w' => e = .returned (.tuple #[]) ∧ ∃ v', Rx w' b s p f v' ∧ w'.ownsRow 0 101 2 v' (n + 1) (xs ++ [.int .i64 k, u]) ∧ (v'.ownBlock = v.ownBlock ∨ ∃ g, v'.ownBlock = some g ∧ w.heap.size ≤ g) ∧ GrX (fun j => j = b ∨ some j = v.ownBlock) w w' := by
  obtain ⟨i0, hi, hz0, hz1, hz2⟩ := info_parts Tryz.infoIt
  have c3 := h.items
  have hb : Below w.heap.size w (w.alloc (.cells #[.int .i64 k, u] 101)) := (Below.refl _ w).alloc (Nat.le_refl _) _
  have hr := h.below hb
  have ho' := ho.alloc (.cells #[.int .i64 k, u] 101)
  have hlt := h.lt
  have HB := hide hb
  have HR := hide hr
  have HO := hide ho'
  have HV := hide hvb
  clear h hb hr ho ho' hvb
  rcases hu with rfl | ⟨f1, lb1, rfl⟩
  all_goals (
    go_enter Tryz.func26, Tryz.ntmps26
    go_wp2_with (at_builtin; refine wpList_append_own_at _ rfl _ _ 46 rfl 0 101 i0 (.agg #[.int .i64 0, .nilFunc]) 2 16 Tryz.underlying46 hi hz0 hz1 hz2 rfl (by decide) v n xs rfl HO.out ⟨w.heap.size, 0, none⟩ 1 1 [.int .i64 k, _] rfl rfl (cell2_new w _ _ _) (by simp [Value.oneCell']) (by unfold maxLen; omega) (by omega) (Nat.zero_le _) ?_; intro v1 x1 ho2 hg2 hnn hat; clear hnn; obtain ⟨a1, q1, rfl⟩ := own_shape ho2; have hrx : Rx x1 b s p f v := (hg2.block b HR.out.lt (fun e => HV.out e.symm)).trans HR.out; have z3 := hrx.frz 3; have y3 := hrx.items; have HRX := hide hrx; have HO2 := hide ho2; have HG2 := hide hg2; have HAT := hide hat; clear hrx ho2 hg2 hat)
    go_end0
    have hv1 : (Value.slice a1 (n + 1) q1).ownBlock ≠ some b := fun e => (HAT.out).elim (fun h => HV.out (h.symm.trans e)) (fun h => by have := h.symm.trans e; simp at this; omega)
    refine ⟨rfl, _, HRX.out.put _, HO2.out.kept (grownX_set x1 b 3 _) (.inr hv1), HAT.out.imp id (fun h => ⟨_, h, by simp⟩), ?_⟩
    exact (GrX.of_below HB.out).trans ((GrX.of_grown HG2.out (fun j hj => .inl (.inr hj.symm))).trans (GrX.of_grown (grownX_set x1 b 3 _) (fun j hj => .inl (.inl (by cases hj; rfl))))))
end Go.Proofs.YtodooppapciegaaGreatDoor
