/- Package seek: kinds of characters: one of several. -/
import Derived.Test.YtodooppapciegaaGreatDoorXPart2
namespace Go.Proofs.YtodooppapciegaaGreatDoor
open Go.RowKit Go.Shelf
set_option linter.unusedVariables false

/-- A row of kinds: it lies in the set, too. -/
def PartsV (D : Nat → Prop) (W : World) (v : Value) (Ps : List (Ch → Bool)) : Prop :=
  (∀ k, D k → k < W.heap.size) ∧ ((v = .slice none 0 0 ∧ Ps = []) ∨ ∃ g cap, v = .slice (some ⟨g, 0, none⟩) Ps.length cap ∧ D g ∧ ∀ (i : Nat) P, Ps[i]? = some P → ∃ u, W.cell? ⟨g, i, none⟩ = some u ∧ PartV D W u P)
theorem PartsV.keep {D : Nat → Prop} {W W' : World} {v : Value} {Ps : List (Ch → Bool)} (h : PartsV D W v Ps) (hb : KeepD D W W') : PartsV D W' v Ps := by
  refine ⟨fun k hk => Nat.lt_of_lt_of_le (h.1 k hk) hb.1, ?_⟩
  rcases h.2 with h | ⟨g, cap, hv, hg, hc⟩
  · exact .inl h
  · refine .inr ⟨g, cap, hv, hg, fun i P hP => ?_⟩
    obtain ⟨u, h1, h2⟩ := hc i P hP
    exact ⟨u, (World.cell?_of_block (hb.2 g hg)).trans h1, h2.keep hb⟩
theorem PartsV.shape {D : Nat → Prop} {W : World} {v : Value} {Ps : List (Ch → Bool)} (h : PartsV D W v Ps) : ∃ a cap, v = .slice a Ps.length cap := by
  rcases h.2 with ⟨h1, h2⟩ | ⟨g, cap, hv, _⟩
  · subst h2; exact ⟨none, 0, h1⟩
  · exact ⟨_, cap, hv⟩
theorem any_at {Ps : List (Ch → Bool)} {c : Ch} {k : Nat} {P : Ch → Bool} (hP : Ps[k]? = some P) (h : P c = true) : Ps.any (fun P => P c) = true := List.any_eq_true.2 ⟨P, List.mem_of_getElem? hP, h⟩
theorem any_none {Ps : List (Ch → Bool)} {c : Ch} (h : ∀ (j : Nat) (P : Ch → Bool), Ps[j]? = some P → P c = false) : Ps.any (fun P => P c) = false := by
  rw [List.any_eq_false]
  intro P hP
  obtain ⟨j, hj⟩ := List.getElem?_of_mem hP
  rw [h j P hj]
  simp
set_option maxHeartbeats 2000000 in
theorem oneOf1_any (D : Nat → Prop) (B : Nat) (v : Value) (Ps : List (Ch → Bool)) (c : Ch) (w : World) (h : w.heap[B]? = some (.cells #[v] 102 (0, 0))) (hp : PartsV D w v Ps) (hn : Ps.length ≤ 1048576) :
    Calls Tryz.prog 83 #[chV c, .pointer (some ⟨B, 0, none⟩)] w fun e w' => e = .returned (.bool (Ps.any fun P => P c)) ∧ Below w.heap.size w w' := by
  obtain ⟨c0, c1⟩ := c
  obtain ⟨R, hR⟩ : ∃ R, (Ps.any fun P => P (c0, c1)) = R := ⟨_, rfl⟩
  rw [hR]
  have hb : Below w.heap.size w (w.alloc (.cells #[.int .i32 c0, .bool c1] 71)) := (Below.refl _ w).alloc (Nat.le_refl _) _
  have e0 := cel2 ((hb.block B (Array.getElem?_eq_some_iff.1 h).1).trans h) 0 _ rfl
  have hbx := heap_alloc_new w (.cells #[.int .i32 c0, .bool c1] 71)
  have hpx := hp.keep (.of_below hb hp.1)
  have HR := hide hR
  have HB := hide hb
  have HBX := hide hbx
  have HP := hide hpx
  have hnI : (Ps.length : Int) ≤ 1048576 := by omega
  obtain ⟨a, cap, rfl⟩ := hp.shape
  unfold chV
  simp only
  clear h hb hR hbx hpx hp
  go_enter Tryz.func83, Tryz.ntmps83
  go_wp2_with (fail)
  generalize w.alloc (.cells #[.int .i32 c0, .bool c1] 71) = X at *
  go_loopw [8] (fun i wr => ∃ k : Nat, i = .int .i64 (k : Int) ∧ k ≤ Ps.length ∧ (∀ j P, j < k → Ps[j]? = some P → P (c0, c1) = false) ∧ Below X.heap.size X wr) (fun i _ => Ps.length - (intOf i).toNat)
  case atStart => exact ⟨0, rfl, Nat.zero_le _, fun j P hj => absurd hj (Nat.not_lt_zero _), Below.refl _ _⟩
  case round =>
    obtain ⟨k, rfl, hk, hall, hbr⟩ := hrel
    have HALL := hide hall
    have HBR := hide hbr
    clear hall hbr e0
    by_cases hlt : k < Ps.length
    · have hltI : (k : Int) < (Ps.length : Int) := by omega
      obtain ⟨P, hP⟩ : ∃ P, Ps[k]? = some P := ⟨_, List.getElem?_eq_getElem hlt⟩
      rcases HP.out.2 with ⟨_, h2⟩ | ⟨g, cap', hv, hgD, hc⟩
      · subst h2; simp at hlt
      cases hv
      obtain ⟨u, hu, hpu⟩ := hc k P hP
      have hg : g < X.heap.size := HP.out.1 g hgD
      have hkd : KeepD D X wr := .of_below HBR.out HP.out.1
      obtain ⟨_, f, lb, rfl, hen, hcl⟩ := hpu
      have hu' := (HBR.out.cell (p := ⟨g, k, none⟩) hg).trans hu
      have hx' := (HBR.out.block _ (Array.getElem?_eq_some_iff.1 HBX.out).1).trans HBX.out
      have x0 := cel2 hx' 0 _ rfl
      have x1 := cel2 hx' 1 _ rfl
      have kc := hcl wr hkd (c0, c1)
      unfold chV at kc
      simp only at kc
      have KC := hide kc
      have HPK := hide hP
      clear hcl hu hx' hc kc hP hkd hgD
      cases hpc : P (c0, c1) with
      | true =>
        rw [hpc] at KC
        have hV := any_at (c := (c0, c1)) HPK.out hpc
        rw [HR.out] at hV
        subst hV
        clear hpc
        go_wp2_with (refine (KC.out).mono ?_; rintro e z ⟨rfl, hbz⟩; have HZ := hide hbz; clear hbz)
        go_ret
        exact ⟨rfl, bseq (bseq HB.out HBR.out) HZ.out⟩
      | false =>
        rw [hpc] at KC
        have HF := hide hpc
        clear hpc
        go_wp2_with (refine (KC.out).mono ?_; rintro e z ⟨rfl, hbz⟩; have HZ := hide hbz; clear hbz)
        go_roundw
        case rel =>
          refine ⟨k + 1, by go_num, by omega, fun j Q hj hQ => ?_, bseq HBR.out HZ.out⟩
          by_cases hjk : j = k
          · subst hjk
            rw [HPK.out] at hQ
            cases hQ
            exact HF.out
          · exact HALL.out j Q (by omega) hQ
        case measure => simp [intOf]; omega
    · have hge : (Ps.length : Int) ≤ (k : Int) := by omega
      have hV := any_none (Ps := Ps) (c := (c0, c1)) (fun j P hP => HALL.out j P (by have := (List.getElem?_eq_some_iff.1 hP).1; omega) hP)
      rw [HR.out] at hV
      subst hV
      go_wp2_with (fail)
      go_ret
      exact ⟨rfl, bseq HB.out HBR.out⟩
set_option maxHeartbeats 1000000 in
theorem oneOf_any (D : Nat → Prop) (v : Value) (Ps : List (Ch → Bool)) (w : World) (hp : PartsV D w v Ps) (hn : Ps.length ≤ 1048576) :
    Calls Tryz.prog 74 #[v] w fun e w' => ∃ u, e = .returned u ∧ PartV (fun k => D k ∨ k = w.heap.size) w' u (fun c => Ps.any fun P => P c) ∧ Below w.heap.size w w' := by
  have hb : Below w.heap.size w (w.alloc (.cells #[v] 102)) := (Below.refl _ w).alloc (Nat.le_refl _) _
  have hpp : PartV (fun k => D k ∨ k = w.heap.size) (w.alloc (.cells #[v] 102)) (.func (.func 83) #[] #[.pointer (some ⟨w.heap.size, 0, none⟩)]) (fun c => Ps.any fun P => P c) :=
    ⟨fun k hk => by rcases hk with hk | hk; · have := hp.1 k hk; simp; omega
                    · rw [hk]; simp, 83, #[.pointer (some ⟨w.heap.size, 0, none⟩)], rfl, enters_of Tryz.func83 (by kernel_rfl) rfl, fun W' hB c => oneOf1_any D w.heap.size v Ps c W' ((hB.2 _ (.inr rfl)).trans (heap_alloc_new w _)) (hp.keep ((KeepD.of_below hb hp.1).trans (hB.sub fun k hk => .inl hk))) hn⟩
  obtain ⟨a, cap, rfl⟩ := hp.shape
  have HP := hide hpp
  have HB := hide hb
  clear hpp hb hp
  go_enter Tryz.func74, Tryz.ntmps74
  go_wp2_with (fail)
  go_ret
  exact ⟨_, rfl, HP.out, HB.out⟩
set_option maxHeartbeats 1000000 in
theorem not1_any (D : Nat → Prop) (B : Nat) (v : Value) (P : Ch → Bool) (c : Ch) (w : World) (h : w.heap[B]? = some (.cells #[v] 69 (0, 0))) (hp : PartV D w v P) :
    Calls Tryz.prog 78 #[chV c, .pointer (some ⟨B, 0, none⟩)] w fun e w' => e = .returned (.bool (!P c)) ∧ Below w.heap.size w w' := by
  obtain ⟨hD, f, lb, rfl, hen, hcl⟩ := hp
  obtain ⟨c0, c1⟩ := c
  have hb : Below w.heap.size w (w.alloc (.cells #[.int .i32 c0, .bool c1] 71)) := (Below.refl _ w).alloc (Nat.le_refl _) _
  have e0 := cel2 ((hb.block B (Array.getElem?_eq_some_iff.1 h).1).trans h) 0 _ rfl
  have hx' := heap_alloc_new w (.cells #[.int .i32 c0, .bool c1] 71)
  have x0 := cel2 hx' 0 _ rfl
  have x1 := cel2 hx' 1 _ rfl
  have kc := hcl _ (KeepD.of_below hb hD) (c0, c1)
  have HB := hide hb
  unfold chV at kc ⊢
  simp only at kc ⊢
  have KC := hide kc
  clear h hb hx' hcl kc
  generalize P (c0, c1) = pc at *
  go_enter Tryz.func78, Tryz.ntmps78
  go_wp2_with (refine (KC.out).mono ?_; rintro e z ⟨rfl, hbz⟩; have HZ := hide hbz; clear hbz)
  go_ret
  exact ⟨rfl, bseq HB.out HZ.out⟩
set_option maxHeartbeats 1000000 in
theorem not_any (D : Nat → Prop) (v : Value) (P : Ch → Bool) (w : World) (hp : PartV D w v P) :
    Calls Tryz.prog 66 #[v] w fun e w' => ∃ u, e = .returned u ∧ PartV (fun k => D k ∨ k = w.heap.size) w' u (fun c => !P c) ∧ Below w.heap.size w w' := by
  have hb : Below w.heap.size w (w.alloc (.cells #[v] 69)) := (Below.refl _ w).alloc (Nat.le_refl _) _
  have hpp : PartV (fun k => D k ∨ k = w.heap.size) (w.alloc (.cells #[v] 69)) (.func (.func 78) #[] #[.pointer (some ⟨w.heap.size, 0, none⟩)]) (fun c => !P c) :=
    ⟨fun k hk => by rcases hk with hk | hk; · have := hp.1 k hk; simp; omega
                    · rw [hk]; simp, 78, #[.pointer (some ⟨w.heap.size, 0, none⟩)], rfl, enters_of Tryz.func78 (by kernel_rfl) rfl, fun W' hB c => not1_any D w.heap.size v P c W' ((hB.2 _ (.inr rfl)).trans (heap_alloc_new w _)) (hp.keep ((KeepD.of_below hb hp.1).trans (hB.sub fun k hk => .inl hk)))⟩
  obtain ⟨hD, f, lb, rfl, hen, hcl⟩ := hp
  have HP := hide hpp
  have HB := hide hb
  clear hpp hb hen hcl
  go_enter Tryz.func66, Tryz.ntmps66
  go_wp2_with (fail)
  go_ret
  exact ⟨_, rfl, HP.out, HB.out⟩
end Go.Proofs.YtodooppapciegaaGreatDoor
