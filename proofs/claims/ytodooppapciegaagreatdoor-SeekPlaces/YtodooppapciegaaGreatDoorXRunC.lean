/- Package seek: a run of a pattern: come. -/
import Derived.Test.YtodooppapciegaaGreatDoorXRunB
import Derived.Deep.Cut
namespace Go.Proofs.YtodooppapciegaaGreatDoor
open Go.RowKit Go.Shelf
set_option linter.unusedVariables false
set_option linter.unusedSimpArgs false

theorem below_dwX (B : Nat) (w : World) (n : Nat) : Below B w (w.drewN n) := ⟨rfl, rfl, rfl, Nat.le_refl _, fun _ _ => rfl⟩
theorem Tryz.infoTh : (Tryz.prog.info? 123).map (fun i => (i.zero, i.size, i.bytes)) = some (some (.agg #[.int .i64 0, .int .i64 0]), 2, 16) := by kernel_rfl
theorem thr_snoc (l : List (Nat × Nat)) (k p : Nat) : thr (l ++ [(k, p)]) = thr l ++ [.int .i64 (k : Int), .int .i64 (p : Int)] := by simp [thr]
theorem frz_of_block {A C : World} {b : Nat} (h : C.heap[b]? = A.heap[b]?) (o : Nat) : C.frozen? ⟨b, o, none⟩ = A.frozen? ⟨b, o, none⟩ := by simp only [World.frozen?, h]
section
variable {B : Nat} {D : Nat → Prop} {s : ByteArray} {g : Bool} {its : List Kd} {w w' : World} {b : Nat} {σ : Rs} {iv nv xv : Value} {S : Nat}
/-- The row of those that come next has grown, and is told to the run. -/
theorem RunC.grow (h : RunC B D s g its w b σ iv nv xv S) {X : World} {v : Value} {k p : Nat} (hg : w.grownBy X xv.ownBlock) (ho : X.ownsRow B 123 2 v (σ.next.length + 1) (thr σ.next ++ [.int .i64 (k : Int), .int .i64 (p : Int)])) (hat : v.ownBlock = xv.ownBlock ∨ ∃ g, v.ownBlock = some g ∧ w.heap.size ≤ g) :
    X.heap[b]? = w.heap[b]? ∧ RunC B D s g its (X.setCell ⟨b, 4, none⟩ v) b { σ with next := σ.next ++ [(k, p)] } iv nv v S ∧ Kr B w (X.setCell ⟨b, 4, none⟩ v) := by
  have hb : X.heap[b]? = w.heap[b]? := hg.block b h.lt (fun e => h.xb e.symm)
  have hS : X.heap[S]? = w.heap[S]? := hg.block S h.ltS (fun e => h.xS e.symm)
  have hB : Below B w X := (Below.refl _ _).grown hg (Nat.le_trans h.lb (Nat.le_of_lt h.lt)) (fun k e => (own_low h.next e).1)
  have hv : v.ownBlock ≠ some b := own_ne ho (hb.trans h.box) (by decide)
  have ha : ∀ k, nv.ownBlock = some k → v.ownBlock ≠ some k := fun k e e2 => by
    rcases hat with e3 | ⟨q, e3, e4⟩
    · exact h.apart k e (e3.symm.trans e2)
    · have e5 : q = k := by simpa using e3.symm.trans e2
      have := (own_low h.now e).2
      omega
  have hn : X.ownsRow B 123 2 nv σ.now.length (thr σ.now) := h.now.kept hg (by
    cases e : nv.ownBlock with
    | none => exact .inl rfl
    | some j => exact .inr fun e2 => h.apart j e e2.symm)
  refine ⟨hb, ?_, ((Kr.refl B w).grown h.next hg (Nat.le_trans h.lb (Nat.le_of_lt h.lt))).set (o := 4) h.lb (hb.trans h.box) (.inl rfl) v⟩
  have k1 := heap_setCell_same X b 4 _ _ v (hb.trans h.box)
  refine ⟨k1, h.items.keep (.of_base (hB.setCell (p := ⟨b, 4, none⟩) h.lb v) (by simpa [World.setCell] using hg.size) h.ltD), hn.kept (grownX_set X b 4 v) (.inr h.nb), ?_, ha, ?_, h.lb, h.lS, h.ltD⟩
  · rw [thr_snoc]
    simp only [List.length_append, List.length_singleton]
    exact ho.kept (grownX_set X b 4 v) (.inr hv)
  · rw [heap_setCell_other X ⟨b, 4, none⟩ S v h.neS.symm, hS]
    exact h.seen
end
set_option maxRecDepth 100000 in
set_option maxHeartbeats 2000000 in
theorem come_any (B : Nat) (D : Nat → Prop) (s : ByteArray) (g : Bool) (its : List Kd) (w : World) (b : Nat) (σ : Rs) (nv : Value) (h : RunN B D s g its w b σ nv) (m : Nat) (ho : σ.Ok its m) (hl : its.length ≤ 65536) (n p : Nat) (hn : n ≤ its.length) (hp : p ≤ m) :
    Calls Tryz.prog 59 #[.pointer (some ⟨b, 0, none⟩), .int .i64 (n : Int), .int .i64 (p : Int)] w fun e w' => e = .returned (.tuple #[]) ∧ RunN B D s g its w' b (come its n p σ) nv ∧ Kr B w w' := by
  obtain ⟨τ, hτ⟩ : ∃ τ, τ = come its n p σ := ⟨_, rfl⟩
  have HT := hide hτ
  rw [← hτ]
  have HO := hide ho
  have HL := hide h
  have HP := hide hp
  have HN := hide hn
  clear ho h hτ hp
  go_enter Tryz.func59, Tryz.ntmps59
  go_wp2_with (fail)
  go_loopw [1] (fun iv wr => ∃ (k : Nat) (ρ : Rs), iv = .int .i64 (k : Int) ∧ k ≤ its.length ∧ ρ.Ok its m ∧ RunN B D s g its wr b ρ nv ∧ Kr B w wr ∧ comeF its p (its.length + 1 - k) k ρ = τ) (fun iv _ => its.length + 1 - (intOf iv).toNat)
  case atStart => exact ⟨n, σ, rfl, HN.out, HO.out, HL.out, Kr.refl _ _, HT.out.symm⟩
  case round =>
    obtain ⟨k, ρ, rfl, hk, ok, hr, hB, hF⟩ := hrel
    obtain ⟨iv, xv, S, hc⟩ := hr
    obtain ⟨ia, iq, rfl⟩ := hc.items.shape
    have hkl : k < ρ.seen.length := by rw [ok.len]; omega
    obtain ⟨x, hx⟩ : ∃ x, ρ.seen[k]? = some x := ⟨_, List.getElem?_eq_getElem hkl⟩
    have cS := hc.cS k x hx
    have c5 := hc.c5
    have c6 := hc.c6
    have fS := hc.frzS
    have hkI : (k : Int) < ((its.length + 1 : Nat) : Int) := by omega
    have hkJ : (k : Int) < (its.length : Int) + 1 := by omega
    have HF := hide hF
    have HC := hide hc
    have OK := hide ok
    have BB := hide hB
    clear HO HL HN HT hF hc ok hB
    by_cases e : x = ρ.round
    · subst e
      have hF2 : ρ = τ := by
        have := HF.out
        rw [show its.length + 1 - k = (its.length - k) + 1 by omega] at this
        unfold comeF at this
        rwa [if_pos hx] at this
      go_wp2_with (fail)
      go_quiet (fail)
      go_wp2_with (fail)
      go_end0
      subst hF2
      exact ⟨rfl, ⟨_, _, _, HC.out.below (below_dwX _ _ _)⟩, BB.out.trans (Kr.drewN _ _ _)⟩
    · have eI : (x : Int) ≠ (ρ.round : Int) := by omega
      have hs : ρ.seen[k]? ≠ some ρ.round := by rw [hx]; simpa using e
      have hF2 := HF.out
      rw [show its.length + 1 - k = (its.length - k) + 1 by omega] at hF2
      unfold comeF at hF2
      rw [if_neg hs] at hF2
      have HF2 := hide hF2
      have HS := hide hs
      clear hF2 hs HF hx
      go_wp2_with (fail)
      go_quiet (fail)
      go_wp2_with (fail)
      go_region
      go_upto_region 3 with (fail)
      have R1 := (HC.out.below (below_dwX _ _ (nq + 1))).mark k ρ.round
      have B1 := (BB.out.trans (Kr.drewN _ _ (nq + 1))).set (o := k) HC.out.lS (HC.out.below (below_dwX _ _ (nq + 1))).seen (.inr (.inl rfl)) (.int .i64 (ρ.round : Int))
      generalize (wr.drewN (nq + 1)).setCell ⟨S, k, none⟩ (.int .i64 (ρ.round : Int)) = V at *
      clear cS c5 c6 fS BB HC eI
      have c0 := R1.c0
      have fb := R1.frz
      have HR := hide R1
      have BB := hide B1
      clear R1 B1
      cases hx2 : its[k]? with
      | none =>
        obtain rfl : k = its.length := by have := List.getElem?_eq_none_iff.1 hx2; omega
        have c7 := HR.out.c7
        have c10 := HR.out.c10
        have c11 := HR.out.c11
        have c12 := HR.out.c12
        have F3 := HF2.out
        rw [hx2] at F3
        simp only at F3
        have HF3 := hide F3
        clear F3
        go_wp2_with (fail)
        (try simp only [Exit.inBlock, Exit.then])
        refine bodyPost_ret (results_none rfl _ _ _) rfl ?_
        have r1 := (HR.out.putN 10 (.int .i64 (p : Int)) { ρ with seen := ρ.seen.set its.length ρ.round, bf := p } rfl rfl rfl rfl)
        have r2 := r1.putN 11 (.int .i64 (ρ.loc : Int)) { ρ with seen := ρ.seen.set its.length ρ.round, bf := p, bt := ρ.loc } rfl rfl rfl rfl
        have r3 := r2.putN 12 (.bool true) { ρ with seen := ρ.seen.set its.length ρ.round, bf := p, bt := ρ.loc, fo := true } rfl rfl rfl rfl
        refine ⟨rfl, ⟨_, _, _, by rw [← HF3.out]; exact r3⟩, ((BB.out.set (o := 10) HR.out.lb HR.out.box (.inl rfl) _).set (o := 11) HR.out.lb r1.box (.inl rfl) _).set (o := 12) HR.out.lb r2.box (.inl rfl) _⟩
      | some y =>
        have hk2 : k < its.length := (List.getElem?_eq_some_iff.1 hx2).1
        have hkI2 : (k : Int) < (its.length : Int) := by omega
        have hkne : (k : Int) ≠ (its.length : Int) := by omega
        have HX2 := hide hx2
        obtain ⟨g0, hgD, cu0⟩ : ∃ g0, ia = some ⟨g0, 0, none⟩ ∧ V.cell? ⟨g0, k * 2, none⟩ = some (.int .i64 (y.1 : Int)) := by
          rcases HR.out.items.2 with ⟨_, h2⟩ | ⟨g0, cap, hv, _, hcc⟩
          · rw [h2] at hk2; simp at hk2
          · cases hv
            obtain ⟨u, h1, _⟩ := hcc k y hx2
            exact ⟨g0, rfl, h1⟩
        subst hgD
        clear hx2
        go_upto_region 6 with (fail)
        have F3 := HF2.out
        rw [HX2.out] at F3
        simp only at F3
        rw [show its.length - k = its.length + 1 - (k + 1) by omega] at F3
        have c8 := HR.out.c8
        have c9 := HR.out.c9
        have c4 := HR.out.c4
        rcases Nat.lt_or_ge y.1 2 with h3 | h3
        · rcases (show y.1 = 0 ∨ y.1 = 1 by omega) with h0 | h0
          · rw [h0] at F3 ⊢
            simp only [if_true] at F3
            cases hbe : ρ.be with
            | true =>
              have hbe' : ({ ρ with seen := ρ.seen.set k ρ.round } : Rs).be = true := hbe
              rw [hbe'] at c8
              rw [if_pos hbe] at F3
              have HF3 := hide F3
              clear F3
              go_wp2_with (fail)
              go_roundw
              case rel => exact ⟨k + 1, _, by go_num, by omega, OK.out.mark (by omega) HS.out, ⟨_, _, _, HR.out⟩, BB.out, HF3.out⟩
              case measure => simp [intOf]; omega
            | false =>
              have hbe' : ({ ρ with seen := ρ.seen.set k ρ.round } : Rs).be = false := hbe
              rw [hbe'] at c8
              rw [if_neg (by rw [hbe]; decide)] at F3
              have HF3 := hide F3
              clear F3
              go_wp2_with (fail)
              (try simp only [Exit.inBlock, Exit.then])
              refine bodyPost_ret (results_none rfl _ _ _) rfl ?_
              exact ⟨rfl, ⟨_, _, _, by rw [← HF3.out]; exact HR.out⟩, BB.out⟩
          · rw [h0] at F3 ⊢
            simp only [if_true, show ¬ (1 = 0) by decide, if_false] at F3
            cases hbe : ρ.en with
            | true =>
              have hbe' : ({ ρ with seen := ρ.seen.set k ρ.round } : Rs).en = true := hbe
              rw [hbe'] at c9
              rw [if_pos hbe] at F3
              have HF3 := hide F3
              clear F3
              go_wp2_with (fail)
              go_roundw
              case rel => exact ⟨k + 1, _, by go_num, by omega, OK.out.mark (by omega) HS.out, ⟨_, _, _, HR.out⟩, BB.out, HF3.out⟩
              case measure => simp [intOf]; omega
            | false =>
              have hbe' : ({ ρ with seen := ρ.seen.set k ρ.round } : Rs).en = false := hbe
              rw [hbe'] at c9
              rw [if_neg (by rw [hbe]; decide)] at F3
              have HF3 := hide F3
              clear F3
              go_wp2_with (fail)
              (try simp only [Exit.inBlock, Exit.then])
              refine bodyPost_ret (results_none rfl _ _ _) rfl ?_
              exact ⟨rfl, ⟨_, _, _, by rw [← HF3.out]; exact HR.out⟩, BB.out⟩
        · have n0 : (y.1 : Int) ≠ 0 := by omega
          have n1 : (y.1 : Int) ≠ 1 := by omega
          rw [if_neg (by omega), if_neg (by omega)] at F3
          have HF3 := hide F3
          have OK2 := hide (OK.out.push (by omega) HS.out HX2.out h3 HP.out)
          have hnx : ρ.next.length ≤ 65537 := by
            have h1 := OK.out.cnt
            have h2 := List.count_le_length (a := ρ.round) (l := ρ.seen)
            have h4 := OK.out.len
            omega
          have ho := HR.out.next.alloc (.cells #[.int .i64 (k : Int), .int .i64 (p : Int)] 123)
          have hsz : B ≤ V.heap.size := Nat.le_trans HR.out.lb (Nat.le_of_lt HR.out.lt)
          have HO := hide ho
          clear F3 ho OK HS
          obtain ⟨i0, hi, hz0, hz1, hz2⟩ := info_parts Tryz.infoTh
          by_cases h2 : y.1 = 2
          · have e2 : (y.1 : Int) = 2 := by omega
            go_wp2_with (at_builtin; go_loud (refine wpList_append_own_at _ rfl _ _ 63 rfl B 123 i0 (.agg #[.int .i64 0, .int .i64 0]) 2 16 Tryz.underlying63 hi hz0 hz1 hz2 rfl (by decide) xv ρ.next.length (thr ρ.next) rfl HO.out ⟨V.heap.size, 0, none⟩ 1 1 [.int .i64 (k : Int), .int .i64 (p : Int)] rfl rfl (cell2_new V _ _ _) (by simp [Value.oneCell']) (by unfold maxLen; omega) (by omega) (by simp; omega) ?_); intro v1 x1 ho2 hg2 hnn hat; clear hnn; obtain ⟨a1, q1, rfl⟩ := own_shape ho2; go_loud (have G1 := hide (HR.out.grow (grownX_trans (World.grownBy_alloc V _ _) hg2) ho2 (hat.imp id (fun h => ⟨_, h, by simp⟩))); have z1 : x1.cell? ⟨b, 4, none⟩ = some xv := (World.cell?_of_block G1.out.1).trans c4; have fz1 : ∀ o, x1.frozen? ⟨b, o, none⟩ = false := fun o => (frz_of_block G1.out.1 o).trans (HR.out.frz o); clear ho2 hg2 hat))
            (try simp only [Exit.inBlock, Exit.then])
            refine bodyPost_ret (results_none rfl _ _ _) rfl ?_
            have F := HF3.out
            rw [if_pos h2] at F
            exact ⟨rfl, ⟨_, _, _, by rw [← F]; exact G1.out.2.1⟩, BB.out.trans G1.out.2.2⟩
          · have e2 : (y.1 : Int) ≠ 2 := by omega
            go_wp2_with (at_builtin; go_loud (refine wpList_append_own_at _ rfl _ _ 63 rfl B 123 i0 (.agg #[.int .i64 0, .int .i64 0]) 2 16 Tryz.underlying63 hi hz0 hz1 hz2 rfl (by decide) xv ρ.next.length (thr ρ.next) rfl HO.out ⟨V.heap.size, 0, none⟩ 1 1 [.int .i64 (k : Int), .int .i64 (p : Int)] rfl rfl (cell2_new V _ _ _) (by simp [Value.oneCell']) (by unfold maxLen; omega) (by omega) (by simp; omega) ?_); intro v1 x1 ho2 hg2 hnn hat; clear hnn; obtain ⟨a1, q1, rfl⟩ := own_shape ho2; go_loud (have G1 := hide (HR.out.grow (grownX_trans (World.grownBy_alloc V _ _) hg2) ho2 (hat.imp id (fun h => ⟨_, h, by simp⟩))); have z1 : x1.cell? ⟨b, 4, none⟩ = some xv := (World.cell?_of_block G1.out.1).trans c4; have fz1 : ∀ o, x1.frozen? ⟨b, o, none⟩ = false := fun o => (frz_of_block G1.out.1 o).trans (HR.out.frz o); clear ho2 hg2 hat))
            have F := HF3.out
            rw [if_neg h2] at F
            have HF4 := hide F
            clear F
            go_roundw
            case rel => exact ⟨k + 1, _, by go_num, by omega, OK2.out, ⟨_, _, _, G1.out.2.1⟩, BB.out.trans G1.out.2.2, HF4.out⟩
            case measure => simp [intOf]; omega
end Go.Proofs.YtodooppapciegaaGreatDoor
