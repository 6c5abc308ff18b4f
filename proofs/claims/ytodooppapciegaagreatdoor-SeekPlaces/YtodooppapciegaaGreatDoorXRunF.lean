/- Package seek: a run of a pattern: arrive. -/
import Derived.Test.YtodooppapciegaaGreatDoorXRunE
import Derived.Test.YtodooppapciegaaGreatDoorXPart4
namespace Go.Proofs.YtodooppapciegaaGreatDoor
open Go.RowKit Go.Shelf
set_option linter.unusedVariables false
set_option linter.unusedSimpArgs false

/-- Do these two characters make one line end? -/
def cutV (a c : Ch) : Bool := decide (a = ((13 : Int), true)) && decide (c = ((10 : Int), true))
/-- A place between two characters is come to. -/
def arriveF (n p : Nat) (a c : Ch) (σ : Rs) : Rs :=
  { σ with loc := p, round := σ.round + 1, next := [], be := decide (p = 0) || (endP a && !cutV a c), en := decide (p = n) || (endP c && !cutV a c) }
theorem count_new (l : List Nat) (r : Nat) : 0 ≤ l.count r := Nat.zero_le _
theorem arriveF_ok {its : List Kd} {m n p : Nat} {a c : Ch} {σ : Rs} (h : σ.Ok its m) (hp : p ≤ m) : (arriveF n p a c σ).Ok its m :=
  ⟨h.thn, fun t ht => by simp [arriveF] at ht, h.len, Nat.zero_le _, hp, h.bf, h.bt⟩
/-- The head of a row, of no length. -/
theorem cut0 {w : World} {B n : Nat} {v : Value} {xs : List Value} (h : w.ownsRow B 123 2 v n xs) : ∃ a q, (∀ W, (Instr.sliceAt 63 v none (some (.int .i64 0)) none).run Tryz.prog W = .ok (.slice a 0 q) W) ∧ (Value.slice a 0 q).ownBlock = v.ownBlock ∧ ∀ W' : World, W'.ownsRow B 123 2 v n xs → W'.ownsRow B 123 2 (.slice a 0 q) 0 [] := by
  obtain ⟨it, h1, h2⟩ : ∃ it, Tryz.prog.info? 123 = some it ∧ it.size = 2 := by
    obtain ⟨i0, hi, hz0, hz1, hz2⟩ := info_parts Tryz.infoTh
    exact ⟨i0, hi, hz1⟩
  rcases h.2 with ⟨rfl, rfl⟩ | ⟨g, cap, cur, rfl, hb, hg, hn, hm, hs, hc⟩
  · refine ⟨none, 0, fun W => ?_, rfl, fun W' h' => ⟨rfl, .inl ⟨rfl, rfl⟩⟩⟩
    simp [Instr.sliceAt, Instr.slice, Sem.run_bind, run_underlying Tryz.underlying63, Instr.sliceBounds, Instr.sliceBound, asIntOf, sizeOf, typeInfo, h1, h2]
  · refine ⟨some ⟨g, 0, none⟩, cap, fun W => ?_, rfl, fun W' h' => ⟨rfl, .inr ?_⟩⟩
    · simp [Instr.sliceAt, Instr.slice, Sem.run_bind, run_underlying Tryz.underlying63, Instr.sliceBounds, Instr.sliceBound, asIntOf, sizeOf, typeInfo, h1, h2, Addr.add_mid]
    · rcases h'.2 with ⟨e, _⟩ | ⟨g', cap', cur', e, hb', hg', hn', hm', hs', hc'⟩
      · cases e
      · cases e
        exact ⟨g, cap, cur', rfl, hb', hg', Nat.zero_le _, hm', hs', by simp⟩
theorem World.heap_of_set3 (X : World) (b o1 o2 o3 k : Nat) (u1 u2 u3 : Value) (h : k ≠ b) : (((X.setCell ⟨b, o1, none⟩ u1).setCell ⟨b, o2, none⟩ u2).setCell ⟨b, o3, none⟩ u3).heap[k]? = X.heap[k]? :=
  (heap_setCell_other _ ⟨b, o3, none⟩ k u3 h).trans ((heap_setCell_other _ ⟨b, o2, none⟩ k u2 h).trans (heap_setCell_other _ ⟨b, o1, none⟩ k u1 h))
set_option maxRecDepth 100000 in
set_option maxHeartbeats 4000000 in
theorem arrive_any (B : Nat) (D : Nat → Prop) (s : ByteArray) (g : Bool) (its : List Kd) (w : World) (b : Nat) (σ : Rs) (h : RunL B D s g its w b σ) (hr : σ.round < 4611686018427387904) (p : Nat) (hp : p ≤ s.size) (hs : s.size ≤ 140737488355328) (a c : Ch) :
    Calls Tryz.prog 42 #[.pointer (some ⟨b, 0, none⟩), .int .i64 (p : Int), chV a, chV c] w fun e w' => e = .returned (.tuple #[]) ∧ RunL B D s g its w' b (arriveF s.size p a c σ) ∧ Kr B w w' := by
  obtain ⟨nv, hn⟩ := h
  have hBs := hn.low
  have ea := fun W => ends_any a W
  have ec := fun W => ends_any c W
  obtain ⟨τ, hτ⟩ : ∃ τ, τ = arriveF s.size p a c σ := ⟨_, rfl⟩
  have HT := hide hτ
  rw [← hτ]
  unfold arriveF cutV at hτ
  obtain ⟨a0, a1⟩ := a
  obtain ⟨b0, b1⟩ := c
  have ke1 := fun W => eql_ch a0 13 a1 true W
  have ke2 := fun W => eql_ch b0 10 b1 true W
  unfold chV at ea ec ⊢
  simp only at ea ec ⊢
  have hb1 : Below w.heap.size w (w.alloc (.cells #[.int .i32 a0, .bool a1] 71)) := (Below.refl _ w).alloc (Nat.le_refl _) _
  have hb : Below w.heap.size w ((w.alloc (.cells #[.int .i32 a0, .bool a1] 71)).alloc (.cells #[.int .i32 b0, .bool b1] 71)) := hb1.alloc hb1.size _
  have hx2 := heap_alloc_new (w.alloc (.cells #[.int .i32 a0, .bool a1] 71)) (.cells #[.int .i32 b0, .bool b1] 71)
  have hx1 := (((Below.refl _ (w.alloc (.cells #[.int .i32 a0, .bool a1] 71))).alloc (Nat.le_refl _) (.cells #[.int .i32 b0, .bool b1] 71)).block w.heap.size (by simp)).trans (heap_alloc_new w (.cells #[.int .i32 a0, .bool a1] 71))
  have HX1 := hide hx1
  have HX2 := hide hx2
  have KB := hide (Kr.of_below hb hBs)
  obtain ⟨iv, xv, S, hc⟩ := hn.below hb
  obtain ⟨va, vq, cu, co, cr⟩ := cut0 hc.next
  have HC := hide hc
  have HTT := hide hτ
  have f0 := hc.frz
  have c4 := hc.c4
  have c6 := hc.c6
  have c7 := hc.c7
  have ER := hide hr
  have HEA := hide ea
  have HEC := hide ec
  have KE1 := hide ke1
  have KE2 := hide ke2
  clear hx1 hx2 hb hb1 hBs hn hτ hc ea ec ke1 ke2 hr
  go_enter Tryz.func42, Tryz.ntmps42
  go_upto_region 1 with (fail)
  obtain ⟨A1, hA1⟩ : ∃ A, A = w.heap.size := ⟨_, rfl⟩
  obtain ⟨A2, hA2⟩ : ∃ A, A = A1 + 1 := ⟨_, rfl⟩
  have hA3 : (w.alloc (.cells #[.int .i32 a0, .bool a1] 71)).heap.size = A2 := by rw [hA2, hA1]; simp
  rw [hA3] at HX2
  rw [← hA1] at HX1
  rw [← hA1, ← hA2]
  clear hA1 hA2 hA3
  generalize (w.alloc (.cells #[.int .i32 a0, .bool a1] 71)).alloc (.cells #[.int .i32 b0, .bool b1] 71) = X at *
  obtain ⟨R, hRd⟩ : ∃ R, R = σ.round + 1 := ⟨_, rfl⟩
  have wr1 : IntKind.i64.wrap ((σ.round : Int) + 1) = (R : Int) := by have := ER.out; rw [IntKind.wrap_i64, hRd]; omega
  have HRd := hide hRd
  clear hRd
  have r1 := HC.out.putN 7 (.int .i64 (p : Int)) { σ with loc := p } rfl rfl rfl rfl
  have r2 := r1.putN 6 (.int .i64 (R : Int)) { σ with loc := p, round := R } rfl rfl rfl rfl
  have r3 := r2.put 4 (.slice va 0 vq) { σ with loc := p, round := R, next := [] } nv (.slice va 0 vq) rfl r2.now (cr _ r2.next) (fun k hk e => r2.apart k hk (by rw [← co]; exact e)) rfl
  have k3 := (((KB.out.set (o := 7) HC.out.lb HC.out.box (.inl rfl) (.int .i64 (p : Int))).set (o := 6) HC.out.lb r1.box (.inl rfl) (.int .i64 (R : Int))).set (o := 4) HC.out.lb r2.box (.inl rfl) (.slice va 0 vq))
  have q1 := (World.heap_of_set3 X b 7 6 4 A1 (.int .i64 (p : Int)) (.int .i64 (R : Int)) (.slice va 0 vq) (fun e => by have h1 := HC.out.box; rw [← e, HX1.out] at h1; simp at h1)).trans HX1.out
  have q2 := (World.heap_of_set3 X b 7 6 4 A2 (.int .i64 (p : Int)) (.int .i64 (R : Int)) (.slice va 0 vq) (fun e => by have h1 := HC.out.box; rw [← e, HX2.out] at h1; simp at h1)).trans HX2.out
  have HR := hide r3
  have HK := hide k3
  have HQ1 := hide q1
  have HQ2 := hide q2
  clear r1 r2 r3 k3 q1 q2 co cr HX1 HX2
  go_upto_region 4 with (fail)
  clear c4 c6 c7 f0 cu HC KB
  generalize ((X.setCell ⟨b, 7, none⟩ (.int .i64 (p : Int))).setCell ⟨b, 6, none⟩ (.int .i64 (R : Int))).setCell ⟨b, 4, none⟩ (.slice va 0 vq) = Y at *
  have f0 := HR.out.frz
  have c1 := HR.out.c1
  have c8 := HR.out.c8
  have c9 := HR.out.c9
  have q10 := cel2 HQ1.out 0 _ rfl
  have q11 := cel2 HQ1.out 1 _ rfl
  have q20 := cel2 HQ2.out 0 _ rfl
  have q21 := cel2 HQ2.out 1 _ rfl
  generalize decide ((a0, a1) = ((13 : Int), true)) = cA at *
  generalize decide ((b0, b1) = ((10 : Int), true)) = cB at *
  generalize endP (a0, a1) = eA at *
  generalize endP (b0, b1) = eB at *
  have ke1 := KE1.out
  have ke2 := KE2.out
  clear KE1 KE2
  rcases (show cA = false ∨ (cA = true ∧ cB = false) ∨ (cA = true ∧ cB = true) by cases cA <;> cases cB <;> simp) with rfl | ⟨rfl, rfl⟩ | ⟨rfl, rfl⟩
  · go_upto_region 5 with (fail)
    rcases (show p = 0 ∨ (p ≠ 0 ∧ eA = false) ∨ (p ≠ 0 ∧ eA = true) by by_cases h : p = 0 <;> cases eA <;> simp [h]) with hp0 | ⟨hp0, rfl⟩ | ⟨hp0, rfl⟩
    · have hp0I : (p : Int) = 0 := by omega
      go_upto_region 6 with (fail)
      have r5 := hide (HR.out.putN 8 (.bool true) { σ with loc := p, round := R, next := [], be := true } rfl rfl rfl rfl)
      have k5 := hide (HK.out.set (o := 8) HR.out.lb HR.out.box (.inl rfl) (.bool true))
      have q5 := hide ((heap_setCell_other Y ⟨b, 8, none⟩ A2 (.bool true) (fun e => by have h1 := HR.out.box; rw [show b = A2 from e.symm, HQ2.out] at h1; simp at h1)).trans HQ2.out)
      clear f0 c1 c8 c9 q20 q21 HR HK HQ2
      generalize Y.setCell ⟨b, 8, none⟩ (.bool true) = Y5 at *
      have f0 := r5.out.frz
      have c1 := r5.out.c1
      have c9 := r5.out.c9
      have q20 := cel2 q5.out 0 _ rfl
      have q21 := cel2 q5.out 1 _ rfl
      rcases (show p = s.size ∨ (p ≠ s.size ∧ eB = false) ∨ (p ≠ s.size ∧ eB = true) by by_cases h : p = s.size <;> cases eB <;> simp [h]) with hps | ⟨hps, rfl⟩ | ⟨hps, rfl⟩
      · have hpsJ : (s.size : Int) = 0 := by omega
        have hpsM : True := trivial
        go_wp2_with (fail)
        go_end0
        have e1 : (decide (p = 0) || (eA && !(false && cB))) = true := by rw [decide_eq_true hp0]; rfl
        have e2 : (decide (p = s.size) || (eB && !(false && cB))) = true := by rw [decide_eq_true hps]; rfl
        have eτ : τ = { σ with loc := p, round := R, next := [], be := true, en := true } := by rw [HTT.out, ← HRd.out, e1, e2]
        rw [eτ]
        exact ⟨rfl, ⟨_, _, _, _, r5.out.putN 9 (.bool true) { σ with loc := p, round := R, next := [], be := true, en := true } rfl rfl rfl rfl⟩, k5.out.set (o := 9) r5.out.lb r5.out.box (.inl rfl) (.bool true)⟩
      · have hpsI : (p : Int) ≠ (s.size : Int) := by omega
        have hpsQ : ((p : Int) == (s.size : Int)) = false := beq_eq_false_iff_ne.2 hpsI
        have hpsJ : (s.size : Int) ≠ 0 := by omega
        have hpsL : ((0 : Int) == (s.size : Int)) = false := beq_eq_false_iff_ne.2 (by omega)
        go_wp2_with (go_at_call_of 48 (Value.agg #[.int .i32 b0, .bool b1]); refine (HEC.out _).mono ?_; rintro e zB ⟨rfl, hz⟩; have RB := hide (r5.out.below hz); have KC := hide (k5.out.trans (Kr.of_below hz (Nat.le_trans r5.out.lb (Nat.le_of_lt r5.out.lt)))); have f2 := RB.out.frz; have v2 := RB.out.c9; clear hz)
        go_end0
        have e1 : (decide (p = 0) || (eA && !(false && cB))) = true := by rw [decide_eq_true hp0]; rfl
        have e2 : (decide (p = s.size) || (false && !(false && cB))) = false := by rw [decide_eq_false hps]; rfl
        have eτ : τ = { σ with loc := p, round := R, next := [], be := true, en := false } := by rw [HTT.out, ← HRd.out, e1, e2]
        rw [eτ]
        exact ⟨rfl, ⟨_, _, _, _, RB.out.putN 9 (.bool false) { σ with loc := p, round := R, next := [], be := true, en := false } rfl rfl rfl rfl⟩, KC.out.set (o := 9) RB.out.lb RB.out.box (.inl rfl) (.bool false)⟩
      · have hpsI : (p : Int) ≠ (s.size : Int) := by omega
        have hpsQ : ((p : Int) == (s.size : Int)) = false := beq_eq_false_iff_ne.2 hpsI
        have hpsJ : (s.size : Int) ≠ 0 := by omega
        have hpsL : ((0 : Int) == (s.size : Int)) = false := beq_eq_false_iff_ne.2 (by omega)
        go_wp2_with (go_at_call_of 48 (Value.agg #[.int .i32 b0, .bool b1]); refine (HEC.out _).mono ?_; rintro e zB ⟨rfl, hz⟩; have RB := hide (r5.out.below hz); have KC := hide (k5.out.trans (Kr.of_below hz (Nat.le_trans r5.out.lb (Nat.le_of_lt r5.out.lt)))); have f2 := RB.out.frz; have v2 := RB.out.c9; clear hz)
        go_end0
        have e1 : (decide (p = 0) || (eA && !(false && cB))) = true := by rw [decide_eq_true hp0]; rfl
        have e2 : (decide (p = s.size) || (true && !(false && cB))) = true := by rw [decide_eq_false hps]; rfl
        have eτ : τ = { σ with loc := p, round := R, next := [], be := true, en := true } := by rw [HTT.out, ← HRd.out, e1, e2]
        rw [eτ]
        exact ⟨rfl, ⟨_, _, _, _, RB.out.putN 9 (.bool true) { σ with loc := p, round := R, next := [], be := true, en := true } rfl rfl rfl rfl⟩, KC.out.set (o := 9) RB.out.lb RB.out.box (.inl rfl) (.bool true)⟩
    · have hp0I : (p : Int) ≠ 0 := by omega
      have hp0Q : ((p : Int) == 0) = false := beq_eq_false_iff_ne.2 hp0I
      go_upto_region 6 with (go_at_call_of 48 (Value.agg #[.int .i32 a0, .bool a1]); refine (HEA.out _).mono ?_; rintro e zA ⟨rfl, hz⟩; go_loud (have RA := hide (HR.out.below hz); have KA := hide (HK.out.trans (Kr.of_below hz (Nat.le_trans HR.out.lb (Nat.le_of_lt HR.out.lt)))); have QA := (hz.block _ (Array.getElem?_eq_some_iff.1 HQ2.out).1).trans HQ2.out; have f1 := RA.out.frz; have v1 := RA.out.c1; have v8 := RA.out.c8; have v9 := RA.out.c9; have qa0 := cel2 QA 0 _ rfl; have qa1 := cel2 QA 1 _ rfl; have HQA := hide QA; clear hz QA HEA))
      have r5 := hide (RA.out.putN 8 (.bool false) { σ with loc := p, round := R, next := [], be := false } rfl rfl rfl rfl)
      have k5 := hide (KA.out.set (o := 8) RA.out.lb RA.out.box (.inl rfl) (.bool false))
      have q5 := hide ((heap_setCell_other zA ⟨b, 8, none⟩ A2 (.bool false) (fun e => by have h1 := RA.out.box; rw [show b = A2 from e.symm, HQA.out] at h1; simp at h1)).trans HQA.out)
      clear f0 c1 c8 c9 q20 q21 HR HK HQ2 f1 v1 v8 v9 qa0 qa1 RA KA HQA
      generalize zA.setCell ⟨b, 8, none⟩ (.bool false) = Y5 at *
      have f0 := r5.out.frz
      have c1 := r5.out.c1
      have c9 := r5.out.c9
      have q20 := cel2 q5.out 0 _ rfl
      have q21 := cel2 q5.out 1 _ rfl
      rcases (show p = s.size ∨ (p ≠ s.size ∧ eB = false) ∨ (p ≠ s.size ∧ eB = true) by by_cases h : p = s.size <;> cases eB <;> simp [h]) with hps | ⟨hps, rfl⟩ | ⟨hps, rfl⟩
      · have hpsI : (p : Int) = (s.size : Int) := by omega
        go_wp2_with (fail)
        go_end0
        have e1 : (decide (p = 0) || (false && !(false && cB))) = false := by rw [decide_eq_false hp0]; rfl
        have e2 : (decide (p = s.size) || (eB && !(false && cB))) = true := by rw [decide_eq_true hps]; rfl
        have eτ : τ = { σ with loc := p, round := R, next := [], be := false, en := true } := by rw [HTT.out, ← HRd.out, e1, e2]
        rw [eτ]
        exact ⟨rfl, ⟨_, _, _, _, r5.out.putN 9 (.bool true) { σ with loc := p, round := R, next := [], be := false, en := true } rfl rfl rfl rfl⟩, k5.out.set (o := 9) r5.out.lb r5.out.box (.inl rfl) (.bool true)⟩
      · have hpsI : (p : Int) ≠ (s.size : Int) := by omega
        have hpsQ : ((p : Int) == (s.size : Int)) = false := beq_eq_false_iff_ne.2 hpsI
        go_wp2_with (go_at_call_of 48 (Value.agg #[.int .i32 b0, .bool b1]); refine (HEC.out _).mono ?_; rintro e zB ⟨rfl, hz⟩; have RB := hide (r5.out.below hz); have KC := hide (k5.out.trans (Kr.of_below hz (Nat.le_trans r5.out.lb (Nat.le_of_lt r5.out.lt)))); have f2 := RB.out.frz; have v2 := RB.out.c9; clear hz)
        go_end0
        have e1 : (decide (p = 0) || (false && !(false && cB))) = false := by rw [decide_eq_false hp0]; rfl
        have e2 : (decide (p = s.size) || (false && !(false && cB))) = false := by rw [decide_eq_false hps]; rfl
        have eτ : τ = { σ with loc := p, round := R, next := [], be := false, en := false } := by rw [HTT.out, ← HRd.out, e1, e2]
        rw [eτ]
        exact ⟨rfl, ⟨_, _, _, _, RB.out.putN 9 (.bool false) { σ with loc := p, round := R, next := [], be := false, en := false } rfl rfl rfl rfl⟩, KC.out.set (o := 9) RB.out.lb RB.out.box (.inl rfl) (.bool false)⟩
      · have hpsI : (p : Int) ≠ (s.size : Int) := by omega
        have hpsQ : ((p : Int) == (s.size : Int)) = false := beq_eq_false_iff_ne.2 hpsI
        go_wp2_with (go_at_call_of 48 (Value.agg #[.int .i32 b0, .bool b1]); refine (HEC.out _).mono ?_; rintro e zB ⟨rfl, hz⟩; have RB := hide (r5.out.below hz); have KC := hide (k5.out.trans (Kr.of_below hz (Nat.le_trans r5.out.lb (Nat.le_of_lt r5.out.lt)))); have f2 := RB.out.frz; have v2 := RB.out.c9; clear hz)
        go_end0
        have e1 : (decide (p = 0) || (false && !(false && cB))) = false := by rw [decide_eq_false hp0]; rfl
        have e2 : (decide (p = s.size) || (true && !(false && cB))) = true := by rw [decide_eq_false hps]; rfl
        have eτ : τ = { σ with loc := p, round := R, next := [], be := false, en := true } := by rw [HTT.out, ← HRd.out, e1, e2]
        rw [eτ]
        exact ⟨rfl, ⟨_, _, _, _, RB.out.putN 9 (.bool true) { σ with loc := p, round := R, next := [], be := false, en := true } rfl rfl rfl rfl⟩, KC.out.set (o := 9) RB.out.lb RB.out.box (.inl rfl) (.bool true)⟩
    · have hp0I : (p : Int) ≠ 0 := by omega
      have hp0Q : ((p : Int) == 0) = false := beq_eq_false_iff_ne.2 hp0I
      go_upto_region 6 with (go_at_call_of 48 (Value.agg #[.int .i32 a0, .bool a1]); refine (HEA.out _).mono ?_; rintro e zA ⟨rfl, hz⟩; go_loud (have RA := hide (HR.out.below hz); have KA := hide (HK.out.trans (Kr.of_below hz (Nat.le_trans HR.out.lb (Nat.le_of_lt HR.out.lt)))); have QA := (hz.block _ (Array.getElem?_eq_some_iff.1 HQ2.out).1).trans HQ2.out; have f1 := RA.out.frz; have v1 := RA.out.c1; have v8 := RA.out.c8; have v9 := RA.out.c9; have qa0 := cel2 QA 0 _ rfl; have qa1 := cel2 QA 1 _ rfl; have HQA := hide QA; clear hz QA HEA))
      have r5 := hide (RA.out.putN 8 (.bool true) { σ with loc := p, round := R, next := [], be := true } rfl rfl rfl rfl)
      have k5 := hide (KA.out.set (o := 8) RA.out.lb RA.out.box (.inl rfl) (.bool true))
      have q5 := hide ((heap_setCell_other zA ⟨b, 8, none⟩ A2 (.bool true) (fun e => by have h1 := RA.out.box; rw [show b = A2 from e.symm, HQA.out] at h1; simp at h1)).trans HQA.out)
      clear f0 c1 c8 c9 q20 q21 HR HK HQ2 f1 v1 v8 v9 qa0 qa1 RA KA HQA
      generalize zA.setCell ⟨b, 8, none⟩ (.bool true) = Y5 at *
      have f0 := r5.out.frz
      have c1 := r5.out.c1
      have c9 := r5.out.c9
      have q20 := cel2 q5.out 0 _ rfl
      have q21 := cel2 q5.out 1 _ rfl
      rcases (show p = s.size ∨ (p ≠ s.size ∧ eB = false) ∨ (p ≠ s.size ∧ eB = true) by by_cases h : p = s.size <;> cases eB <;> simp [h]) with hps | ⟨hps, rfl⟩ | ⟨hps, rfl⟩
      · have hpsI : (p : Int) = (s.size : Int) := by omega
        go_wp2_with (fail)
        go_end0
        have e1 : (decide (p = 0) || (true && !(false && cB))) = true := by rw [decide_eq_false hp0]; rfl
        have e2 : (decide (p = s.size) || (eB && !(false && cB))) = true := by rw [decide_eq_true hps]; rfl
        have eτ : τ = { σ with loc := p, round := R, next := [], be := true, en := true } := by rw [HTT.out, ← HRd.out, e1, e2]
        rw [eτ]
        exact ⟨rfl, ⟨_, _, _, _, r5.out.putN 9 (.bool true) { σ with loc := p, round := R, next := [], be := true, en := true } rfl rfl rfl rfl⟩, k5.out.set (o := 9) r5.out.lb r5.out.box (.inl rfl) (.bool true)⟩
      · have hpsI : (p : Int) ≠ (s.size : Int) := by omega
        have hpsQ : ((p : Int) == (s.size : Int)) = false := beq_eq_false_iff_ne.2 hpsI
        go_wp2_with (go_at_call_of 48 (Value.agg #[.int .i32 b0, .bool b1]); refine (HEC.out _).mono ?_; rintro e zB ⟨rfl, hz⟩; have RB := hide (r5.out.below hz); have KC := hide (k5.out.trans (Kr.of_below hz (Nat.le_trans r5.out.lb (Nat.le_of_lt r5.out.lt)))); have f2 := RB.out.frz; have v2 := RB.out.c9; clear hz)
        go_end0
        have e1 : (decide (p = 0) || (true && !(false && cB))) = true := by rw [decide_eq_false hp0]; rfl
        have e2 : (decide (p = s.size) || (false && !(false && cB))) = false := by rw [decide_eq_false hps]; rfl
        have eτ : τ = { σ with loc := p, round := R, next := [], be := true, en := false } := by rw [HTT.out, ← HRd.out, e1, e2]
        rw [eτ]
        exact ⟨rfl, ⟨_, _, _, _, RB.out.putN 9 (.bool false) { σ with loc := p, round := R, next := [], be := true, en := false } rfl rfl rfl rfl⟩, KC.out.set (o := 9) RB.out.lb RB.out.box (.inl rfl) (.bool false)⟩
      · have hpsI : (p : Int) ≠ (s.size : Int) := by omega
        have hpsQ : ((p : Int) == (s.size : Int)) = false := beq_eq_false_iff_ne.2 hpsI
        go_wp2_with (go_at_call_of 48 (Value.agg #[.int .i32 b0, .bool b1]); refine (HEC.out _).mono ?_; rintro e zB ⟨rfl, hz⟩; have RB := hide (r5.out.below hz); have KC := hide (k5.out.trans (Kr.of_below hz (Nat.le_trans r5.out.lb (Nat.le_of_lt r5.out.lt)))); have f2 := RB.out.frz; have v2 := RB.out.c9; clear hz)
        go_end0
        have e1 : (decide (p = 0) || (true && !(false && cB))) = true := by rw [decide_eq_false hp0]; rfl
        have e2 : (decide (p = s.size) || (true && !(false && cB))) = true := by rw [decide_eq_false hps]; rfl
        have eτ : τ = { σ with loc := p, round := R, next := [], be := true, en := true } := by rw [HTT.out, ← HRd.out, e1, e2]
        rw [eτ]
        exact ⟨rfl, ⟨_, _, _, _, RB.out.putN 9 (.bool true) { σ with loc := p, round := R, next := [], be := true, en := true } rfl rfl rfl rfl⟩, KC.out.set (o := 9) RB.out.lb RB.out.box (.inl rfl) (.bool true)⟩
  · go_upto_region 5 with (fail)
    rcases (show p = 0 ∨ (p ≠ 0 ∧ eA = false) ∨ (p ≠ 0 ∧ eA = true) by by_cases h : p = 0 <;> cases eA <;> simp [h]) with hp0 | ⟨hp0, rfl⟩ | ⟨hp0, rfl⟩
    · have hp0I : (p : Int) = 0 := by omega
      go_upto_region 6 with (fail)
      have r5 := hide (HR.out.putN 8 (.bool true) { σ with loc := p, round := R, next := [], be := true } rfl rfl rfl rfl)
      have k5 := hide (HK.out.set (o := 8) HR.out.lb HR.out.box (.inl rfl) (.bool true))
      have q5 := hide ((heap_setCell_other Y ⟨b, 8, none⟩ A2 (.bool true) (fun e => by have h1 := HR.out.box; rw [show b = A2 from e.symm, HQ2.out] at h1; simp at h1)).trans HQ2.out)
      clear f0 c1 c8 c9 q20 q21 HR HK HQ2
      generalize Y.setCell ⟨b, 8, none⟩ (.bool true) = Y5 at *
      have f0 := r5.out.frz
      have c1 := r5.out.c1
      have c9 := r5.out.c9
      have q20 := cel2 q5.out 0 _ rfl
      have q21 := cel2 q5.out 1 _ rfl
      rcases (show p = s.size ∨ (p ≠ s.size ∧ eB = false) ∨ (p ≠ s.size ∧ eB = true) by by_cases h : p = s.size <;> cases eB <;> simp [h]) with hps | ⟨hps, rfl⟩ | ⟨hps, rfl⟩
      · have hpsJ : (s.size : Int) = 0 := by omega
        have hpsM : True := trivial
        go_wp2_with (fail)
        go_end0
        have e1 : (decide (p = 0) || (eA && !(true && false))) = true := by rw [decide_eq_true hp0]; rfl
        have e2 : (decide (p = s.size) || (eB && !(true && false))) = true := by rw [decide_eq_true hps]; rfl
        have eτ : τ = { σ with loc := p, round := R, next := [], be := true, en := true } := by rw [HTT.out, ← HRd.out, e1, e2]
        rw [eτ]
        exact ⟨rfl, ⟨_, _, _, _, r5.out.putN 9 (.bool true) { σ with loc := p, round := R, next := [], be := true, en := true } rfl rfl rfl rfl⟩, k5.out.set (o := 9) r5.out.lb r5.out.box (.inl rfl) (.bool true)⟩
      · have hpsI : (p : Int) ≠ (s.size : Int) := by omega
        have hpsQ : ((p : Int) == (s.size : Int)) = false := beq_eq_false_iff_ne.2 hpsI
        have hpsJ : (s.size : Int) ≠ 0 := by omega
        have hpsL : ((0 : Int) == (s.size : Int)) = false := beq_eq_false_iff_ne.2 (by omega)
        go_wp2_with (go_at_call_of 48 (Value.agg #[.int .i32 b0, .bool b1]); refine (HEC.out _).mono ?_; rintro e zB ⟨rfl, hz⟩; have RB := hide (r5.out.below hz); have KC := hide (k5.out.trans (Kr.of_below hz (Nat.le_trans r5.out.lb (Nat.le_of_lt r5.out.lt)))); have f2 := RB.out.frz; have v2 := RB.out.c9; clear hz)
        go_end0
        have e1 : (decide (p = 0) || (eA && !(true && false))) = true := by rw [decide_eq_true hp0]; rfl
        have e2 : (decide (p = s.size) || (false && !(true && false))) = false := by rw [decide_eq_false hps]; rfl
        have eτ : τ = { σ with loc := p, round := R, next := [], be := true, en := false } := by rw [HTT.out, ← HRd.out, e1, e2]
        rw [eτ]
        exact ⟨rfl, ⟨_, _, _, _, RB.out.putN 9 (.bool false) { σ with loc := p, round := R, next := [], be := true, en := false } rfl rfl rfl rfl⟩, KC.out.set (o := 9) RB.out.lb RB.out.box (.inl rfl) (.bool false)⟩
      · have hpsI : (p : Int) ≠ (s.size : Int) := by omega
        have hpsQ : ((p : Int) == (s.size : Int)) = false := beq_eq_false_iff_ne.2 hpsI
        have hpsJ : (s.size : Int) ≠ 0 := by omega
        have hpsL : ((0 : Int) == (s.size : Int)) = false := beq_eq_false_iff_ne.2 (by omega)
        go_wp2_with (go_at_call_of 48 (Value.agg #[.int .i32 b0, .bool b1]); refine (HEC.out _).mono ?_; rintro e zB ⟨rfl, hz⟩; have RB := hide (r5.out.below hz); have KC := hide (k5.out.trans (Kr.of_below hz (Nat.le_trans r5.out.lb (Nat.le_of_lt r5.out.lt)))); have f2 := RB.out.frz; have v2 := RB.out.c9; clear hz)
        go_end0
        have e1 : (decide (p = 0) || (eA && !(true && false))) = true := by rw [decide_eq_true hp0]; rfl
        have e2 : (decide (p = s.size) || (true && !(true && false))) = true := by rw [decide_eq_false hps]; rfl
        have eτ : τ = { σ with loc := p, round := R, next := [], be := true, en := true } := by rw [HTT.out, ← HRd.out, e1, e2]
        rw [eτ]
        exact ⟨rfl, ⟨_, _, _, _, RB.out.putN 9 (.bool true) { σ with loc := p, round := R, next := [], be := true, en := true } rfl rfl rfl rfl⟩, KC.out.set (o := 9) RB.out.lb RB.out.box (.inl rfl) (.bool true)⟩
    · have hp0I : (p : Int) ≠ 0 := by omega
      have hp0Q : ((p : Int) == 0) = false := beq_eq_false_iff_ne.2 hp0I
      go_upto_region 6 with (go_at_call_of 48 (Value.agg #[.int .i32 a0, .bool a1]); refine (HEA.out _).mono ?_; rintro e zA ⟨rfl, hz⟩; go_loud (have RA := hide (HR.out.below hz); have KA := hide (HK.out.trans (Kr.of_below hz (Nat.le_trans HR.out.lb (Nat.le_of_lt HR.out.lt)))); have QA := (hz.block _ (Array.getElem?_eq_some_iff.1 HQ2.out).1).trans HQ2.out; have f1 := RA.out.frz; have v1 := RA.out.c1; have v8 := RA.out.c8; have v9 := RA.out.c9; have qa0 := cel2 QA 0 _ rfl; have qa1 := cel2 QA 1 _ rfl; have HQA := hide QA; clear hz QA HEA))
      have r5 := hide (RA.out.putN 8 (.bool false) { σ with loc := p, round := R, next := [], be := false } rfl rfl rfl rfl)
      have k5 := hide (KA.out.set (o := 8) RA.out.lb RA.out.box (.inl rfl) (.bool false))
      have q5 := hide ((heap_setCell_other zA ⟨b, 8, none⟩ A2 (.bool false) (fun e => by have h1 := RA.out.box; rw [show b = A2 from e.symm, HQA.out] at h1; simp at h1)).trans HQA.out)
      clear f0 c1 c8 c9 q20 q21 HR HK HQ2 f1 v1 v8 v9 qa0 qa1 RA KA HQA
      generalize zA.setCell ⟨b, 8, none⟩ (.bool false) = Y5 at *
      have f0 := r5.out.frz
      have c1 := r5.out.c1
      have c9 := r5.out.c9
      have q20 := cel2 q5.out 0 _ rfl
      have q21 := cel2 q5.out 1 _ rfl
      rcases (show p = s.size ∨ (p ≠ s.size ∧ eB = false) ∨ (p ≠ s.size ∧ eB = true) by by_cases h : p = s.size <;> cases eB <;> simp [h]) with hps | ⟨hps, rfl⟩ | ⟨hps, rfl⟩
      · have hpsI : (p : Int) = (s.size : Int) := by omega
        go_wp2_with (fail)
        go_end0
        have e1 : (decide (p = 0) || (false && !(true && false))) = false := by rw [decide_eq_false hp0]; rfl
        have e2 : (decide (p = s.size) || (eB && !(true && false))) = true := by rw [decide_eq_true hps]; rfl
        have eτ : τ = { σ with loc := p, round := R, next := [], be := false, en := true } := by rw [HTT.out, ← HRd.out, e1, e2]
        rw [eτ]
        exact ⟨rfl, ⟨_, _, _, _, r5.out.putN 9 (.bool true) { σ with loc := p, round := R, next := [], be := false, en := true } rfl rfl rfl rfl⟩, k5.out.set (o := 9) r5.out.lb r5.out.box (.inl rfl) (.bool true)⟩
      · have hpsI : (p : Int) ≠ (s.size : Int) := by omega
        have hpsQ : ((p : Int) == (s.size : Int)) = false := beq_eq_false_iff_ne.2 hpsI
        go_wp2_with (go_at_call_of 48 (Value.agg #[.int .i32 b0, .bool b1]); refine (HEC.out _).mono ?_; rintro e zB ⟨rfl, hz⟩; have RB := hide (r5.out.below hz); have KC := hide (k5.out.trans (Kr.of_below hz (Nat.le_trans r5.out.lb (Nat.le_of_lt r5.out.lt)))); have f2 := RB.out.frz; have v2 := RB.out.c9; clear hz)
        go_end0
        have e1 : (decide (p = 0) || (false && !(true && false))) = false := by rw [decide_eq_false hp0]; rfl
        have e2 : (decide (p = s.size) || (false && !(true && false))) = false := by rw [decide_eq_false hps]; rfl
        have eτ : τ = { σ with loc := p, round := R, next := [], be := false, en := false } := by rw [HTT.out, ← HRd.out, e1, e2]
        rw [eτ]
        exact ⟨rfl, ⟨_, _, _, _, RB.out.putN 9 (.bool false) { σ with loc := p, round := R, next := [], be := false, en := false } rfl rfl rfl rfl⟩, KC.out.set (o := 9) RB.out.lb RB.out.box (.inl rfl) (.bool false)⟩
      · have hpsI : (p : Int) ≠ (s.size : Int) := by omega
        have hpsQ : ((p : Int) == (s.size : Int)) = false := beq_eq_false_iff_ne.2 hpsI
        go_wp2_with (go_at_call_of 48 (Value.agg #[.int .i32 b0, .bool b1]); refine (HEC.out _).mono ?_; rintro e zB ⟨rfl, hz⟩; have RB := hide (r5.out.below hz); have KC := hide (k5.out.trans (Kr.of_below hz (Nat.le_trans r5.out.lb (Nat.le_of_lt r5.out.lt)))); have f2 := RB.out.frz; have v2 := RB.out.c9; clear hz)
        go_end0
        have e1 : (decide (p = 0) || (false && !(true && false))) = false := by rw [decide_eq_false hp0]; rfl
        have e2 : (decide (p = s.size) || (true && !(true && false))) = true := by rw [decide_eq_false hps]; rfl
        have eτ : τ = { σ with loc := p, round := R, next := [], be := false, en := true } := by rw [HTT.out, ← HRd.out, e1, e2]
        rw [eτ]
        exact ⟨rfl, ⟨_, _, _, _, RB.out.putN 9 (.bool true) { σ with loc := p, round := R, next := [], be := false, en := true } rfl rfl rfl rfl⟩, KC.out.set (o := 9) RB.out.lb RB.out.box (.inl rfl) (.bool true)⟩
    · have hp0I : (p : Int) ≠ 0 := by omega
      have hp0Q : ((p : Int) == 0) = false := beq_eq_false_iff_ne.2 hp0I
      go_upto_region 6 with (go_at_call_of 48 (Value.agg #[.int .i32 a0, .bool a1]); refine (HEA.out _).mono ?_; rintro e zA ⟨rfl, hz⟩; go_loud (have RA := hide (HR.out.below hz); have KA := hide (HK.out.trans (Kr.of_below hz (Nat.le_trans HR.out.lb (Nat.le_of_lt HR.out.lt)))); have QA := (hz.block _ (Array.getElem?_eq_some_iff.1 HQ2.out).1).trans HQ2.out; have f1 := RA.out.frz; have v1 := RA.out.c1; have v8 := RA.out.c8; have v9 := RA.out.c9; have qa0 := cel2 QA 0 _ rfl; have qa1 := cel2 QA 1 _ rfl; have HQA := hide QA; clear hz QA HEA))
      have r5 := hide (RA.out.putN 8 (.bool true) { σ with loc := p, round := R, next := [], be := true } rfl rfl rfl rfl)
      have k5 := hide (KA.out.set (o := 8) RA.out.lb RA.out.box (.inl rfl) (.bool true))
      have q5 := hide ((heap_setCell_other zA ⟨b, 8, none⟩ A2 (.bool true) (fun e => by have h1 := RA.out.box; rw [show b = A2 from e.symm, HQA.out] at h1; simp at h1)).trans HQA.out)
      clear f0 c1 c8 c9 q20 q21 HR HK HQ2 f1 v1 v8 v9 qa0 qa1 RA KA HQA
      generalize zA.setCell ⟨b, 8, none⟩ (.bool true) = Y5 at *
      have f0 := r5.out.frz
      have c1 := r5.out.c1
      have c9 := r5.out.c9
      have q20 := cel2 q5.out 0 _ rfl
      have q21 := cel2 q5.out 1 _ rfl
      rcases (show p = s.size ∨ (p ≠ s.size ∧ eB = false) ∨ (p ≠ s.size ∧ eB = true) by by_cases h : p = s.size <;> cases eB <;> simp [h]) with hps | ⟨hps, rfl⟩ | ⟨hps, rfl⟩
      · have hpsI : (p : Int) = (s.size : Int) := by omega
        go_wp2_with (fail)
        go_end0
        have e1 : (decide (p = 0) || (true && !(true && false))) = true := by rw [decide_eq_false hp0]; rfl
        have e2 : (decide (p = s.size) || (eB && !(true && false))) = true := by rw [decide_eq_true hps]; rfl
        have eτ : τ = { σ with loc := p, round := R, next := [], be := true, en := true } := by rw [HTT.out, ← HRd.out, e1, e2]
        rw [eτ]
        exact ⟨rfl, ⟨_, _, _, _, r5.out.putN 9 (.bool true) { σ with loc := p, round := R, next := [], be := true, en := true } rfl rfl rfl rfl⟩, k5.out.set (o := 9) r5.out.lb r5.out.box (.inl rfl) (.bool true)⟩
      · have hpsI : (p : Int) ≠ (s.size : Int) := by omega
        have hpsQ : ((p : Int) == (s.size : Int)) = false := beq_eq_false_iff_ne.2 hpsI
        go_wp2_with (go_at_call_of 48 (Value.agg #[.int .i32 b0, .bool b1]); refine (HEC.out _).mono ?_; rintro e zB ⟨rfl, hz⟩; have RB := hide (r5.out.below hz); have KC := hide (k5.out.trans (Kr.of_below hz (Nat.le_trans r5.out.lb (Nat.le_of_lt r5.out.lt)))); have f2 := RB.out.frz; have v2 := RB.out.c9; clear hz)
        go_end0
        have e1 : (decide (p = 0) || (true && !(true && false))) = true := by rw [decide_eq_false hp0]; rfl
        have e2 : (decide (p = s.size) || (false && !(true && false))) = false := by rw [decide_eq_false hps]; rfl
        have eτ : τ = { σ with loc := p, round := R, next := [], be := true, en := false } := by rw [HTT.out, ← HRd.out, e1, e2]
        rw [eτ]
        exact ⟨rfl, ⟨_, _, _, _, RB.out.putN 9 (.bool false) { σ with loc := p, round := R, next := [], be := true, en := false } rfl rfl rfl rfl⟩, KC.out.set (o := 9) RB.out.lb RB.out.box (.inl rfl) (.bool false)⟩
      · have hpsI : (p : Int) ≠ (s.size : Int) := by omega
        have hpsQ : ((p : Int) == (s.size : Int)) = false := beq_eq_false_iff_ne.2 hpsI
        go_wp2_with (go_at_call_of 48 (Value.agg #[.int .i32 b0, .bool b1]); refine (HEC.out _).mono ?_; rintro e zB ⟨rfl, hz⟩; have RB := hide (r5.out.below hz); have KC := hide (k5.out.trans (Kr.of_below hz (Nat.le_trans r5.out.lb (Nat.le_of_lt r5.out.lt)))); have f2 := RB.out.frz; have v2 := RB.out.c9; clear hz)
        go_end0
        have e1 : (decide (p = 0) || (true && !(true && false))) = true := by rw [decide_eq_false hp0]; rfl
        have e2 : (decide (p = s.size) || (true && !(true && false))) = true := by rw [decide_eq_false hps]; rfl
        have eτ : τ = { σ with loc := p, round := R, next := [], be := true, en := true } := by rw [HTT.out, ← HRd.out, e1, e2]
        rw [eτ]
        exact ⟨rfl, ⟨_, _, _, _, RB.out.putN 9 (.bool true) { σ with loc := p, round := R, next := [], be := true, en := true } rfl rfl rfl rfl⟩, KC.out.set (o := 9) RB.out.lb RB.out.box (.inl rfl) (.bool true)⟩
  · go_upto_region 5 with (fail)
    rcases (show p = 0 ∨ (p ≠ 0 ∧ eA = false) ∨ (p ≠ 0 ∧ eA = true) by by_cases h : p = 0 <;> cases eA <;> simp [h]) with hp0 | ⟨hp0, rfl⟩ | ⟨hp0, rfl⟩
    · have hp0I : (p : Int) = 0 := by omega
      go_upto_region 6 with (fail)
      have r5 := hide (HR.out.putN 8 (.bool true) { σ with loc := p, round := R, next := [], be := true } rfl rfl rfl rfl)
      have k5 := hide (HK.out.set (o := 8) HR.out.lb HR.out.box (.inl rfl) (.bool true))
      have q5 := hide ((heap_setCell_other Y ⟨b, 8, none⟩ A2 (.bool true) (fun e => by have h1 := HR.out.box; rw [show b = A2 from e.symm, HQ2.out] at h1; simp at h1)).trans HQ2.out)
      clear f0 c1 c8 c9 q20 q21 HR HK HQ2
      generalize Y.setCell ⟨b, 8, none⟩ (.bool true) = Y5 at *
      have f0 := r5.out.frz
      have c1 := r5.out.c1
      have c9 := r5.out.c9
      have q20 := cel2 q5.out 0 _ rfl
      have q21 := cel2 q5.out 1 _ rfl
      rcases (show p = s.size ∨ (p ≠ s.size ∧ eB = false) ∨ (p ≠ s.size ∧ eB = true) by by_cases h : p = s.size <;> cases eB <;> simp [h]) with hps | ⟨hps, rfl⟩ | ⟨hps, rfl⟩
      · have hpsJ : (s.size : Int) = 0 := by omega
        have hpsM : True := trivial
        go_wp2_with (fail)
        go_end0
        have e1 : (decide (p = 0) || (eA && !(true && true))) = true := by rw [decide_eq_true hp0]; rfl
        have e2 : (decide (p = s.size) || (eB && !(true && true))) = true := by rw [decide_eq_true hps]; rfl
        have eτ : τ = { σ with loc := p, round := R, next := [], be := true, en := true } := by rw [HTT.out, ← HRd.out, e1, e2]
        rw [eτ]
        exact ⟨rfl, ⟨_, _, _, _, r5.out.putN 9 (.bool true) { σ with loc := p, round := R, next := [], be := true, en := true } rfl rfl rfl rfl⟩, k5.out.set (o := 9) r5.out.lb r5.out.box (.inl rfl) (.bool true)⟩
      · have hpsI : (p : Int) ≠ (s.size : Int) := by omega
        have hpsQ : ((p : Int) == (s.size : Int)) = false := beq_eq_false_iff_ne.2 hpsI
        have hpsJ : (s.size : Int) ≠ 0 := by omega
        have hpsL : ((0 : Int) == (s.size : Int)) = false := beq_eq_false_iff_ne.2 (by omega)
        go_wp2_with (go_at_call_of 48 (Value.agg #[.int .i32 b0, .bool b1]); refine (HEC.out _).mono ?_; rintro e zB ⟨rfl, hz⟩; have RB := hide (r5.out.below hz); have KC := hide (k5.out.trans (Kr.of_below hz (Nat.le_trans r5.out.lb (Nat.le_of_lt r5.out.lt)))); have f2 := RB.out.frz; have v2 := RB.out.c9; clear hz)
        go_end0
        have e1 : (decide (p = 0) || (eA && !(true && true))) = true := by rw [decide_eq_true hp0]; rfl
        have e2 : (decide (p = s.size) || (false && !(true && true))) = false := by rw [decide_eq_false hps]; rfl
        have eτ : τ = { σ with loc := p, round := R, next := [], be := true, en := false } := by rw [HTT.out, ← HRd.out, e1, e2]
        rw [eτ]
        exact ⟨rfl, ⟨_, _, _, _, RB.out.putN 9 (.bool false) { σ with loc := p, round := R, next := [], be := true, en := false } rfl rfl rfl rfl⟩, KC.out.set (o := 9) RB.out.lb RB.out.box (.inl rfl) (.bool false)⟩
      · have hpsI : (p : Int) ≠ (s.size : Int) := by omega
        have hpsQ : ((p : Int) == (s.size : Int)) = false := beq_eq_false_iff_ne.2 hpsI
        have hpsJ : (s.size : Int) ≠ 0 := by omega
        have hpsL : ((0 : Int) == (s.size : Int)) = false := beq_eq_false_iff_ne.2 (by omega)
        go_wp2_with (go_at_call_of 48 (Value.agg #[.int .i32 b0, .bool b1]); refine (HEC.out _).mono ?_; rintro e zB ⟨rfl, hz⟩; have RB := hide (r5.out.below hz); have KC := hide (k5.out.trans (Kr.of_below hz (Nat.le_trans r5.out.lb (Nat.le_of_lt r5.out.lt)))); have f2 := RB.out.frz; have v2 := RB.out.c9; clear hz)
        go_end0
        have e1 : (decide (p = 0) || (eA && !(true && true))) = true := by rw [decide_eq_true hp0]; rfl
        have e2 : (decide (p = s.size) || (true && !(true && true))) = false := by rw [decide_eq_false hps]; rfl
        have eτ : τ = { σ with loc := p, round := R, next := [], be := true, en := false } := by rw [HTT.out, ← HRd.out, e1, e2]
        rw [eτ]
        exact ⟨rfl, ⟨_, _, _, _, RB.out.putN 9 (.bool false) { σ with loc := p, round := R, next := [], be := true, en := false } rfl rfl rfl rfl⟩, KC.out.set (o := 9) RB.out.lb RB.out.box (.inl rfl) (.bool false)⟩
    · have hp0I : (p : Int) ≠ 0 := by omega
      have hp0Q : ((p : Int) == 0) = false := beq_eq_false_iff_ne.2 hp0I
      go_upto_region 6 with (go_at_call_of 48 (Value.agg #[.int .i32 a0, .bool a1]); refine (HEA.out _).mono ?_; rintro e zA ⟨rfl, hz⟩; go_loud (have RA := hide (HR.out.below hz); have KA := hide (HK.out.trans (Kr.of_below hz (Nat.le_trans HR.out.lb (Nat.le_of_lt HR.out.lt)))); have QA := (hz.block _ (Array.getElem?_eq_some_iff.1 HQ2.out).1).trans HQ2.out; have f1 := RA.out.frz; have v1 := RA.out.c1; have v8 := RA.out.c8; have v9 := RA.out.c9; have qa0 := cel2 QA 0 _ rfl; have qa1 := cel2 QA 1 _ rfl; have HQA := hide QA; clear hz QA HEA))
      have r5 := hide (RA.out.putN 8 (.bool false) { σ with loc := p, round := R, next := [], be := false } rfl rfl rfl rfl)
      have k5 := hide (KA.out.set (o := 8) RA.out.lb RA.out.box (.inl rfl) (.bool false))
      have q5 := hide ((heap_setCell_other zA ⟨b, 8, none⟩ A2 (.bool false) (fun e => by have h1 := RA.out.box; rw [show b = A2 from e.symm, HQA.out] at h1; simp at h1)).trans HQA.out)
      clear f0 c1 c8 c9 q20 q21 HR HK HQ2 f1 v1 v8 v9 qa0 qa1 RA KA HQA
      generalize zA.setCell ⟨b, 8, none⟩ (.bool false) = Y5 at *
      have f0 := r5.out.frz
      have c1 := r5.out.c1
      have c9 := r5.out.c9
      have q20 := cel2 q5.out 0 _ rfl
      have q21 := cel2 q5.out 1 _ rfl
      rcases (show p = s.size ∨ (p ≠ s.size ∧ eB = false) ∨ (p ≠ s.size ∧ eB = true) by by_cases h : p = s.size <;> cases eB <;> simp [h]) with hps | ⟨hps, rfl⟩ | ⟨hps, rfl⟩
      · have hpsI : (p : Int) = (s.size : Int) := by omega
        go_wp2_with (fail)
        go_end0
        have e1 : (decide (p = 0) || (false && !(true && true))) = false := by rw [decide_eq_false hp0]; rfl
        have e2 : (decide (p = s.size) || (eB && !(true && true))) = true := by rw [decide_eq_true hps]; rfl
        have eτ : τ = { σ with loc := p, round := R, next := [], be := false, en := true } := by rw [HTT.out, ← HRd.out, e1, e2]
        rw [eτ]
        exact ⟨rfl, ⟨_, _, _, _, r5.out.putN 9 (.bool true) { σ with loc := p, round := R, next := [], be := false, en := true } rfl rfl rfl rfl⟩, k5.out.set (o := 9) r5.out.lb r5.out.box (.inl rfl) (.bool true)⟩
      · have hpsI : (p : Int) ≠ (s.size : Int) := by omega
        have hpsQ : ((p : Int) == (s.size : Int)) = false := beq_eq_false_iff_ne.2 hpsI
        go_wp2_with (go_at_call_of 48 (Value.agg #[.int .i32 b0, .bool b1]); refine (HEC.out _).mono ?_; rintro e zB ⟨rfl, hz⟩; have RB := hide (r5.out.below hz); have KC := hide (k5.out.trans (Kr.of_below hz (Nat.le_trans r5.out.lb (Nat.le_of_lt r5.out.lt)))); have f2 := RB.out.frz; have v2 := RB.out.c9; clear hz)
        go_end0
        have e1 : (decide (p = 0) || (false && !(true && true))) = false := by rw [decide_eq_false hp0]; rfl
        have e2 : (decide (p = s.size) || (false && !(true && true))) = false := by rw [decide_eq_false hps]; rfl
        have eτ : τ = { σ with loc := p, round := R, next := [], be := false, en := false } := by rw [HTT.out, ← HRd.out, e1, e2]
        rw [eτ]
        exact ⟨rfl, ⟨_, _, _, _, RB.out.putN 9 (.bool false) { σ with loc := p, round := R, next := [], be := false, en := false } rfl rfl rfl rfl⟩, KC.out.set (o := 9) RB.out.lb RB.out.box (.inl rfl) (.bool false)⟩
      · have hpsI : (p : Int) ≠ (s.size : Int) := by omega
        have hpsQ : ((p : Int) == (s.size : Int)) = false := beq_eq_false_iff_ne.2 hpsI
        go_wp2_with (go_at_call_of 48 (Value.agg #[.int .i32 b0, .bool b1]); refine (HEC.out _).mono ?_; rintro e zB ⟨rfl, hz⟩; have RB := hide (r5.out.below hz); have KC := hide (k5.out.trans (Kr.of_below hz (Nat.le_trans r5.out.lb (Nat.le_of_lt r5.out.lt)))); have f2 := RB.out.frz; have v2 := RB.out.c9; clear hz)
        go_end0
        have e1 : (decide (p = 0) || (false && !(true && true))) = false := by rw [decide_eq_false hp0]; rfl
        have e2 : (decide (p = s.size) || (true && !(true && true))) = false := by rw [decide_eq_false hps]; rfl
        have eτ : τ = { σ with loc := p, round := R, next := [], be := false, en := false } := by rw [HTT.out, ← HRd.out, e1, e2]
        rw [eτ]
        exact ⟨rfl, ⟨_, _, _, _, RB.out.putN 9 (.bool false) { σ with loc := p, round := R, next := [], be := false, en := false } rfl rfl rfl rfl⟩, KC.out.set (o := 9) RB.out.lb RB.out.box (.inl rfl) (.bool false)⟩
    · have hp0I : (p : Int) ≠ 0 := by omega
      have hp0Q : ((p : Int) == 0) = false := beq_eq_false_iff_ne.2 hp0I
      go_upto_region 6 with (go_at_call_of 48 (Value.agg #[.int .i32 a0, .bool a1]); refine (HEA.out _).mono ?_; rintro e zA ⟨rfl, hz⟩; go_loud (have RA := hide (HR.out.below hz); have KA := hide (HK.out.trans (Kr.of_below hz (Nat.le_trans HR.out.lb (Nat.le_of_lt HR.out.lt)))); have QA := (hz.block _ (Array.getElem?_eq_some_iff.1 HQ2.out).1).trans HQ2.out; have f1 := RA.out.frz; have v1 := RA.out.c1; have v8 := RA.out.c8; have v9 := RA.out.c9; have qa0 := cel2 QA 0 _ rfl; have qa1 := cel2 QA 1 _ rfl; have HQA := hide QA; clear hz QA HEA))
      have r5 := hide (RA.out.putN 8 (.bool false) { σ with loc := p, round := R, next := [], be := false } rfl rfl rfl rfl)
      have k5 := hide (KA.out.set (o := 8) RA.out.lb RA.out.box (.inl rfl) (.bool false))
      have q5 := hide ((heap_setCell_other zA ⟨b, 8, none⟩ A2 (.bool false) (fun e => by have h1 := RA.out.box; rw [show b = A2 from e.symm, HQA.out] at h1; simp at h1)).trans HQA.out)
      clear f0 c1 c8 c9 q20 q21 HR HK HQ2 f1 v1 v8 v9 qa0 qa1 RA KA HQA
      generalize zA.setCell ⟨b, 8, none⟩ (.bool false) = Y5 at *
      have f0 := r5.out.frz
      have c1 := r5.out.c1
      have c9 := r5.out.c9
      have q20 := cel2 q5.out 0 _ rfl
      have q21 := cel2 q5.out 1 _ rfl
      rcases (show p = s.size ∨ (p ≠ s.size ∧ eB = false) ∨ (p ≠ s.size ∧ eB = true) by by_cases h : p = s.size <;> cases eB <;> simp [h]) with hps | ⟨hps, rfl⟩ | ⟨hps, rfl⟩
      · have hpsI : (p : Int) = (s.size : Int) := by omega
        go_wp2_with (fail)
        go_end0
        have e1 : (decide (p = 0) || (true && !(true && true))) = false := by rw [decide_eq_false hp0]; rfl
        have e2 : (decide (p = s.size) || (eB && !(true && true))) = true := by rw [decide_eq_true hps]; rfl
        have eτ : τ = { σ with loc := p, round := R, next := [], be := false, en := true } := by rw [HTT.out, ← HRd.out, e1, e2]
        rw [eτ]
        exact ⟨rfl, ⟨_, _, _, _, r5.out.putN 9 (.bool true) { σ with loc := p, round := R, next := [], be := false, en := true } rfl rfl rfl rfl⟩, k5.out.set (o := 9) r5.out.lb r5.out.box (.inl rfl) (.bool true)⟩
      · have hpsI : (p : Int) ≠ (s.size : Int) := by omega
        have hpsQ : ((p : Int) == (s.size : Int)) = false := beq_eq_false_iff_ne.2 hpsI
        go_wp2_with (go_at_call_of 48 (Value.agg #[.int .i32 b0, .bool b1]); refine (HEC.out _).mono ?_; rintro e zB ⟨rfl, hz⟩; have RB := hide (r5.out.below hz); have KC := hide (k5.out.trans (Kr.of_below hz (Nat.le_trans r5.out.lb (Nat.le_of_lt r5.out.lt)))); have f2 := RB.out.frz; have v2 := RB.out.c9; clear hz)
        go_end0
        have e1 : (decide (p = 0) || (true && !(true && true))) = false := by rw [decide_eq_false hp0]; rfl
        have e2 : (decide (p = s.size) || (false && !(true && true))) = false := by rw [decide_eq_false hps]; rfl
        have eτ : τ = { σ with loc := p, round := R, next := [], be := false, en := false } := by rw [HTT.out, ← HRd.out, e1, e2]
        rw [eτ]
        exact ⟨rfl, ⟨_, _, _, _, RB.out.putN 9 (.bool false) { σ with loc := p, round := R, next := [], be := false, en := false } rfl rfl rfl rfl⟩, KC.out.set (o := 9) RB.out.lb RB.out.box (.inl rfl) (.bool false)⟩
      · have hpsI : (p : Int) ≠ (s.size : Int) := by omega
        have hpsQ : ((p : Int) == (s.size : Int)) = false := beq_eq_false_iff_ne.2 hpsI
        go_wp2_with (go_at_call_of 48 (Value.agg #[.int .i32 b0, .bool b1]); refine (HEC.out _).mono ?_; rintro e zB ⟨rfl, hz⟩; have RB := hide (r5.out.below hz); have KC := hide (k5.out.trans (Kr.of_below hz (Nat.le_trans r5.out.lb (Nat.le_of_lt r5.out.lt)))); have f2 := RB.out.frz; have v2 := RB.out.c9; clear hz)
        go_end0
        have e1 : (decide (p = 0) || (true && !(true && true))) = false := by rw [decide_eq_false hp0]; rfl
        have e2 : (decide (p = s.size) || (true && !(true && true))) = false := by rw [decide_eq_false hps]; rfl
        have eτ : τ = { σ with loc := p, round := R, next := [], be := false, en := false } := by rw [HTT.out, ← HRd.out, e1, e2]
        rw [eτ]
        exact ⟨rfl, ⟨_, _, _, _, RB.out.putN 9 (.bool false) { σ with loc := p, round := R, next := [], be := false, en := false } rfl rfl rfl rfl⟩, KC.out.set (o := 9) RB.out.lb RB.out.box (.inl rfl) (.bool false)⟩
end Go.Proofs.YtodooppapciegaaGreatDoor
