/- Package seek: search. -/
import Derived.Test.YtodooppapciegaaGreatDoorXRunG
namespace Go.Proofs.YtodooppapciegaaGreatDoor
open Go.RowKit Go.Shelf
set_option linter.unusedVariables false
set_option linter.unusedSimpArgs false

theorem setPiece (X : World) (b A : Nat) (u1 u2 u3 u4 : Value) (h : A ≠ b) : ((((X.setCell ⟨b, 10, none⟩ u1).setCell ⟨b, 11, none⟩ u2).setCell ⟨b, 12, none⟩ u3).setCell ⟨b, 3, none⟩ u4).heap[A]? = X.heap[A]? :=
  (heap_setCell_other _ ⟨b, 3, none⟩ A u4 h).trans (World.heap_of_set3 X b 10 11 12 A u1 u2 u3 h)
theorem Kr.setNew {B : Nat} {a b : World} (h : Kr B a b) {k o : Nat} (hk : a.heap.size ≤ k) (hB : B ≤ a.heap.size) (v : Value) : Kr B a (b.setCell ⟨k, o, none⟩ v) :=
  ⟨h.1.setCell (p := ⟨k, o, none⟩) (Nat.le_trans hB hk) v, fun j cs t fr hj h1 h2 h3 => (heap_setCell_other b ⟨k, o, none⟩ j v (by have := (Array.getElem?_eq_some_iff.1 hj).1; show j ≠ k; omega)).trans (h.2 j cs t fr hj h1 h2 h3)⟩
/-- A block that is no part of a run is written. -/
theorem RunC.other {B : Nat} {D : Nat → Prop} {s : ByteArray} {g : Bool} {its : List Kd} {w : World} {b : Nat} {σ : Rs} {iv nv xv : Value} {S : Nat} (h : RunC B D s g its w b σ iv nv xv S) {k o : Nat} {cs : Array Value} {t : TypeId} {fr : Nat × Nat} (hk : w.heap[k]? = some (.cells cs t fr)) (h1 : t ≠ 66) (h2 : t ≠ 3) (h3 : t ≠ 123) (hB : B ≤ k) (v : Value) : RunC B D s g its (w.setCell ⟨k, o, none⟩ v) b σ iv nv xv S := by
  have hb : Below B w (w.setCell ⟨k, o, none⟩ v) := (Below.refl _ _).setCell (p := ⟨k, o, none⟩) hB v
  refine ⟨(heap_setCell_other w ⟨k, o, none⟩ b v (fun e => ?_)).trans h.box, h.items.keep (.of_base hb (by simp [World.setCell]) h.ltD), h.now.kept (grownX_set w k o v) (.inr (own_ne h.now hk h3)), h.next.kept (grownX_set w k o v) (.inr (own_ne h.next hk h3)), h.apart, (heap_setCell_other w ⟨k, o, none⟩ S v (fun e => ?_)).trans h.seen, h.lb, h.lS, h.ltD⟩
  · have e2 : b = k := e
    have h4 := h.box
    rw [e2, hk] at h4
    simp at h4
    exact h1 h4.2.1
  · have e2 : S = k := e
    have h4 := h.seen
    rw [e2, hk] at h4
    simp at h4
    exact h2 h4.2.1
theorem box2 {X : World} {A : Nat} {t : TypeId} {u1 u2 : Value} (h : X.heap[A]? = some (.cells #[u1, u2] t (0, 0))) (v1 v2 : Value) : ((X.setCell ⟨A, 0, none⟩ v1).setCell ⟨A, 1, none⟩ v2).heap[A]? = some (.cells #[v1, v2] t (0, 0)) :=
  heap_setCell_same _ A 1 _ _ v2 (heap_setCell_same X A 0 _ _ v1 h)
theorem box2_frz {X : World} {A : Nat} {t : TypeId} {cs : Array Value} (h : X.heap[A]? = some (.cells cs t (0, 0))) (o : Nat) : X.frozen? ⟨A, o, none⟩ = false := by
  simp only [World.frozen?, h]
  simp
set_option maxRecDepth 100000 in
set_option maxHeartbeats 4000000 in
theorem search_any (B : Nat) (D : Nat → Prop) (s : ByteArray) (g : Bool) (its : List Kd) (w : World) (b : Nat) (σ : Rs) (h : RunL B D s g its w b σ) (hl : its.length ≤ 65536) (ho : σ.seen.length = its.length + 1) (hs : s.size ≤ 140737488355328) (hr : σ.round + s.size + 1 < 4611686018427387904) (f : Nat) (hf : f ≤ s.size) (t : Int) (ht : -9223372036854775808 ≤ t ∧ t < 9223372036854775808) :
    Calls Tryz.prog 21 #[.pointer (some ⟨b, 0, none⟩), .int .i64 (f : Int), .int .i64 t] w fun e w' => e = .returned (.tuple #[.agg #[.int .i64 ((searchF g its (bl s) f t σ).bf : Int), .int .i64 ((searchF g its (bl s) f t σ).bt : Int)], .bool (searchF g its (bl s) f t σ).fo]) ∧ RunL B D s g its w' b (searchF g its (bl s) f t σ) ∧ Kr B w w' := by
  obtain ⟨nv, hn⟩ := h
  have hBs := hn.low
  have HBS := hide hBs
  obtain ⟨τ, hτ⟩ : ∃ τ, τ = searchF g its (bl s) f t σ := ⟨_, rfl⟩
  rw [← hτ]
  have HT := hide hτ
  have HR0 := hide hr
  have HOL := hide ho
  have hb1 : Below w.heap.size w (w.alloc (.cells #[.int .i64 0, .int .i64 0] 36)) := (Below.refl _ w).alloc (Nat.le_refl _) _
  have hx1 := heap_alloc_new w (.cells #[.int .i64 0, .int .i64 0] 36)
  have HX1 := hide hx1
  have KB := hide (Kr.of_below hb1 hBs)
  obtain ⟨iv, xv, S, hc⟩ := hn.below hb1
  obtain ⟨va, vq, cu, co, cr⟩ := cut0 hc.now
  have HC := hide hc
  have f0 := hc.frz
  have c3 := hc.c3
  have c10 := hc.c10
  have c11 := hc.c11
  have c12 := hc.c12
  have kl := fun W => last_any (s.extract 0 f) W (by rw [ByteArray.size_extract]; omega)
  rw [last_wd s f hf] at kl
  have hwd := wdB_le (bl s) f (by rw [bl_len]; exact hf)
  have hq := ch_slice s f (wdB (bl s) f) hwd hf
  obtain ⟨q, hqd⟩ : ∃ q, q = f - wdB (bl s) f := ⟨_, rfl⟩
  rw [← hqd] at hq
  have HQ : Hid (ch1 (bl (s.extract q f)) = chB (bl s) f) := by show _ = _; rw [hq, hqd]; rfl
  have wq : IntKind.i64.wrap ((f : Int) - (wdB (bl s) f : Int)) = (q : Int) := by rw [IntKind.wrap_i64]; omega
  have hqI : (q : Int) ≤ (f : Int) := by omega
  have hfI : (f : Int) ≤ (s.size : Int) := by omega
  have kf := fun W => sfirst_any (s.extract q f) W (by rw [ByteArray.size_extract]; omega)
  generalize (lastV (bl (s.extract 0 f))).1 = lr at kl
  generalize (lastV (bl (s.extract 0 f))).2.2 = lg at kl
  have KL := hide kl
  obtain ⟨a, ha⟩ : ∃ a, a = ch1 (bl (s.extract q f)) := ⟨_, rfl⟩
  have HA := hide (ha.trans HQ.out)
  rw [← ha] at kf
  obtain ⟨a0, a1⟩ := a
  unfold chV at kf
  simp only at kf
  have KF := hide kf
  have r1 := hc.putN 10 (.int .i64 0) { σ with bf := 0 } rfl rfl rfl rfl
  have r2 := r1.putN 11 (.int .i64 0) { σ with bf := 0, bt := 0 } rfl rfl rfl rfl
  have r3 := r2.putN 12 (.bool false) { σ with bf := 0, bt := 0, fo := false } rfl rfl rfl rfl
  have r4 := r3.put 3 (.slice va 0 vq) { σ with now := [], bf := 0, bt := 0, fo := false } (.slice va 0 vq) xv rfl (cr _ r3.now) r3.next (fun k hk e => r3.apart k (by rw [← co]; exact hk) e) rfl
  have k4 := (((KB.out.set (o := 10) hc.lb hc.box (.inl rfl) (.int .i64 0)).set (o := 11) hc.lb r1.box (.inl rfl) (.int .i64 0)).set (o := 12) hc.lb r2.box (.inl rfl) (.bool false)).set (o := 3) hc.lb r3.box (.inl rfl) (.slice va 0 vq)
  have q4 := (setPiece _ b w.heap.size (.int .i64 0) (.int .i64 0) (.bool false) (.slice va 0 vq) (fun e => by have h1 := hc.box; rw [← e, hx1] at h1; simp at h1)).trans hx1
  have HR := hide r4
  have HK := hide k4
  have HQ4 := hide q4
  clear r1 r2 r3 r4 k4 q4 cr co hx1 hb1 hBs hn hτ hc kl kf hr ho hq hqd hwd ha
  go_enter Tryz.func21, Tryz.ntmps21
  go_upto_region 3 with (fail)
  obtain ⟨A6, hA6⟩ : ∃ A, A = w.heap.size := ⟨_, rfl⟩
  have HB6 : Hid (w.heap.size ≤ A6) := Nat.le_of_eq hA6.symm
  rw [← hA6] at HQ4 ⊢
  generalize ((((w.alloc (.cells #[.int .i64 0, .int .i64 0] 36)).setCell ⟨b, 10, none⟩ (.int .i64 0)).setCell ⟨b, 11, none⟩ (.int .i64 0)).setCell ⟨b, 12, none⟩ (.bool false)).setCell ⟨b, 3, none⟩ (.slice va 0 vq) = Y at *
  clear hA6 f0 c3 c10 c11 c12 cu HC KB HX1
  have c1 := HR.out.c1
  go_upto_region 4 with (go_at_call 41; refine (KL.out _).mono ?_; rintro e z1 ⟨rfl, hz⟩; have R1 := hide (HR.out.below hz); have K1 := hide (HK.out.trans (Kr.of_below hz (Nat.le_trans HR.out.lb (Nat.le_of_lt HR.out.lt)))); have Q1 := hide ((hz.block _ (Array.getElem?_eq_some_iff.1 HQ4.out).1).trans HQ4.out); have v1 := R1.out.c1; clear hz KL)
  go_upto_region 6 with (go_at_call 38; refine (KF.out _).mono ?_; rintro e z2 ⟨rfl, hz⟩; have R2 := hide (R1.out.below hz); have K2 := hide (K1.out.trans (Kr.of_below hz (Nat.le_trans R1.out.lb (Nat.le_of_lt R1.out.lt)))); have Q2 := hide ((hz.block _ (Array.getElem?_eq_some_iff.1 Q1.out).1).trans Q1.out); clear hz KF)
  obtain ⟨A, hA⟩ : ∃ A, A = z2.heap.size := ⟨_, rfl⟩
  have hb3 : Below z2.heap.size z2 (z2.alloc (.cells #[.int .i32 a0, .bool a1] 71)) := (Below.refl _ z2).alloc (Nat.le_refl _) _
  have hx3 := heap_alloc_new z2 (.cells #[.int .i32 a0, .bool a1] 71)
  have R3 := hide (R2.out.below hb3)
  have K3 := hide (K2.out.trans (Kr.of_below hb3 (Nat.le_trans R2.out.lb (Nat.le_of_lt R2.out.lt))))
  have Q3 := hide ((hb3.block _ (Array.getElem?_eq_some_iff.1 Q2.out).1).trans Q2.out)
  have HBA : Hid (w.heap.size ≤ A) := by show _ ≤ _; rw [hA]; exact K2.out.1.size
  rw [← hA] at hx3 ⊢
  have HX3 := hide hx3
  clear hA hb3 hx3 HR HK HQ4 R1 K1 Q1 R2 K2 Q2 wq hqI HQ v1 c1
  generalize z2.alloc (.cells #[.int .i32 a0, .bool a1] 71) = X at *
  go_loopw [13] (fun iv wr => ∃ (p : Nat) (c : Ch) (ρ : Rs), iv = .int .i64 (p : Int) ∧ p ≤ s.size ∧ ρ.Ok0 its s.size ∧ ρ.round + (s.size - p) + 1 < 4611686018427387904 ∧ RunL B D s g its wr b ρ ∧ wr.heap[A]? = some (.cells #[.int .i32 c.1, .bool c.2] 71 (0, 0)) ∧ wr.heap[A6]? = some (.cells #[.int .i64 0, .int .i64 0] 36 (0, 0)) ∧ Kr B w wr ∧ ∃ fu, s.size + 1 - p ≤ fu ∧ loopF g its (bl s) t fu p c ρ = τ) (fun iv _ => s.size + 1 - (intOf iv).toNat)
  case atStart =>
    refine ⟨f, (a0, a1), { σ with now := [], bf := 0, bt := 0, fo := false }, rfl, hf, ⟨by simp, HOL.out, Nat.zero_le _, Nat.zero_le _⟩, ?_, ⟨_, _, _, _, R3.out⟩, HX3.out, Q3.out, K3.out, s.size + 1 - f, Nat.le_refl _, ?_⟩
    · have := HR0.out
      show σ.round + (s.size - f) + 1 < _
      omega
    · rw [HT.out]
      unfold searchF
      rw [bl_len, ← HA.out]
  case round =>
    obtain ⟨p, ⟨c0, c1⟩, ρ, rfl, hp, ok, hrd, hrun, hxa, hx6, hkr, fu, hfu, hF⟩ := hrel
    obtain ⟨fk, rfl⟩ : ∃ k, fu = k + 1 := ⟨fu - 1, by omega⟩
    have HFU := hide hfu
    have he : bl (s.extract p s.size) = (bl s).drop p := by
      rw [bl_extract, List.take_of_length_le]
      rw [List.length_drop, bl_len]
      exact Nat.le_refl _
    have kf := fun W => sfirst_any (s.extract p s.size) W (by rw [ByteArray.size_extract]; omega)
    rw [he] at kf
    obtain ⟨d, hd⟩ : ∃ d, d = ch1 ((bl s).drop p) := ⟨_, rfl⟩
    obtain ⟨m, hm⟩ : ∃ m, m = cw1 ((bl s).drop p) := ⟨_, rfl⟩
    have hm1 : p + m ≤ s.size ∧ (m = 0 → p = s.size) := by
      rw [hm]
      unfold cw1
      split
      · rename_i h0
        have := congrArg List.length h0
        rw [List.length_drop, bl_len] at this
        simp at this
        omega
      · rename_i h0
        have h1 := cw_len _ h0
        have h2 := cw_pos ((bl s).drop p)
        rw [List.length_drop, bl_len] at h1
        omega
    have hF2 : (if stopV g t p m (roundF g its s.size t p (c0, c1) d ρ) then roundF g its s.size t p (c0, c1) d ρ else loopF g its (bl s) t fk (p + m) d (roundF g its s.size t p (c0, c1) d ρ)) = τ := by
      rw [← hF, hd, hm]
      conv => rhs; unfold loopF
      rw [bl_len]
    rw [← hd, ← hm] at kf
    obtain ⟨d0, d1⟩ := d
    unfold chV at kf
    simp only at kf hxa
    have KF := hide kf
    have HF2 := hide hF2
    have OK := hide ok
    have RD := hide hrd
    have HRUN := hide hrun
    have HXA := hide hxa
    have HX6 := hide hx6
    have KRR := hide hkr
    have HM1 := hide hm1
    have hpI : (p : Int) ≤ (s.size : Int) := by omega
    have c1' : wr.cell? ⟨b, 1, none⟩ = some (.string s) := by obtain ⟨_, _, _, _, hc⟩ := hrun; exact hc.c1
    clear kf hF2 hF hfu ok hrd hrun hxa hx6 hkr hd hm he R3 K3 Q3 HX3 HA HT HR0 HOL hm1
    cases g with
    | true =>
      go_upto_region 7 with (go_at_call 38; refine (KF.out _).mono ?_; rintro e z3 ⟨rfl, hz⟩; have hl0 : B ≤ wr.heap.size := (by obtain ⟨_, h⟩ := HRUN.out; exact h.low); have R1 := hide (show RunL B D s true its z3 b ρ from (by obtain ⟨_, h⟩ := HRUN.out; exact ⟨_, h.below hz⟩)); have K1 := hide (KRR.out.trans (Kr.of_below hz hl0)); have X1 := hide ((hz.block _ (Array.getElem?_eq_some_iff.1 HXA.out).1).trans HXA.out); have S1 := hide ((hz.block _ (Array.getElem?_eq_some_iff.1 HX6.out).1).trans HX6.out); clear hz hl0 KF)
      obtain ⟨A4, hA4⟩ : ∃ A, A = z3.heap.size := ⟨_, rfl⟩
      have hb4 : Below z3.heap.size z3 (z3.alloc (.cells #[.int .i32 d0, .bool d1] 71)) := (Below.refl _ z3).alloc (Nat.le_refl _) _
      have hx4 := heap_alloc_new z3 (.cells #[.int .i32 d0, .bool d1] 71)
      have R2 := hide (show RunL B D s true its (z3.alloc (.cells #[.int .i32 d0, .bool d1] 71)) b ρ from (by obtain ⟨_, h⟩ := R1.out; exact ⟨_, h.below hb4⟩))
      have K2 := hide (K1.out.trans (Kr.of_below hb4 (by obtain ⟨_, h⟩ := R1.out; exact h.low)))
      have X2 := hide ((hb4.block _ (Array.getElem?_eq_some_iff.1 X1.out).1).trans X1.out)
      have S2 := hide ((hb4.block _ (Array.getElem?_eq_some_iff.1 S1.out).1).trans S1.out)
      rw [← hA4] at hx4 ⊢
      have D2 := hide hx4
      clear hA4 hb4 hx4 R1 K1 X1 S1 HXA HX6 KRR HRUN c1'
      generalize z3.alloc (.cells #[.int .i32 d0, .bool d1] 71) = Y at *
      have e0 := cel2 X2.out 0 _ rfl
      have e1 := cel2 X2.out 1 _ rfl
      have e2 := cel2 D2.out 0 _ rfl
      have e3 := cel2 D2.out 1 _ rfl
      have KA := hide (arrive_any B D s true its Y b ρ R2.out (by have := RD.out; omega) p hp hs (c0, c1) (d0, d1))
      unfold chV at KA
      simp only at KA
      have OK1 := hide (arriveF_ok0 (n := s.size) (a := (c0, c1)) (c := (d0, d1)) OK.out hp)
      go_upto_region 8 with (go_at_call 42; refine (KA.out).mono ?_; rintro e z4 ⟨rfl, hr4, hk4⟩; have R3 := hide hr4; have K3 := hide (K2.out.trans hk4); have X3 := hide ((hk4.2 _ _ _ _ X2.out (by decide) (by decide) (by decide)).trans X2.out); have S3 := hide ((hk4.2 _ _ _ _ S2.out (by decide) (by decide) (by decide)).trans S2.out); have D3 := hide ((hk4.2 _ _ _ _ D2.out (by decide) (by decide) (by decide)).trans D2.out); clear hr4 hk4 KA)
      clear e0 e1 e2 e3 R2 K2 X2 S2 D2
      obtain ⟨ρ1, hρ1⟩ : ∃ r, r = arriveF s.size p (c0, c1) (d0, d1) ρ := ⟨_, rfl⟩
      rw [← hρ1] at R3 OK1
      have E1 := hide hρ1
      clear hρ1
      have c2 : z4.cell? ⟨b, 2, none⟩ = some (.bool true) := by obtain ⟨_, _, _, _, hc⟩ := R3.out; exact hc.c2
      go_upto_region 10 with (go_at_call 43; refine (start_any B D s true its z4 b ρ1 R3.out s.size OK1.out hl t ht).mono ?_; rintro e z5 ⟨rfl, hr5, hk5⟩; have R4 := hide (show RunL B D s true its z5 b (mid2 true its t ρ1) from hr5); have K4 := hide (K3.out.trans hk5); have X4 := hide ((hk5.2 _ _ _ _ X3.out (by decide) (by decide) (by decide)).trans X3.out); have S4 := hide ((hk5.2 _ _ _ _ S3.out (by decide) (by decide) (by decide)).trans S3.out); have D4 := hide ((hk5.2 _ _ _ _ D3.out (by decide) (by decide) (by decide)).trans D3.out); clear hr5 hk5)
      clear R3 K3 X3 S3 D3 c2
      have OK2 := hide (mid2_ok (g := true) (t := t) OK1.out)
      obtain ⟨ρ2, hρ2⟩ : ∃ r, r = mid2 true its t ρ1 := ⟨_, rfl⟩
      rw [← hρ2] at R4 OK2
      have E2 := hide hρ2
      clear hρ2
      have e0 := cel2 X4.out 0 _ rfl
      have e1 := cel2 X4.out 1 _ rfl
      have c2 : z5.cell? ⟨b, 2, none⟩ = some (.bool true) := by obtain ⟨_, _, _, _, hc⟩ := R4.out; exact hc.c2
      have KS := hide (step_any B D s true its z5 b ρ2 R4.out s.size OK2.out hl (c0, c1))
      unfold chV at KS
      simp only at KS
      go_upto_region 11 with (go_at_call 44; refine (KS.out).mono ?_; rintro e z6 ⟨rfl, hr5, hk5⟩; have R5 := hide hr5; have K5 := hide (K4.out.trans hk5); have X5 := hide ((hk5.2 _ _ _ _ X4.out (by decide) (by decide) (by decide)).trans X4.out); have S5 := hide ((hk5.2 _ _ _ _ S4.out (by decide) (by decide) (by decide)).trans S4.out); have D5 := hide ((hk5.2 _ _ _ _ D4.out (by decide) (by decide) (by decide)).trans D4.out); clear hr5 hk5 KS)
      clear e0 e1 c2 R4 K4 X4 S4 D4
      have OK3 := hide (stepsF_ok (g := true) (c := (c0, c1)) ρ2.now ρ2 (fun u hu => (OK2.out.thn u hu).2) OK2.out)
      obtain ⟨ρ3, hρ3⟩ : ∃ r, r = stepsF true its (c0, c1) ρ2.now ρ2 := ⟨_, rfl⟩
      rw [← hρ3] at R5 OK3
      have E3 := hide hρ3
      clear hρ3
      have c2 : z6.cell? ⟨b, 2, none⟩ = some (.bool true) := by obtain ⟨_, _, _, _, hc⟩ := R5.out; exact hc.c2
      go_upto_region 13 with (fail)
      have R6 := hide (show RunL B D s true its z6 b (mid4 true its t ρ3) from R5.out)
      have K6 := K5
      have X6 := X5
      have S6 := S5
      have D6 := D5
      obtain ⟨z7, hz7⟩ : ∃ z, z = z6 := ⟨_, rfl⟩
      rw [← hz7] at R6 K6 X6 S6 D6 ⊢
      clear hz7
      clear R5 K5 X5 S5 D5 c2
      have OK4 := hide (mid4_ok (g := true) (t := t) OK3.out)
      obtain ⟨ρ4, hρ4⟩ : ∃ r, r = mid4 true its t ρ3 := ⟨_, rfl⟩
      rw [← hρ4] at R6 OK4
      have E4 : Hid (roundF true its s.size t p (c0, c1) (d0, d1) ρ = swapF ρ4) := by
        show _ = _
        rw [roundF_eq, ← E1.out, ← E2.out, ← E3.out, ← hρ4]
      clear hρ4 E1 E2 E3 OK1 OK2 OK3
      obtain ⟨nv, iv, xv, S, hc⟩ := R6.out
      obtain ⟨na, nq, rfl⟩ := own_shape hc.now
      obtain ⟨xa, xq, rfl⟩ := own_shape hc.next
      have c3 := hc.c3
      have c4 := hc.c4
      have f0 := hc.frz
      have HC := hide hc
      clear hc R6
      go_region
      have nb : ∀ {k : Nat} {cs : Array Value} {ty : TypeId}, z7.heap[k]? = some (.cells cs ty (0, 0)) → ty ≠ 66 → k ≠ b := fun hk hne e => by
        have h1 := HC.out.box
        rw [← e, hk] at h1
        simp at h1
        exact hne h1.2
      have oth : ∀ {k : Nat}, k ≠ b → ((z7.setCell ⟨b, 3, none⟩ (.slice xa ρ4.next.length xq)).setCell ⟨b, 4, none⟩ (.slice na ρ4.now.length nq)).drew.heap[k]? = z7.heap[k]? := fun hk => (heap_setCell_other _ ⟨b, 4, none⟩ _ _ hk).trans (heap_setCell_other _ ⟨b, 3, none⟩ _ _ hk)
      have R7 := hide (HC.out.swap.drew)
      have K7 : Hid (Kr B w ((z7.setCell ⟨b, 3, none⟩ (.slice xa ρ4.next.length xq)).setCell ⟨b, 4, none⟩ (.slice na ρ4.now.length nq)).drew) := (((K6.out.set (o := 3) HC.out.lb HC.out.box (.inl rfl) (.slice xa ρ4.next.length xq)).set (o := 4) HC.out.lb (heap_setCell_same _ b 3 _ _ _ HC.out.box) (.inl rfl) (.slice na ρ4.now.length nq)).trans (Kr.drewN B _ 1))
      have X7 := hide ((oth (nb X6.out (by decide))).trans X6.out)
      have S7 := hide ((oth (nb S6.out (by decide))).trans S6.out)
      have D7 := hide ((oth (nb D6.out (by decide))).trans D6.out)
      obtain ⟨σ5, h5⟩ : ∃ r, r = swapF ρ4 := ⟨_, rfl⟩
      obtain ⟨n5, hn5⟩ : ∃ n, n = ρ4.next.length := ⟨_, rfl⟩
      have OK5 : Hid (σ5.Ok0 its s.size) := by show Rs.Ok0 _ _ _; rw [h5]; exact swapF_ok OK4.out
      have RD5 : Hid (σ5.round = ρ.round + 1) := by show _ = _; rw [h5, ← E4.out]; exact roundF_round
      have N5 : Hid (σ5.now.length = n5) := by show _ = _; rw [h5, hn5]; rfl
      have HF5 := HF2.out
      rw [E4.out, ← h5] at HF5
      have HF6 := hide HF5
      rw [← h5] at R7
      rw [← hn5] at R7 K7 X7 S7 D7 ⊢
      clear oth nb HF5 HF2 E4 h5 hn5 OK4 OK K6 X6 S6 D6 HC c3 c4 f0
      generalize ((z7.setCell ⟨b, 3, none⟩ (.slice xa n5 xq)).setCell ⟨b, 4, none⟩ (.slice na ρ4.now.length nq)).drew = V at *
      have c3 := R7.out.c3
      have c10 := R7.out.c10
      have c11 := R7.out.c11
      have c12 := R7.out.c12
      have f6 := box2_frz S7.out
      have y0 := cel2 S7.out 0 _ rfl
      have y1 := cel2 S7.out 1 _ rfl
      obtain ⟨P1, hP1⟩ : ∃ q, q = p + 1 := ⟨_, rfl⟩
      obtain ⟨P2, hP2⟩ : ∃ q, q = p + m := ⟨_, rfl⟩
      have w1 : IntKind.i64.wrap ((p : Int) + 1) = (P1 : Int) := by rw [IntKind.wrap_i64, hP1]; omega
      have w2 : IntKind.i64.wrap ((p : Int) + (m : Int)) = (P2 : Int) := by have := HM1.out.1; rw [IntKind.wrap_i64, hP2]; omega
      have kw := worse_any B D s true its V b σ5 ⟨_, _, _, _, R7.out⟩ P1
      have hst : stopV true t p m σ5 = (decide (m = 0) || (decide (n5 = 0) && (decide (t ≤ (p : Int)) || worseV true σ5 P1))) := by unfold stopV; rw [N5.out, hP1]
      have HST := hide hst
      have HP2 := hide hP2
      clear hst hP1 hP2
      rcases (show m = 0 ∨ (m ≠ 0 ∧ n5 = 0 ∧ t ≤ (p : Int)) ∨ (m ≠ 0 ∧ n5 = 0 ∧ ¬ t ≤ (p : Int) ∧ worseV true σ5 P1 = true) ∨ (m ≠ 0 ∧ n5 = 0 ∧ ¬ t ≤ (p : Int) ∧ worseV true σ5 P1 = false) ∨ (m ≠ 0 ∧ n5 ≠ 0) by cases worseV true σ5 P1 <;> simp <;> omega) with hm0 | ⟨hm0, hn0, htp⟩ | ⟨hm0, hn0, htp, hw⟩ | ⟨hm0, hn0, htp, hw⟩ | ⟨hm0, hn0⟩
      · have i1 : (m : Int) = 0 := by omega
        clear kw
        have hE : σ5 = τ := by have h := HF6.out; rwa [if_pos (by rw [HST.out, decide_eq_true hm0]; rfl)] at h
        have HEQ := hide hE
        clear hE hm0
        go_upto_region 15 with (fail)
        go_region
        go_wp2_with (fail)
        have q6 := hide (box2 S7.out (.int .i64 (σ5.bf : Int)) (.int .i64 (σ5.bt : Int)))
        refine bodyPost_ret (results_row_tmpX rfl _ _ A6 _ _ _ _ rfl q6.out Tryz.underlying36 rfl (by kernel_rfl)) rfl ?_
        rw [← HEQ.out]
        have s1 := heap_setCell_same V A6 0 _ _ (.int .i64 (σ5.bf : Int)) S7.out
        exact ⟨rfl, ⟨_, _, _, _, ((R7.out.other S7.out (by decide) (by decide) (by decide) (Nat.le_trans HBS.out HB6.out) (.int .i64 (σ5.bf : Int))).other s1 (by decide) (by decide) (by decide) (Nat.le_trans HBS.out HB6.out) (.int .i64 (σ5.bt : Int))).drew⟩, ((K7.out.setNew HB6.out HBS.out _).setNew HB6.out HBS.out _).trans (Kr.drewN B _ 1)⟩
      · have i1 : (m : Int) ≠ 0 := by omega
        have i2 : (n5 : Int) = 0 := by omega
        clear kw
        have hE : σ5 = τ := by have h := HF6.out; rwa [if_pos (by rw [HST.out, decide_eq_false hm0, decide_eq_true hn0, decide_eq_true htp]; rfl)] at h
        have HEQ := hide hE
        clear hE hm0 hn0
        go_upto_region 15 with (fail)
        go_region
        go_wp2_with (fail)
        have q6 := hide (box2 S7.out (.int .i64 (σ5.bf : Int)) (.int .i64 (σ5.bt : Int)))
        refine bodyPost_ret (results_row_tmpX rfl _ _ A6 _ _ _ _ rfl q6.out Tryz.underlying36 rfl (by kernel_rfl)) rfl ?_
        rw [← HEQ.out]
        have s1 := heap_setCell_same V A6 0 _ _ (.int .i64 (σ5.bf : Int)) S7.out
        exact ⟨rfl, ⟨_, _, _, _, ((R7.out.other S7.out (by decide) (by decide) (by decide) (Nat.le_trans HBS.out HB6.out) (.int .i64 (σ5.bf : Int))).other s1 (by decide) (by decide) (by decide) (Nat.le_trans HBS.out HB6.out) (.int .i64 (σ5.bt : Int))).drew⟩, ((K7.out.setNew HB6.out HBS.out _).setNew HB6.out HBS.out _).trans (Kr.drewN B _ 1)⟩
      · have i1 : (m : Int) ≠ 0 := by omega
        have i2 : (n5 : Int) = 0 := by omega
        have i3 : (p : Int) < t := by omega
        rw [hw] at kw
        have KW := hide kw
        clear kw
        have hE : σ5 = τ := by have h := HF6.out; rwa [if_pos (by rw [HST.out, decide_eq_false hm0, decide_eq_true hn0, decide_eq_false htp, hw]; rfl)] at h
        have HEQ := hide hE
        clear hE hm0 hn0 hw
        go_upto_region 15 with (go_at_call 45; refine (KW.out).mono ?_; rintro e x1 ⟨rfl, hx⟩; obtain rfl : V = x1 := hx.symm; clear hx KW)
        go_region
        go_wp2_with (fail)
        have q6 := hide (box2 S7.out (.int .i64 (σ5.bf : Int)) (.int .i64 (σ5.bt : Int)))
        refine bodyPost_ret (results_row_tmpX rfl _ _ A6 _ _ _ _ rfl q6.out Tryz.underlying36 rfl (by kernel_rfl)) rfl ?_
        rw [← HEQ.out]
        have s1 := heap_setCell_same V A6 0 _ _ (.int .i64 (σ5.bf : Int)) S7.out
        exact ⟨rfl, ⟨_, _, _, _, ((R7.out.other S7.out (by decide) (by decide) (by decide) (Nat.le_trans HBS.out HB6.out) (.int .i64 (σ5.bf : Int))).other s1 (by decide) (by decide) (by decide) (Nat.le_trans HBS.out HB6.out) (.int .i64 (σ5.bt : Int))).drew⟩, ((K7.out.setNew HB6.out HBS.out _).setNew HB6.out HBS.out _).trans (Kr.drewN B _ 1)⟩
      · have i1 : (m : Int) ≠ 0 := by omega
        have i2 : (n5 : Int) = 0 := by omega
        have i3 : (p : Int) < t := by omega
        rw [hw] at kw
        have KW := hide kw
        clear kw
        have hE : loopF true its (bl s) t fk (p + m) (d0, d1) σ5 = τ := by have h := HF6.out; rwa [if_neg (by rw [show stopV true t p m σ5 = false from by rw [HST.out, decide_eq_false hm0, decide_eq_true hn0, decide_eq_false htp, hw]; rfl]; decide)] at h
        have HEQ := hide hE
        clear hE hn0 hw
        have e2 := cel2 D7.out 0 _ rfl
        have e3 := cel2 D7.out 1 _ rfl
        have x0 := cel2 X7.out 0 _ rfl
        have x1' := cel2 X7.out 1 _ rfl
        have fx := box2_frz X7.out
        have X8 := hide (box2 X7.out (.int .i32 d0) (.bool d1))
        go_wp2_with (go_at_call 45; refine (KW.out).mono ?_; rintro e x1 ⟨rfl, hx⟩; obtain rfl : V = x1 := hx.symm; clear hx KW)
        go_roundw
        case rel =>
          have hAA : A6 ≠ A := fun e => by have h := S7.out; rw [e, X7.out] at h; simp at h
          have s1 := heap_setCell_same V A 0 _ _ (.int .i32 d0) X7.out
          refine ⟨P2, (d0, d1), σ5, rfl, by rw [HP2.out]; exact HM1.out.1, OK5.out, ?_, ⟨_, _, _, _, (R7.out.other X7.out (by decide) (by decide) (by decide) (Nat.le_trans HBS.out HBA.out) (.int .i32 d0)).other s1 (by decide) (by decide) (by decide) (Nat.le_trans HBS.out HBA.out) (.bool d1)⟩, X8.out, ?_, (K7.out.setNew HBA.out HBS.out _).setNew HBA.out HBS.out _, fk, ?_, by rw [HP2.out]; exact HEQ.out⟩
          · have h1 := RD.out
            have h2 := RD5.out
            have h3 := HP2.out
            have h4 := HM1.out.1
            omega
          · exact (heap_setCell_other _ ⟨A, 1, none⟩ A6 _ hAA).trans ((heap_setCell_other _ ⟨A, 0, none⟩ A6 _ hAA).trans S7.out)
          · have h1 := HFU.out
            have h2 := HP2.out
            omega
        case measure =>
          have h3 := HP2.out
          simp [intOf]
          omega
      · have i1 : (m : Int) ≠ 0 := by omega
        have i2 : (n5 : Int) ≠ 0 := by omega
        clear kw
        have hE : loopF true its (bl s) t fk (p + m) (d0, d1) σ5 = τ := by have h := HF6.out; rwa [if_neg (by rw [show stopV true t p m σ5 = false from by rw [HST.out, decide_eq_false hm0, decide_eq_false hn0]; rfl]; decide)] at h
        have HEQ := hide hE
        clear hE hn0
        have e2 := cel2 D7.out 0 _ rfl
        have e3 := cel2 D7.out 1 _ rfl
        have x0 := cel2 X7.out 0 _ rfl
        have x1' := cel2 X7.out 1 _ rfl
        have fx := box2_frz X7.out
        have X8 := hide (box2 X7.out (.int .i32 d0) (.bool d1))
        go_wp2_with (fail)
        go_roundw
        case rel =>
          have hAA : A6 ≠ A := fun e => by have h := S7.out; rw [e, X7.out] at h; simp at h
          have s1 := heap_setCell_same V A 0 _ _ (.int .i32 d0) X7.out
          refine ⟨P2, (d0, d1), σ5, rfl, by rw [HP2.out]; exact HM1.out.1, OK5.out, ?_, ⟨_, _, _, _, (R7.out.other X7.out (by decide) (by decide) (by decide) (Nat.le_trans HBS.out HBA.out) (.int .i32 d0)).other s1 (by decide) (by decide) (by decide) (Nat.le_trans HBS.out HBA.out) (.bool d1)⟩, X8.out, ?_, (K7.out.setNew HBA.out HBS.out _).setNew HBA.out HBS.out _, fk, ?_, by rw [HP2.out]; exact HEQ.out⟩
          · have h1 := RD.out
            have h2 := RD5.out
            have h3 := HP2.out
            have h4 := HM1.out.1
            omega
          · exact (heap_setCell_other _ ⟨A, 1, none⟩ A6 _ hAA).trans ((heap_setCell_other _ ⟨A, 0, none⟩ A6 _ hAA).trans S7.out)
          · have h1 := HFU.out
            have h2 := HP2.out
            omega
        case measure =>
          have h3 := HP2.out
          simp [intOf]
          omega
    | false =>
      go_upto_region 7 with (go_at_call 38; refine (KF.out _).mono ?_; rintro e z3 ⟨rfl, hz⟩; have hl0 : B ≤ wr.heap.size := (by obtain ⟨_, h⟩ := HRUN.out; exact h.low); have R1 := hide (show RunL B D s false its z3 b ρ from (by obtain ⟨_, h⟩ := HRUN.out; exact ⟨_, h.below hz⟩)); have K1 := hide (KRR.out.trans (Kr.of_below hz hl0)); have X1 := hide ((hz.block _ (Array.getElem?_eq_some_iff.1 HXA.out).1).trans HXA.out); have S1 := hide ((hz.block _ (Array.getElem?_eq_some_iff.1 HX6.out).1).trans HX6.out); clear hz hl0 KF)
      obtain ⟨A4, hA4⟩ : ∃ A, A = z3.heap.size := ⟨_, rfl⟩
      have hb4 : Below z3.heap.size z3 (z3.alloc (.cells #[.int .i32 d0, .bool d1] 71)) := (Below.refl _ z3).alloc (Nat.le_refl _) _
      have hx4 := heap_alloc_new z3 (.cells #[.int .i32 d0, .bool d1] 71)
      have R2 := hide (show RunL B D s false its (z3.alloc (.cells #[.int .i32 d0, .bool d1] 71)) b ρ from (by obtain ⟨_, h⟩ := R1.out; exact ⟨_, h.below hb4⟩))
      have K2 := hide (K1.out.trans (Kr.of_below hb4 (by obtain ⟨_, h⟩ := R1.out; exact h.low)))
      have X2 := hide ((hb4.block _ (Array.getElem?_eq_some_iff.1 X1.out).1).trans X1.out)
      have S2 := hide ((hb4.block _ (Array.getElem?_eq_some_iff.1 S1.out).1).trans S1.out)
      rw [← hA4] at hx4 ⊢
      have D2 := hide hx4
      clear hA4 hb4 hx4 R1 K1 X1 S1 HXA HX6 KRR HRUN c1'
      generalize z3.alloc (.cells #[.int .i32 d0, .bool d1] 71) = Y at *
      have e0 := cel2 X2.out 0 _ rfl
      have e1 := cel2 X2.out 1 _ rfl
      have e2 := cel2 D2.out 0 _ rfl
      have e3 := cel2 D2.out 1 _ rfl
      have KA := hide (arrive_any B D s false its Y b ρ R2.out (by have := RD.out; omega) p hp hs (c0, c1) (d0, d1))
      unfold chV at KA
      simp only at KA
      have OK1 := hide (arriveF_ok0 (n := s.size) (a := (c0, c1)) (c := (d0, d1)) OK.out hp)
      go_upto_region 8 with (go_at_call 42; refine (KA.out).mono ?_; rintro e z4 ⟨rfl, hr4, hk4⟩; have R3 := hide hr4; have K3 := hide (K2.out.trans hk4); have X3 := hide ((hk4.2 _ _ _ _ X2.out (by decide) (by decide) (by decide)).trans X2.out); have S3 := hide ((hk4.2 _ _ _ _ S2.out (by decide) (by decide) (by decide)).trans S2.out); have D3 := hide ((hk4.2 _ _ _ _ D2.out (by decide) (by decide) (by decide)).trans D2.out); clear hr4 hk4 KA)
      clear e0 e1 e2 e3 R2 K2 X2 S2 D2
      obtain ⟨ρ1, hρ1⟩ : ∃ r, r = arriveF s.size p (c0, c1) (d0, d1) ρ := ⟨_, rfl⟩
      rw [← hρ1] at R3 OK1
      have E1 := hide hρ1
      clear hρ1
      have c2 : z4.cell? ⟨b, 2, none⟩ = some (.bool false) := by obtain ⟨_, _, _, _, hc⟩ := R3.out; exact hc.c2
      go_upto_region 10 with (fail)
      have R4 := hide (show RunL B D s false its z4 b (mid2 false its t ρ1) from R3.out)
      have K4 := K3
      have X4 := X3
      have S4 := S3
      have D4 := D3
      obtain ⟨z5, hz5⟩ : ∃ z, z = z4 := ⟨_, rfl⟩
      rw [← hz5] at R4 K4 X4 S4 D4 ⊢
      clear hz5
      clear R3 K3 X3 S3 D3 c2
      have OK2 := hide (mid2_ok (g := false) (t := t) OK1.out)
      obtain ⟨ρ2, hρ2⟩ : ∃ r, r = mid2 false its t ρ1 := ⟨_, rfl⟩
      rw [← hρ2] at R4 OK2
      have E2 := hide hρ2
      clear hρ2
      have e0 := cel2 X4.out 0 _ rfl
      have e1 := cel2 X4.out 1 _ rfl
      have c2 : z5.cell? ⟨b, 2, none⟩ = some (.bool false) := by obtain ⟨_, _, _, _, hc⟩ := R4.out; exact hc.c2
      have KS := hide (step_any B D s false its z5 b ρ2 R4.out s.size OK2.out hl (c0, c1))
      unfold chV at KS
      simp only at KS
      go_upto_region 11 with (go_at_call 44; refine (KS.out).mono ?_; rintro e z6 ⟨rfl, hr5, hk5⟩; have R5 := hide hr5; have K5 := hide (K4.out.trans hk5); have X5 := hide ((hk5.2 _ _ _ _ X4.out (by decide) (by decide) (by decide)).trans X4.out); have S5 := hide ((hk5.2 _ _ _ _ S4.out (by decide) (by decide) (by decide)).trans S4.out); have D5 := hide ((hk5.2 _ _ _ _ D4.out (by decide) (by decide) (by decide)).trans D4.out); clear hr5 hk5 KS)
      clear e0 e1 c2 R4 K4 X4 S4 D4
      have OK3 := hide (stepsF_ok (g := false) (c := (c0, c1)) ρ2.now ρ2 (fun u hu => (OK2.out.thn u hu).2) OK2.out)
      obtain ⟨ρ3, hρ3⟩ : ∃ r, r = stepsF false its (c0, c1) ρ2.now ρ2 := ⟨_, rfl⟩
      rw [← hρ3] at R5 OK3
      have E3 := hide hρ3
      clear hρ3
      have c2 : z6.cell? ⟨b, 2, none⟩ = some (.bool false) := by obtain ⟨_, _, _, _, hc⟩ := R5.out; exact hc.c2
      go_upto_region 13 with (go_at_call 43; refine (start_any B D s false its z6 b ρ3 R5.out s.size OK3.out hl t ht).mono ?_; rintro e z7 ⟨rfl, hr5, hk5⟩; have R6 := hide (show RunL B D s false its z7 b (mid4 false its t ρ3) from hr5); have K6 := hide (K5.out.trans hk5); have X6 := hide ((hk5.2 _ _ _ _ X5.out (by decide) (by decide) (by decide)).trans X5.out); have S6 := hide ((hk5.2 _ _ _ _ S5.out (by decide) (by decide) (by decide)).trans S5.out); have D6 := hide ((hk5.2 _ _ _ _ D5.out (by decide) (by decide) (by decide)).trans D5.out); clear hr5 hk5)
      clear R5 K5 X5 S5 D5 c2
      have OK4 := hide (mid4_ok (g := false) (t := t) OK3.out)
      obtain ⟨ρ4, hρ4⟩ : ∃ r, r = mid4 false its t ρ3 := ⟨_, rfl⟩
      rw [← hρ4] at R6 OK4
      have E4 : Hid (roundF false its s.size t p (c0, c1) (d0, d1) ρ = swapF ρ4) := by
        show _ = _
        rw [roundF_eq, ← E1.out, ← E2.out, ← E3.out, ← hρ4]
      clear hρ4 E1 E2 E3 OK1 OK2 OK3
      obtain ⟨nv, iv, xv, S, hc⟩ := R6.out
      obtain ⟨na, nq, rfl⟩ := own_shape hc.now
      obtain ⟨xa, xq, rfl⟩ := own_shape hc.next
      have c3 := hc.c3
      have c4 := hc.c4
      have f0 := hc.frz
      have HC := hide hc
      clear hc R6
      go_region
      have nb : ∀ {k : Nat} {cs : Array Value} {ty : TypeId}, z7.heap[k]? = some (.cells cs ty (0, 0)) → ty ≠ 66 → k ≠ b := fun hk hne e => by
        have h1 := HC.out.box
        rw [← e, hk] at h1
        simp at h1
        exact hne h1.2
      have oth : ∀ {k : Nat}, k ≠ b → ((z7.setCell ⟨b, 3, none⟩ (.slice xa ρ4.next.length xq)).setCell ⟨b, 4, none⟩ (.slice na ρ4.now.length nq)).drew.heap[k]? = z7.heap[k]? := fun hk => (heap_setCell_other _ ⟨b, 4, none⟩ _ _ hk).trans (heap_setCell_other _ ⟨b, 3, none⟩ _ _ hk)
      have R7 := hide (HC.out.swap.drew)
      have K7 : Hid (Kr B w ((z7.setCell ⟨b, 3, none⟩ (.slice xa ρ4.next.length xq)).setCell ⟨b, 4, none⟩ (.slice na ρ4.now.length nq)).drew) := (((K6.out.set (o := 3) HC.out.lb HC.out.box (.inl rfl) (.slice xa ρ4.next.length xq)).set (o := 4) HC.out.lb (heap_setCell_same _ b 3 _ _ _ HC.out.box) (.inl rfl) (.slice na ρ4.now.length nq)).trans (Kr.drewN B _ 1))
      have X7 := hide ((oth (nb X6.out (by decide))).trans X6.out)
      have S7 := hide ((oth (nb S6.out (by decide))).trans S6.out)
      have D7 := hide ((oth (nb D6.out (by decide))).trans D6.out)
      obtain ⟨σ5, h5⟩ : ∃ r, r = swapF ρ4 := ⟨_, rfl⟩
      obtain ⟨n5, hn5⟩ : ∃ n, n = ρ4.next.length := ⟨_, rfl⟩
      have OK5 : Hid (σ5.Ok0 its s.size) := by show Rs.Ok0 _ _ _; rw [h5]; exact swapF_ok OK4.out
      have RD5 : Hid (σ5.round = ρ.round + 1) := by show _ = _; rw [h5, ← E4.out]; exact roundF_round
      have N5 : Hid (σ5.now.length = n5) := by show _ = _; rw [h5, hn5]; rfl
      have HF5 := HF2.out
      rw [E4.out, ← h5] at HF5
      have HF6 := hide HF5
      rw [← h5] at R7
      rw [← hn5] at R7 K7 X7 S7 D7 ⊢
      clear oth nb HF5 HF2 E4 h5 hn5 OK4 OK K6 X6 S6 D6 HC c3 c4 f0
      generalize ((z7.setCell ⟨b, 3, none⟩ (.slice xa n5 xq)).setCell ⟨b, 4, none⟩ (.slice na ρ4.now.length nq)).drew = V at *
      have c3 := R7.out.c3
      have c10 := R7.out.c10
      have c11 := R7.out.c11
      have c12 := R7.out.c12
      have f6 := box2_frz S7.out
      have y0 := cel2 S7.out 0 _ rfl
      have y1 := cel2 S7.out 1 _ rfl
      obtain ⟨P1, hP1⟩ : ∃ q, q = p + 1 := ⟨_, rfl⟩
      obtain ⟨P2, hP2⟩ : ∃ q, q = p + m := ⟨_, rfl⟩
      have w1 : IntKind.i64.wrap ((p : Int) + 1) = (P1 : Int) := by rw [IntKind.wrap_i64, hP1]; omega
      have w2 : IntKind.i64.wrap ((p : Int) + (m : Int)) = (P2 : Int) := by have := HM1.out.1; rw [IntKind.wrap_i64, hP2]; omega
      have kw := worse_any B D s false its V b σ5 ⟨_, _, _, _, R7.out⟩ P1
      have hst : stopV false t p m σ5 = (decide (m = 0) || (decide (n5 = 0) && (decide (t ≤ (p : Int)) || worseV false σ5 P1))) := by unfold stopV; rw [N5.out, hP1]
      have HST := hide hst
      have HP2 := hide hP2
      clear hst hP1 hP2
      rcases (show m = 0 ∨ (m ≠ 0 ∧ n5 = 0 ∧ t ≤ (p : Int)) ∨ (m ≠ 0 ∧ n5 = 0 ∧ ¬ t ≤ (p : Int) ∧ worseV false σ5 P1 = true) ∨ (m ≠ 0 ∧ n5 = 0 ∧ ¬ t ≤ (p : Int) ∧ worseV false σ5 P1 = false) ∨ (m ≠ 0 ∧ n5 ≠ 0) by cases worseV false σ5 P1 <;> simp <;> omega) with hm0 | ⟨hm0, hn0, htp⟩ | ⟨hm0, hn0, htp, hw⟩ | ⟨hm0, hn0, htp, hw⟩ | ⟨hm0, hn0⟩
      · have i1 : (m : Int) = 0 := by omega
        clear kw
        have hE : σ5 = τ := by have h := HF6.out; rwa [if_pos (by rw [HST.out, decide_eq_true hm0]; rfl)] at h
        have HEQ := hide hE
        clear hE hm0
        go_upto_region 15 with (fail)
        go_region
        go_wp2_with (fail)
        have q6 := hide (box2 S7.out (.int .i64 (σ5.bf : Int)) (.int .i64 (σ5.bt : Int)))
        refine bodyPost_ret (results_row_tmpX rfl _ _ A6 _ _ _ _ rfl q6.out Tryz.underlying36 rfl (by kernel_rfl)) rfl ?_
        rw [← HEQ.out]
        have s1 := heap_setCell_same V A6 0 _ _ (.int .i64 (σ5.bf : Int)) S7.out
        exact ⟨rfl, ⟨_, _, _, _, ((R7.out.other S7.out (by decide) (by decide) (by decide) (Nat.le_trans HBS.out HB6.out) (.int .i64 (σ5.bf : Int))).other s1 (by decide) (by decide) (by decide) (Nat.le_trans HBS.out HB6.out) (.int .i64 (σ5.bt : Int))).drew⟩, ((K7.out.setNew HB6.out HBS.out _).setNew HB6.out HBS.out _).trans (Kr.drewN B _ 1)⟩
      · have i1 : (m : Int) ≠ 0 := by omega
        have i2 : (n5 : Int) = 0 := by omega
        clear kw
        have hE : σ5 = τ := by have h := HF6.out; rwa [if_pos (by rw [HST.out, decide_eq_false hm0, decide_eq_true hn0, decide_eq_true htp]; rfl)] at h
        have HEQ := hide hE
        clear hE hm0 hn0
        go_upto_region 15 with (fail)
        go_region
        go_wp2_with (fail)
        have q6 := hide (box2 S7.out (.int .i64 (σ5.bf : Int)) (.int .i64 (σ5.bt : Int)))
        refine bodyPost_ret (results_row_tmpX rfl _ _ A6 _ _ _ _ rfl q6.out Tryz.underlying36 rfl (by kernel_rfl)) rfl ?_
        rw [← HEQ.out]
        have s1 := heap_setCell_same V A6 0 _ _ (.int .i64 (σ5.bf : Int)) S7.out
        exact ⟨rfl, ⟨_, _, _, _, ((R7.out.other S7.out (by decide) (by decide) (by decide) (Nat.le_trans HBS.out HB6.out) (.int .i64 (σ5.bf : Int))).other s1 (by decide) (by decide) (by decide) (Nat.le_trans HBS.out HB6.out) (.int .i64 (σ5.bt : Int))).drew⟩, ((K7.out.setNew HB6.out HBS.out _).setNew HB6.out HBS.out _).trans (Kr.drewN B _ 1)⟩
      · have i1 : (m : Int) ≠ 0 := by omega
        have i2 : (n5 : Int) = 0 := by omega
        have i3 : (p : Int) < t := by omega
        rw [hw] at kw
        have KW := hide kw
        clear kw
        have hE : σ5 = τ := by have h := HF6.out; rwa [if_pos (by rw [HST.out, decide_eq_false hm0, decide_eq_true hn0, decide_eq_false htp, hw]; rfl)] at h
        have HEQ := hide hE
        clear hE hm0 hn0 hw
        go_upto_region 15 with (go_at_call 45; refine (KW.out).mono ?_; rintro e x1 ⟨rfl, hx⟩; obtain rfl : V = x1 := hx.symm; clear hx KW)
        go_region
        go_wp2_with (fail)
        have q6 := hide (box2 S7.out (.int .i64 (σ5.bf : Int)) (.int .i64 (σ5.bt : Int)))
        refine bodyPost_ret (results_row_tmpX rfl _ _ A6 _ _ _ _ rfl q6.out Tryz.underlying36 rfl (by kernel_rfl)) rfl ?_
        rw [← HEQ.out]
        have s1 := heap_setCell_same V A6 0 _ _ (.int .i64 (σ5.bf : Int)) S7.out
        exact ⟨rfl, ⟨_, _, _, _, ((R7.out.other S7.out (by decide) (by decide) (by decide) (Nat.le_trans HBS.out HB6.out) (.int .i64 (σ5.bf : Int))).other s1 (by decide) (by decide) (by decide) (Nat.le_trans HBS.out HB6.out) (.int .i64 (σ5.bt : Int))).drew⟩, ((K7.out.setNew HB6.out HBS.out _).setNew HB6.out HBS.out _).trans (Kr.drewN B _ 1)⟩
      · have i1 : (m : Int) ≠ 0 := by omega
        have i2 : (n5 : Int) = 0 := by omega
        have i3 : (p : Int) < t := by omega
        rw [hw] at kw
        have KW := hide kw
        clear kw
        have hE : loopF false its (bl s) t fk (p + m) (d0, d1) σ5 = τ := by have h := HF6.out; rwa [if_neg (by rw [show stopV false t p m σ5 = false from by rw [HST.out, decide_eq_false hm0, decide_eq_true hn0, decide_eq_false htp, hw]; rfl]; decide)] at h
        have HEQ := hide hE
        clear hE hn0 hw
        have e2 := cel2 D7.out 0 _ rfl
        have e3 := cel2 D7.out 1 _ rfl
        have x0 := cel2 X7.out 0 _ rfl
        have x1' := cel2 X7.out 1 _ rfl
        have fx := box2_frz X7.out
        have X8 := hide (box2 X7.out (.int .i32 d0) (.bool d1))
        go_wp2_with (go_at_call 45; refine (KW.out).mono ?_; rintro e x1 ⟨rfl, hx⟩; obtain rfl : V = x1 := hx.symm; clear hx KW)
        go_roundw
        case rel =>
          have hAA : A6 ≠ A := fun e => by have h := S7.out; rw [e, X7.out] at h; simp at h
          have s1 := heap_setCell_same V A 0 _ _ (.int .i32 d0) X7.out
          refine ⟨P2, (d0, d1), σ5, rfl, by rw [HP2.out]; exact HM1.out.1, OK5.out, ?_, ⟨_, _, _, _, (R7.out.other X7.out (by decide) (by decide) (by decide) (Nat.le_trans HBS.out HBA.out) (.int .i32 d0)).other s1 (by decide) (by decide) (by decide) (Nat.le_trans HBS.out HBA.out) (.bool d1)⟩, X8.out, ?_, (K7.out.setNew HBA.out HBS.out _).setNew HBA.out HBS.out _, fk, ?_, by rw [HP2.out]; exact HEQ.out⟩
          · have h1 := RD.out
            have h2 := RD5.out
            have h3 := HP2.out
            have h4 := HM1.out.1
            omega
          · exact (heap_setCell_other _ ⟨A, 1, none⟩ A6 _ hAA).trans ((heap_setCell_other _ ⟨A, 0, none⟩ A6 _ hAA).trans S7.out)
          · have h1 := HFU.out
            have h2 := HP2.out
            omega
        case measure =>
          have h3 := HP2.out
          simp [intOf]
          omega
      · have i1 : (m : Int) ≠ 0 := by omega
        have i2 : (n5 : Int) ≠ 0 := by omega
        clear kw
        have hE : loopF false its (bl s) t fk (p + m) (d0, d1) σ5 = τ := by have h := HF6.out; rwa [if_neg (by rw [show stopV false t p m σ5 = false from by rw [HST.out, decide_eq_false hm0, decide_eq_false hn0]; rfl]; decide)] at h
        have HEQ := hide hE
        clear hE hn0
        have e2 := cel2 D7.out 0 _ rfl
        have e3 := cel2 D7.out 1 _ rfl
        have x0 := cel2 X7.out 0 _ rfl
        have x1' := cel2 X7.out 1 _ rfl
        have fx := box2_frz X7.out
        have X8 := hide (box2 X7.out (.int .i32 d0) (.bool d1))
        go_wp2_with (fail)
        go_roundw
        case rel =>
          have hAA : A6 ≠ A := fun e => by have h := S7.out; rw [e, X7.out] at h; simp at h
          have s1 := heap_setCell_same V A 0 _ _ (.int .i32 d0) X7.out
          refine ⟨P2, (d0, d1), σ5, rfl, by rw [HP2.out]; exact HM1.out.1, OK5.out, ?_, ⟨_, _, _, _, (R7.out.other X7.out (by decide) (by decide) (by decide) (Nat.le_trans HBS.out HBA.out) (.int .i32 d0)).other s1 (by decide) (by decide) (by decide) (Nat.le_trans HBS.out HBA.out) (.bool d1)⟩, X8.out, ?_, (K7.out.setNew HBA.out HBS.out _).setNew HBA.out HBS.out _, fk, ?_, by rw [HP2.out]; exact HEQ.out⟩
          · have h1 := RD.out
            have h2 := RD5.out
            have h3 := HP2.out
            have h4 := HM1.out.1
            omega
          · exact (heap_setCell_other _ ⟨A, 1, none⟩ A6 _ hAA).trans ((heap_setCell_other _ ⟨A, 0, none⟩ A6 _ hAA).trans S7.out)
          · have h1 := HFU.out
            have h2 := HP2.out
            omega
        case measure =>
          have h3 := HP2.out
          simp [intOf]
          omega
end Go.Proofs.YtodooppapciegaaGreatDoor
