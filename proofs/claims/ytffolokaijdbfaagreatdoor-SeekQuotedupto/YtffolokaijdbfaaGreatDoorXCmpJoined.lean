/- Package seek: Compile, of every text. -/
import Derived.Test.YtffolokaijdbfaaGreatDoorXFindA
import Derived.Test.YtffolokaijdbfaaGreatDoorXCmpW
import Derived.Test.YtffolokaijdbfaaGreatDoorXMatch
import Derived.Test.YtffolokaijdbfaaGreatDoorXRead
import Derived.Test.YtffolokaijdbfaaGreatDoorXRunI
import Derived.Deep.RegionWith
namespace Go.Proofs.YtffolokaijdbfaaGreatDoor
open Go.RowKit Go.Shelf
set_option linter.unusedVariables false
set_option linter.unusedSimpArgs false
attribute [local go_sem] Oper.semAt_some

theorem load_boolX {w : World} {g : Nat} {v : Value} (h : w.cell? ⟨g, 0, none⟩ = some v) : (loadVar 4 ⟨g, 0, none⟩).run Tryz.prog w = .ok v w := by
  simp [loadVar, Sem.run_bind, Tryz.isAgg4, h, go_sem]
theorem results_row_cellX {P : Program} {fn : Func} {p q : Tmp} {ty ty1 : TypeId} (h : fn.results = #[.cell p ty, .cell q ty1]) (tmps : Array Value) (w : World) (g g1 : Nat) (t t1 : TypeId) (v0 v1 v2 : Value) (d : TypeDesc)
    (hp : tmps.getD p undef = .pointer (some ⟨g, 0, none⟩)) (hq : tmps.getD q undef = .pointer (some ⟨g1, 0, none⟩)) (hg : Box2 w g t v0 v1) (hg1 : Boxed w g1 t1 v2)
    (hu : P.underlying ty = some d) (hd : (match d with | .struct _ | .array _ _ => true | _ => false) = true) (hi : (P.info? ty).map (·.size) = some 2)
    (h1 : ∀ w' : World, w'.cell? ⟨g1, 0, none⟩ = some v2 → (loadVar ty1 ⟨g1, 0, none⟩).run P w' = .ok v2 w') :
    (results fn tmps).run P w = .ok (.tuple #[.agg #[v0, v1], v2]) w := by
  have hp' : tmps[p]?.getD undef = .pointer (some ⟨g, 0, none⟩) := by simpa using hp
  have hq' : tmps[q]?.getD undef = .pointer (some ⟨g1, 0, none⟩) := by simpa using hq
  have e1 := h1 w hg1.cell
  simp [results, h, hp', hq', asAddr, run_loadVar_row w g t ty #[v0, v1] (0, 0) d hg hu hd hi, e1, Sem.run_bind, Result.andThen]
theorem nextB_step {l : List UInt8} {k p : Nat} (h : beginsV l (p : Int) = false) : nextB l (k + 1) p = nextB l k (p + 1) := by
  conv => lhs; unfold nextB
  rw [h]; rfl
theorem nextB_here {l : List UInt8} {k p : Nat} (h : beginsV l (p : Int) = true) : nextB l (k + 1) p = p := by
  unfold nextB
  rw [if_pos h]
theorem pcs_none {its : List Kd} {s : ByteArray} {q : Nat} (hq : q ≤ s.size) (h : (searchF false its (bl s) q (s.size : Int) (run0 its.length)).fo = false) : pcs its (bl s) q = [] := by
  unfold pcs
  rw [bl_len, show s.size + 1 - q = (s.size - q) + 1 by omega]
  have k := pcs_at (its := its) (s := s) (k := s.size - q) (p := q) (σ := run0 its.length) rfl
  unfold run0 at k h
  rw [k, h]
  rfl
theorem pcs_some {its : List Kd} {s : ByteArray} {q : Nat} (hq : q ≤ s.size) (h : (searchF false its (bl s) q (s.size : Int) (run0 its.length)).fo = true) : ∃ r, pcs its (bl s) q = ((searchF false its (bl s) q (s.size : Int) (run0 its.length)).bf, (searchF false its (bl s) q (s.size : Int) (run0 its.length)).bt) :: r := by
  unfold pcs
  rw [bl_len, show s.size + 1 - q = (s.size - q) + 1 by omega]
  have k := pcs_at (its := its) (s := s) (k := s.size - q) (p := q) (σ := run0 its.length) rfl
  unfold run0 at k h ⊢
  rw [k, h]
  exact ⟨_, rfl⟩
theorem nextB_le {s : ByteArray} : ∀ (k p : Nat), p ≤ s.size → s.size + 1 - p ≤ k → nextB (bl s) k p ≤ s.size
  | 0, p, _, h => by omega
  | k + 1, p, hp, h => by
    cases hb : beginsV (bl s) (p : Int) with
    | true => rw [nextB_here hb]; exact hp
    | false =>
      rw [nextB_step hb]
      have hne : p ≠ s.size := fun e => by
        have := begins_fin (bl s)
        rw [bl_len, ← e, hb] at this
        cases this
      exact nextB_le k (p + 1) (by omega) (by omega)
set_option maxRecDepth 100000 in
set_option maxHeartbeats 4000000 in
theorem find_any (D : Nat → Prop) (its : List Kd) (txt s : ByteArray) (w : World) (pb : Nat) (h : PatL D its txt w pb) (hl : its.length ≤ 65536) (hs : s.size ≤ 1000000000) (f : Int) (hf : -9223372036854775808 ≤ f ∧ f < 9223372036854775808) :
    Calls Tryz.prog 18 #[.pointer (some ⟨pb, 0, none⟩), .string s, .int .i64 f] w fun e w' => e = .returned (.tuple #[.agg #[.int .i64 ((findV its (bl s) f).1 : Int), .int .i64 ((findV its (bl s) f).2.1 : Int)], .bool (findV its (bl s) f).2.2]) ∧ Below w.heap.size w w' := by
  obtain ⟨R, hRR⟩ : ∃ R, R = findV its (bl s) f := ⟨_, rfl⟩
  rw [← hRR]
  have HRR := hide hRR
  clear hRR
  have hB0 : Below w.heap.size w ((w.alloc (.cells #[.int .i64 0, .int .i64 0] 55)).alloc (.cells #[.bool false] 4)) := ((Below.refl _ w).alloc (Nat.le_refl _) _).alloc (by simp) _
  have b6 : Box2 ((w.alloc (.cells #[.int .i64 0, .int .i64 0] 55)).alloc (.cells #[.bool false] 4)) w.heap.size 55 (.int .i64 0) (.int .i64 0) :=
    (((Below.refl _ (w.alloc (.cells #[.int .i64 0, .int .i64 0] 55))).alloc (Nat.le_refl _) (.cells #[.bool false] 4)).block w.heap.size (by simp)).trans (heap_alloc_new w (.cells #[.int .i64 0, .int .i64 0] 55))
  have b7 := Boxed.new (w.alloc (.cells #[.int .i64 0, .int .i64 0] 55)) 4 (.bool false)
  have hP := h.below hB0
  have HDW : Hid (∀ k, D k → k < w.heap.size) := by obtain ⟨_, _, hi⟩ := h; exact hi.1
  have kn := fun (W : World) (hw : PatL D its txt W pb) => inW (m := 2) (none_made pb true W hw.made)
  have KN := hide kn
  have HP := hide hP
  have B6 := hide b6
  have B7 := hide b7
  have HB := hide hB0
  clear kn hP b6 b7 hB0 h
  refine (callsIn_wide (n := 3)).1 ?_
  refine callsIn_of_wp_marks Tryz.func18 rfl trivial ?_ rfl
  simp only [Tryz.ntmps18, List.size_toArray, List.length_cons, List.length_nil, Nat.reduceAdd, Nat.reduceSub, Array.replicate_succ, Array.replicate_zero, List.push_toArray, List.append_toArray, List.nil_append, List.cons_append]
  gi_upto_region 1 with (fail)
  obtain ⟨A6, hA6⟩ : ∃ A, A = w.heap.size := ⟨_, rfl⟩
  obtain ⟨A7, hA7⟩ : ∃ A, A = A6 + 1 := ⟨_, rfl⟩
  have e7 : (w.alloc (.cells #[.int .i64 0, .int .i64 0] 55)).heap.size = A7 := by rw [hA7, hA6]; simp
  rw [e7] at B7
  rw [← hA6] at B6 ⊢
  rw [← hA7]
  have HA6 : Hid (w.heap.size = A6) := hA6.symm
  have HA7 : Hid (A7 = A6 + 1) := hA7
  clear hA6 hA7 e7
  generalize (w.alloc (.cells #[.int .i64 0, .int .i64 0] 55)).alloc (.cells #[.bool false] 4) = V at *
  have KN1 := hide (KN.out V HP.out)
  clear KN
  by_cases hfs : (s.size : Int) < f
  · have hv : findV its (bl s) f = (0, 0, false) := by unfold findV; rw [bl_len, if_pos hfs]
    have HV := hide (HRR.out.trans hv)
    have k0 := celOf B6.out 0 _ rfl
    have k1 := B6.out.c1 (.int .i64 0)
    have g0 := frzOf B6.out 0
    have g1 := frzOf B6.out 1
    have k2 := (oth (oth B7.out (b := A6) (o := 0) (by have := HA7.out; omega) (.int .i64 0)) (b := A6) (o := 1) (by have := HA7.out; omega) (.int .i64 0)).cell
    have g2 := B7.out.frozen
    clear hv
    gi_wp2_with (refine ⟨trivial, ?_⟩; gi_at_call 19; refine (KN1.out).mono ?_; rintro e z ⟨rfl, hz⟩; obtain rfl : V = z := hz.symm; clear hz KN1)
    refine ⟨_, results_row_cellX rfl _ _ A6 A7 _ _ _ _ _ _ rfl rfl ((B6.out.set _ _).other (o := 0) (by have := HA7.out; omega) _) ((oth (o := 1) (oth (o := 0) B7.out (by have := HA7.out; omega) _) (by have := HA7.out; omega) _).set _) Tryz.underlying55 rfl (by kernel_rfl) (fun _ h => load_boolX h), ?_, ((HB.out.setCell (p := ⟨A6, 0, none⟩) (Nat.le_of_eq HA6.out) _).setCell (p := ⟨A6, 1, none⟩) (Nat.le_of_eq HA6.out) _).setCell (p := ⟨A7, 0, none⟩) (by have := HA6.out; have := HA7.out; show _ ≤ A7; omega) _⟩
    rw [HV.out]
    rfl
  · obtain ⟨q0, hq0⟩ : ∃ q, q = f.toNat := ⟨_, rfl⟩
    have hq1 : q0 ≤ s.size := by omega
    have hmx : max (0 : Int) f = (q0 : Int) := by omega
    have hv : findV its (bl s) f = if (searchF false its (bl s) (nextB (bl s) (s.size + 1 - q0) q0) (s.size : Int) (run0 its.length)).fo then ((searchF false its (bl s) (nextB (bl s) (s.size + 1 - q0) q0) (s.size : Int) (run0 its.length)).bf, (searchF false its (bl s) (nextB (bl s) (s.size + 1 - q0) q0) (s.size : Int) (run0 its.length)).bt, true) else (0, 0, false) := by
      unfold findV
      rw [bl_len, if_neg hfs, hq0]
    obtain ⟨q, hq⟩ : ∃ q, q = nextB (bl s) (s.size + 1 - q0) q0 := ⟨_, rfl⟩
    rw [← hq] at hv
    have HV := hide (HRR.out.trans hv)
    have HQ := hide hq
    clear hv hq
    gi_upto_region 4 with (refine ⟨trivial, ?_⟩; gi_at_call 19; refine (KN1.out).mono ?_; rintro e z ⟨rfl, hz⟩; obtain rfl : V = z := hz.symm; clear hz KN1)
    rw [show max f 0 = (q0 : Int) by omega]
    have hqs : q ≤ s.size := by rw [HQ.out]; exact nextB_le _ _ hq1 (Nat.le_refl _)
    have HQS := hide hqs
    clear hmx hqs hq0
    gi_loopw [2] (fun iv wr => ∃ (p k : Nat), iv = .int .i64 (p : Int) ∧ p ≤ s.size ∧ s.size + 1 - p ≤ k ∧ nextB (bl s) k p = q ∧ Below V.heap.size V wr) (fun iv _ => s.size + 1 - (intOf iv).toNat)
    case atStart => exact ⟨q0, s.size + 1 - q0, rfl, hq1, Nat.le_refl _, HQ.out.symm, Below.refl _ _⟩
    case round =>
      obtain ⟨p, k, rfl, hp, hk, hnx, hbl⟩ := hrel
      obtain ⟨k, rfl⟩ : ∃ j, k = j + 1 := ⟨k - 1, by omega⟩
      have kb := fun W => inW (m := 2) (begins_any s (p : Int) W (by omega))
      have HBL := hide hbl
      cases hb : beginsV (bl s) (p : Int) with
      | false =>
        rw [hb] at kb
        rw [nextB_step hb] at hnx
        have hne : p ≠ s.size := fun e => by
          have := begins_fin (bl s)
          rw [bl_len, ← e, hb] at this
          cases this
        have KB := hide kb
        have HNX := hide hnx
        clear kb hnx hb hbl
        gi_wp2_with (refine ⟨trivial, ?_⟩; gi_at_call 20; refine (KB.out _).mono ?_; rintro e z ⟨rfl, hz⟩; have HZ := hide (bseq HBL.out hz); clear hz)
        go_roundw
        case rel => exact ⟨p + 1, k, by go_num, by omega, by omega, HNX.out, HZ.out⟩
        case measure => simp [intOf]; omega
      | true =>
        rw [hb] at kb
        rw [nextB_here hb] at hnx
        subst hnx
        have KB := hide kb
        clear kb hb hbl
        have kp := fun W => inW (m := 2) (pieces_any pb s (p : Int) W)
        have KPP := hide kp
        clear kp
        gi_wp2_with (refine ⟨trivial, ?_⟩; first
          | (gi_at_call 20; refine (KB.out _).mono ?_; rintro e z ⟨rfl, hz⟩; have HZ := hide (bseq HBL.out hz); clear hz KB)
          | (gi_at_call 40; refine (KPP.out _).mono ?_; rintro e z2 ⟨rfl, hz2⟩; have HZ2 := hide hz2; clear hz2 KPP))
        have hzB : Below w.heap.size w z := HB.out.trans (HZ.out.mono HB.out.size)
        have hP3 : PatL D its txt z pb := HP.out.below HZ.out
        have b6 : Box2 z A6 55 (.int .i64 0) (.int .i64 0) := (HZ.out.block A6 (Array.getElem?_eq_some_iff.1 B6.out).1).trans B6.out
        have b7 : Boxed z A7 4 (.bool false) := (HZ.out.block A7 (Array.getElem?_eq_some_iff.1 B7.out).1).trans B7.out
        have hz3 : Below z.heap.size z z2 := by
          rw [HZ2.out]
          exact (((Below.refl _ z).alloc (Nat.le_refl _) _).alloc (by simp) _).alloc (by simp; omega) _
        have c0 : z2.cell? ⟨z.heap.size, 0, none⟩ = some (.pointer (some ⟨pb, 0, none⟩)) := by
          rw [HZ2.out]
          exact (((Boxed.new z 23 (.pointer (some ⟨pb, 0, none⟩))).alloc (.cells #[.string s] 9)).alloc (.cells #[.int .i64 (p : Int)] 3)).cell
        have c1 : z2.cell? ⟨z.heap.size + 1, 0, none⟩ = some (.string s) := by
          rw [HZ2.out]
          have k := ((Boxed.new (z.alloc (.cells #[.pointer (some ⟨pb, 0, none⟩)] 23)) 9 (.string s)).alloc (.cells #[.int .i64 (p : Int)] 3)).cell
          simpa using k
        have c2 : z2.cell? ⟨z.heap.size + 1 + 1, 0, none⟩ = some (.int .i64 (p : Int)) := by
          rw [HZ2.out]
          have k := (Boxed.new ((z.alloc (.cells #[.pointer (some ⟨pb, 0, none⟩)] 23)).alloc (.cells #[.string s] 9)) 3 (.int .i64 (p : Int))).cell
          simpa using k
        have hsz : z2.heap.size = z.heap.size + 3 := by rw [HZ2.out]; simp
        have hl6 : A6 < z2.heap.size := Nat.lt_of_lt_of_le (Array.getElem?_eq_some_iff.1 b6).1 (by omega)
        have hl7 : A7 < z2.heap.size := Nat.lt_of_lt_of_le (Array.getElem?_eq_some_iff.1 b7).1 (by omega)
        have hDz : ∀ k, D k → k < z.heap.size := by obtain ⟨_, _, hi⟩ := hP3; exact hi.1
        have hne : A7 ≠ A6 := by have := HA7.out; omega
        have hw6 : w.heap.size ≤ A6 := Nat.le_of_eq HA6.out
        have hw7 : w.heap.size ≤ A7 := by have := HA6.out; have := HA7.out; omega
        have hN6 : ∀ k, (D k ∨ k = z.heap.size + 1) → k < z2.heap.size := fun k h => by
          rcases h with h | h
          · have := hDz k h; omega
          · omega
        have hnA : ∀ a, w.heap.size ≤ a → a < z.heap.size → ¬ (D a ∨ a = z.heap.size + 1) := fun a h1 h2 h => by
          rcases h with h | h
          · have := HDW.out a h; omega
          · omega
        have hz6 : A6 < z.heap.size := (Array.getElem?_eq_some_iff.1 b6).1
        have hz7 : A7 < z.heap.size := (Array.getElem?_eq_some_iff.1 b7).1
        have b6' : Box2 z2 A6 55 (.int .i64 0) (.int .i64 0) := (hz3.block A6 hz6).trans b6
        have b7' : Boxed z2 A7 4 (.bool false) := (hz3.block A7 hz7).trans b7
        have hxs := pieces_x (fun _ => False) (fun k => D k ∨ k = z.heap.size + 1) D its txt z.heap.size (z.heap.size + 1) (z.heap.size + 1 + 1) pb s p z2 hs hp hl hN6 (hP3.below hz3) (.inr rfl) (fun k h => .inl h) c0 c1 c2 id id id id
        have hB2 : Below w.heap.size w z2 := hzB.trans (hz3.mono hzB.size)
        have hws : w.heap.size ≤ z.heap.size := hzB.size
        clear c0 c1 c2 hz3 b6 b7 HZ2 HB B6 B7 HP HZ HBL hP3
        apply rangeP (gf := 63) (lb := #[.pointer (some ⟨z.heap.size, 0, none⟩), .pointer (some ⟨z.heap.size + 1, 0, none⟩), .pointer (some ⟨z.heap.size + 1 + 1, 0, none⟩)]) (encs := encPc) rfl (enters_of Tryz.func63 (by kernel_rfl) rfl)
          hxs (Below.refl _ _) hN6 (fun _ => rfl)
          (fun pre W' => (Box2 W' A6 55 (.int .i64 0) (.int .i64 0) ∧ Boxed W' A7 4 (.bool false)) ∧ (pre = [] ∧ (z2.heap.size ≤ W'.heap.size ∧ Below w.heap.size w W')))
          (fun c pre W' => (c = .ret ∧ (Box2 W' A6 55 (.int .i64 (R.1 : Int)) (.int .i64 (R.2.1 : Int)) ∧ Boxed W' A7 4 (.bool R.2.2))) ∧ Below w.heap.size w W')
          (Stab.and (Stab.and (Stab.box2 _ _ _ hl6) (Stab.box _ _ hl7)) (Stab.and (Stab.pure _) (Stab.and (fun s A B h hs => Nat.le_trans h hs.1.2.2.2) (Stab.below (by omega) (Nat.le_refl _)))))
          (fun c => Stab.and (Stab.and (Stab.pure _) (Stab.and (Stab.box2 _ _ _ hl6) (Stab.box _ _ hl7))) (Stab.below (by omega) (Nat.le_refl _)))
          ⟨⟨b6', b7'⟩, rfl, Nat.le_refl _, hB2⟩ (fun x => #[.int .i64 (x.1 : Int), .int .i64 (x.2 : Int)]) 55
        case hsize => exact fun s W h => h.2.2.1
        case hassign =>
          intro l' x W' K hK
          simp only [encPc]
          gi_wp2
          exact hK _ ((Below.refl _ _).alloc (Nat.le_refl _) _) (heap_alloc_new _ _)
        case hbody =>
          rintro l' pre x Wb W' ⟨⟨h6, h7⟩, rfl, hsz', hbw⟩ hWb hpc hpx
          have hR : R = (x.1, x.2, true) := by
            rw [HV.out]
            cases hfo : (searchF false its (bl s) p (s.size : Int) (run0 its.length)).fo with
            | false =>
              rw [pcs_none hp hfo] at hpx
              have := hpx.length_le
              simp at this
            | true =>
              obtain ⟨r, hr⟩ := pcs_some (its := its) hp hfo
              rw [hr] at hpx
              have hx := List.prefix_iff_eq_take.1 hpx
              simp at hx
              rw [if_pos rfl, hx]
          have HRX := hide hR
          have p0 := celOf hpc 0 _ rfl
          have p1 := celOf hpc 1 _ rfl
          have k0 := celOf h6 0 _ rfl
          have k1 := h6.c1 (.int .i64 (x.1 : Int))
          have g0 := frzOf h6 0
          have g1 := frzOf h6 1
          have k2 := (oth (oth h7 (b := A6) (o := 0) hne (.int .i64 (x.1 : Int))) (b := A6) (o := 1) hne (.int .i64 (x.2 : Int))).cell
          have g2 := h7.frozen
          have H6 := hide h6
          have H7 := hide h7
          have HBW := hide hbw
          have HNA := hide hnA
          clear h6 h7 hbw hpc hpx hsz' hR hnA hxs
          gi_wp2
          rw [HRX.out]
          refine ⟨((Kp.set' (o := 0) _ (HNA.out A6 hw6 hz6) hl6).trans (Kp.set' (o := 1) _ (HNA.out A6 hw6 hz6) hl6)).trans (Kp.set' (o := 0) _ (HNA.out A7 hw7 hz7) hl7), ⟨rfl, (H6.out.set _ _).other (o := 0) hne.symm _, (oth (o := 1) (oth (o := 0) H7.out hne _) hne _).set _⟩, ((HBW.out.setCell (p := ⟨A6, 0, none⟩) hw6 _).setCell (p := ⟨A6, 1, none⟩) hw6 _).setCell (p := ⟨A7, 0, none⟩) hw7 _⟩
        case hdone =>
          rintro D0 W' hD0 ⟨⟨h6, h7⟩, hxe, hsz', hbw⟩ hK
          have hR : R = (0, 0, false) := by
            rw [HV.out]
            cases hfo : (searchF false its (bl s) p (s.size : Int) (run0 its.length)).fo with
            | false => rw [if_neg (by decide)]
            | true =>
              obtain ⟨r, hr⟩ := pcs_some (its := its) hp hfo
              rw [hr] at hxe
              cases hxe
          have HRX := hide hR
          have k0 := celOf h6 0 _ rfl
          have k1 := h6.c1 (.int .i64 0)
          have g0 := frzOf h6 0
          have g1 := frzOf h6 1
          have k2 := (oth (oth h7 (b := A6) (o := 0) hne (.int .i64 0)) (b := A6) (o := 1) hne (.int .i64 0)).cell
          have g2 := h7.frozen
          have H6 := hide h6
          have H7 := hide h7
          have HBW := hide hbw
          have HKK := hide hK
          clear h6 h7 hbw hxe hsz' hR hnA hxs hK
          gi_wp2
          have hK' : (((W'.setCell ⟨A6, 0, none⟩ (.int .i64 0)).setCell ⟨A6, 1, none⟩ (.int .i64 0)).setCell ⟨A7, 0, none⟩ (.bool false)).heap[D0]? = some (.deferred (some [])) := by
            rw [Below.heap_setCell _ _ _ _ (by show D0 ≠ A7; omega), Below.heap_setCell _ _ _ _ (by show D0 ≠ A6; omega), Below.heap_setCell _ _ _ _ (by show D0 ≠ A6; omega)]
            exact HKK.out
          have q1 : Box2 (((W'.setCell ⟨A6, 0, none⟩ (.int .i64 0)).setCell ⟨A6, 1, none⟩ (.int .i64 0)).setCell ⟨A7, 0, none⟩ (.bool false)) A6 55 (.int .i64 0) (.int .i64 0) := (H6.out.set _ _).other (o := 0) hne.symm _
          have q2 : Boxed (((W'.setCell ⟨A6, 0, none⟩ (.int .i64 0)).setCell ⟨A6, 1, none⟩ (.int .i64 0)).setCell ⟨A7, 0, none⟩ (.bool false)) A7 4 (.bool false) := (oth (o := 1) (oth (o := 0) H7.out hne _) hne _).set _
          have qB : Below w.heap.size w (((W'.setCell ⟨A6, 0, none⟩ (.int .i64 0)).setCell ⟨A6, 1, none⟩ (.int .i64 0)).setCell ⟨A7, 0, none⟩ (.bool false)) := ((HBW.out.setCell (p := ⟨A6, 0, none⟩) hw6 _).setCell (p := ⟨A6, 1, none⟩) hw6 _).setCell (p := ⟨A7, 0, none⟩) hw7 _
          refine ⟨by simp, .inl ⟨_, _, rfl, run_takeDeferred hK', ?_⟩⟩
          refine ⟨_, results_row_cellX rfl _ _ A6 A7 _ _ _ _ _ _ rfl rfl (put_kept _ hK' q1 (by omega)) (put_kept _ hK' q2 (by omega)) Tryz.underlying55 rfl (by kernel_rfl) (fun _ h => load_boolX h), ?_, qB.trans (belowK_b (w := w) (Nat.le_refl _) _ D0 _ _ (by omega) hK' rfl rfl)⟩
          rw [HRX.out]
          rfl
        case hstop =>
          rintro D0 c pre W' hD0 _ ⟨⟨rfl, h6, h7⟩, hbw⟩ hK
          have H6 := hide h6
          have H7 := hide h7
          have HBW := hide hbw
          clear h6 h7 hbw hnA hxs
          gi_wp2
          refine ⟨by simp, .inl ⟨_, _, rfl, run_takeDeferred hK, ?_⟩⟩
          refine ⟨_, results_row_cellX rfl _ _ A6 A7 _ _ _ _ _ _ rfl rfl (put_kept _ hK H6.out (by omega)) (put_kept _ hK H7.out (by omega)) Tryz.underlying55 rfl (by kernel_rfl) (fun _ h => load_boolX h), rfl, HBW.out.trans (belowK_b (w := w) (Nat.le_refl _) _ D0 _ _ (by omega) hK rfl rfl)⟩
end Go.Proofs.YtffolokaijdbfaaGreatDoor
namespace Go.Proofs.YtffolokaijdbfaaGreatDoor
open Go.RowKit Go.Shelf
set_option linter.unusedVariables false
set_option linter.unusedSimpArgs false

theorem works_m : matchV itsW (bl ⟨#[120, 97, 98, 46, 99]⟩) 1 = (4, true) := by decide +kernel
theorem works_f : findV itsW (bl ⟨#[255, 97, 98, 46, 99]⟩) 0 = (1, 4, true) := by decide +kernel
theorem works_n : findV itsW (bl ⟨#[97, 98]⟩) 0 = (0, 0, false) := by decide +kernel
theorem Tryz.noHeldPc : Tryz.prog.stoodInHeld 55 = false := by kernel_rfl
theorem Tryz.fieldsPc : Tryz.prog.underlying 55 = some (.struct (Tryz.prog.fieldsOf 55)) := by kernel_rfl
theorem piece_eq (w : World) : (Op.equalIn 10000 55 (.agg #[.int .i64 1, .int .i64 4]) (.agg #[.int .i64 1, .int .i64 4])).run Tryz.prog w = .ok true w := by
  rw [run_equalIn_agg w 9999 55 _ _ Tryz.fieldsPc Tryz.noHeldPc]
  have u3 := Tryz.underlying3
  have a3 := Tryz.isAgg3
  unfold Program.fieldsOf
  rw [Tryz.underlying55]
  simp [Op.eqFields, part, u3, a3, go_sem]
theorem Tryz.noGuardPc : Tryz.prog.eqGuardType Tryz.prog.depth 55 = false := by kernel_rfl
set_option maxRecDepth 100000 in
set_option maxHeartbeats 4000000 in
theorem xworks_any (w : World) : Calls Tryz.prog 7 #[] w fun e w' => e = .returned (.bool true) ∧ Below w.heap.size w w' := by
  have kc := xcompile_works w
  have km := fun W D pb (h : PatL D itsW sW W pb) => match_any D itsW sW ⟨#[120, 97, 98, 46, 99]⟩ W pb h (by decide) (by decide) 1 (by decide)
  have k1 := fun W D pb (h : PatL D itsW sW W pb) => find_any D itsW sW ⟨#[255, 97, 98, 46, 99]⟩ W pb h (by decide) (by decide) 0 (by decide)
  have k2 := fun W D pb (h : PatL D itsW sW W pb) => find_any D itsW sW ⟨#[97, 98]⟩ W pb h (by decide) (by decide) 0 (by decide)
  rw [works_m] at km
  rw [works_f] at k1
  rw [works_n] at k2
  simp only at km k1 k2
  have pe := fun W => piece_eq W
  have pg := Tryz.noGuardPc
  have KC := hide kc
  have KM := hide km
  have K1 := hide k1
  have K2 := hide k2
  clear kc km k1 k2
  go_enter Tryz.func7, Tryz.ntmps7
  go_wp2_with (first
    | (go_at_call 5; refine Calls.mono (KC.out) ?_; rintro e x1 ⟨pb, D, rfl, hp, hb⟩; have HP := hide hp; have HB := hide hb; clear hp hb KC)
    | (go_at_call 10; refine (KM.out _ _ _ HP.out).mono ?_; rintro e x2 ⟨rfl, hb⟩; replace HP := hide (HP.out.below hb); replace HB := hide (bseq HB.out hb); clear hb KM)
    | (go_at_call 18; refine (K1.out _ _ _ HP.out).mono ?_; rintro e x3 ⟨rfl, hb⟩; have h8 := heap_alloc_new x3 (.cells #[.int .i64 1, .int .i64 4] 55); have H8 := hide h8; have hb8 : Below x3.heap.size x3 (x3.alloc (.cells #[.int .i64 1, .int .i64 4] 55)) := (Below.refl _ _).alloc (Nat.le_refl _) _; replace HP := hide (HP.out.below (bseq hb hb8)); replace HB := hide (bseq HB.out (bseq hb hb8)); clear hb hb8 h8 K1)
    | (go_at_call 18; refine (K2.out _ _ _ HP.out).mono ?_; rintro e x4 ⟨rfl, hb⟩; have hq := (hb.block _ (Array.getElem?_eq_some_iff.1 H8.out).1).trans H8.out; have q0 := cel2 hq 0 _ rfl; have q1 := cel2 hq 1 _ rfl; have qs := (Array.getElem?_eq_some_iff.1 hq).1; replace HB := hide (bseq HB.out hb); clear hb hq K2))
  go_ret
  exact ⟨rfl, HB.out.alloc HB.out.size _⟩
end Go.Proofs.YtffolokaijdbfaaGreatDoor
namespace Go.Proofs.YtffolokaijdbfaaGreatDoor
open Go.RowKit Go.Shelf
set_option linter.unusedVariables false
set_option linter.unusedSimpArgs false

/-- How a pattern's beginning is read: whether it is folded, and from where on. -/
def Fd (s : ByteArray) (f : Bool) (p0 : Nat) : Prop := if Lib.hasPrefix s.data.toList (⟨#[92, 105]⟩ : ByteArray).data.toList = true then f = true ∧ p0 = 2 ∧ 2 ≤ s.size else f = false ∧ p0 = 0
set_option maxRecDepth 100000 in
set_option maxHeartbeats 4000000 in
theorem xcompile_long (s : ByteArray) (w : World) (hs : 256 < s.size) (hs2 : s.size ≤ 140737488355328) :
    Calls Tryz.prog 5 #[.string s] w fun e w' => ∃ k, e = .returned (.tuple #[.pointer none, .iface 44 (.pointer (some ⟨k, 0, none⟩))]) ∧ w'.heap[k]? = some (.cells #[.int .i64 4, .int .i64 0] 46 (0, 0)) ∧ Below w.heap.size w w' := by
  have hsI : 256 < (s.size : Int) := by omega
  have hsJ : (s.size : Int) ≤ 140737488355328 := by omega
  go_enter Tryz.func5, Tryz.ntmps5
  go_wp2_with (fail)
  go_ret2
  exact ⟨w.heap.size, rfl, heap_alloc_new w _, (Below.refl _ _).alloc (Nat.le_refl _) _⟩
set_option maxRecDepth 100000 in
set_option maxHeartbeats 4000000 in
theorem xcompile_no (s : ByteArray) (w : World) (hs : s.size ≤ 256) (f : Bool) (p0 : Nat) (hf : Fd s f p0) (q : Nat) (hR : Rd s f p0 none q) :
    Calls Tryz.prog 5 #[.string s] w fun e w' => ∃ k, e = .returned (.tuple #[.pointer none, .iface 44 (.pointer (some ⟨k, 0, none⟩))]) ∧ w'.heap[k]? = some (.cells #[.int .i64 60, .int .i64 (q : Int)] 46 (0, 0)) ∧ Below w.heap.size w w' := by
  have hB : Below w.heap.size w (w.alloc (.cells #[.string s, .int .i64 0, .bool false, .slice none 0 0] 49)) := (Below.refl _ w).alloc (Nat.le_refl _) _
  have hr : Rx (w.alloc (.cells #[.string s, .int .i64 0, .bool false, .slice none 0 0] 49)) w.heap.size s 0 false (.slice none 0 0) := heap_alloc_new w _
  have kr := xread_any w.heap.size s _ hr (by omega) f p0 hf none q hR
  have KR := hide kr
  have HB := hide hB
  have hsI : (s.size : Int) ≤ 256 := by omega
  clear hr kr hB hR hf
  go_enter Tryz.func5, Tryz.ntmps5
  go_upto_region 4 with (fail)
  generalize w.alloc (.cells #[.string s, .int .i64 0, .bool false, .slice none 0 0] 49) = X at *
  go_upto_region 5 with (go_at_call 15; refine (KR.out).mono ?_; rintro e x ⟨rfl, v, hR, hG, _⟩; have HR := hide hR; have HG := hide hG; clear hR hG KR)
  have c1 := HR.out.at
  have hbx : Below w.heap.size w x := HB.out.trans ⟨HG.out.1, HG.out.2.1, HG.out.2.2.1, HG.out.2.2.2.1, fun k hk => HG.out.2.2.2.2 k (Nat.lt_of_lt_of_le hk HB.out.size) (Nat.ne_of_lt hk)⟩
  have HBX := hide hbx
  clear hbx HB HG HR
  go_region
  go_wp2_with (fail)
  go_ret2
  exact ⟨_, rfl, heap_alloc_new _ _, (HBX.out.trans (below_dwX _ x _)).alloc HBX.out.size _⟩
set_option maxRecDepth 100000 in
set_option maxHeartbeats 4000000 in
theorem xcompile_yes (s : ByteArray) (w : World) (hs : s.size ≤ 256) (f : Bool) (p0 : Nat) (hf : Fd s f p0) (its : List Kd) (q : Nat) (hR : Rd s f p0 (some its) q) :
    Calls Tryz.prog 5 #[.string s] w fun e w' => ∃ pb D, e = .returned (.tuple #[.pointer (some ⟨pb, 0, none⟩), .nilIface]) ∧ PatL D its s w' pb ∧ its.length ≤ 512 ∧ Below w.heap.size w w' := by
  have hB : Below w.heap.size w (w.alloc (.cells #[.string s, .int .i64 0, .bool false, .slice none 0 0] 49)) := (Below.refl _ w).alloc (Nat.le_refl _) _
  have hr : Rx (w.alloc (.cells #[.string s, .int .i64 0, .bool false, .slice none 0 0] 49)) w.heap.size s 0 false (.slice none 0 0) := heap_alloc_new w _
  have kr := xread_any w.heap.size s _ hr (by omega) f p0 hf (some its) q hR
  have KR := hide kr
  have HB := hide hB
  have hsI : (s.size : Int) ≤ 256 := by omega
  clear hr kr hB hR hf
  go_enter Tryz.func5, Tryz.ntmps5
  go_upto_region 4 with (fail)
  generalize w.alloc (.cells #[.string s, .int .i64 0, .bool false, .slice none 0 0] 49) = X at *
  go_wp2_with (go_at_call 15; refine (KR.out).mono ?_; rintro e x ⟨rfl, v, hR, hG, hI⟩; have HR := hide hR; have HLN := hide (hI its rfl).1; have HI := hide (hI its rfl).2; have HG := hide hG; clear hR hI hG KR)
  obtain ⟨va, vq, rfl⟩ := HI.out.shape
  have c3 := HR.out.items
  have mk : ∀ W : World, Below x.heap.size x W → (Below x.heap.size x W ∧ W.cell? ⟨w.heap.size, 3, none⟩ = some (.slice va its.length vq)) := fun W hW => ⟨hW, (HR.out.below hW).items⟩
  have MK := hide mk
  have kc := fun W => clone_any s W (by omega)
  have KC := hide kc
  clear mk kc c3
  refine wp_region_held_drew (S := fun W => Below x.heap.size x W ∧ W.cell? ⟨w.heap.size, 3, none⟩ = some (.slice va its.length vq)) (by kernel_rfl) (MK.out _ (Below.refl _ x).drew) (fun hS => ?_)
  refine wpAnyH_take (i := 0) (v := (.string s)) rfl (by kernel_rfl) (by kernel_rfl) (by kernel_rfl) (fun _ _ _ h => h) (Or.inl ⟨by kernel_rfl, fun w' hw => by (obtain ⟨_, z0⟩ := hw; go_simp)⟩) hS ?_
  refine wpAnyH_take (i := 2) (v := (.pointer (some ⟨w.heap.size, 3, none⟩))) rfl (by kernel_rfl) (by kernel_rfl) (by kernel_rfl) (fun _ _ _ h => h) (Or.inl ⟨by kernel_rfl, fun w' hw => by (obtain ⟨_, z0⟩ := hw; go_simp)⟩) hS ?_
  refine wpAnyH_take (i := 3) (v := (.slice va its.length vq)) rfl (by kernel_rfl) (by kernel_rfl) (by kernel_rfl) (fun _ _ _ h => h) (Or.inl ⟨by kernel_rfl, fun w' hw => by (obtain ⟨_, z0⟩ := hw; go_simp)⟩) hS ?_
  refine wpAnyH_ready (rs := [1]) (by kernel_rfl) (by simp) ?_
  refine AllReadyH.cons rfl (fun K hK => ?_) AllReadyH.nil
  rw [if_pos (by kernel_rfl)]
  go_simp
  go_wp2_with (go_at_call 16; refine (KC.out _).mono ?_; rintro e z ⟨rfl, hbz⟩; have HZ := hide (bseq (Below.refl _ x).drew hbz : Below x.heap.size x z); clear hbz)
  refine hK.out _ _ (MK.out _ HZ.out) (fun hS2 => ?_)
  clear hK K
  refine wpAnyH_take (i := 4) (v := (.agg #[.string s, .slice va its.length vq, .bool true])) rfl (by kernel_rfl) (by kernel_rfl) (by kernel_rfl) (fun _ _ _ h => h) (Or.inl ⟨by kernel_rfl, fun w' hw => by (obtain ⟨_, z0⟩ := hw; go_simp)⟩) hS2 ?_
  refine wpAnyH_ready (rs := [5]) (by kernel_rfl) (by simp) ?_
  refine AllReadyH.cons rfl (fun K hK => ?_) AllReadyH.nil
  rw [if_pos (by kernel_rfl)]
  go_simp
  refine hK.out _ _ (MK.out _ (HZ.out.alloc HZ.out.size _)) (fun hS3 => ?_)
  clear hK K
  refine wpAnyH_take (i := 6) (v := (.pointer (some ⟨z.heap.size, 0, none⟩))) rfl (by kernel_rfl) (by kernel_rfl) (by kernel_rfl) (fun _ _ _ h => h) (Or.inl ⟨by kernel_rfl, fun w' hw => by (obtain ⟨_, z0⟩ := hw; go_simp)⟩) hS3 ?_
  refine wpAnyH_take (i := 7) (v := .nilIface) rfl (by kernel_rfl) (by kernel_rfl) (by kernel_rfl) (fun _ _ _ h => h) (Or.inl ⟨by kernel_rfl, fun w' hw => by (obtain ⟨_, z0⟩ := hw; go_simp)⟩) hS3 ?_
  refine wpAnyH_done (by kernel_rfl) ?_ _
  simp only [Act.put, List.getElem_toArray, List.getElem_cons_zero, List.getElem_cons_succ, List.setIfInBounds_toArray, List.set_cons_zero, List.set_cons_succ]
  go_wp2_with (fail)
  go_ret2
  have hbx : Below w.heap.size w x := HB.out.trans ⟨HG.out.1, HG.out.2.1, HG.out.2.2.1, HG.out.2.2.2.1, fun k hk => HG.out.2.2.2.2 k (Nat.lt_of_lt_of_le hk HB.out.size) (Nat.ne_of_lt hk)⟩
  have hza : Below x.heap.size x (z.alloc (.cells #[.string s, .slice va its.length vq, .bool true] 51)) := HZ.out.alloc HZ.out.size _
  exact ⟨z.heap.size, _, rfl, ⟨_, heap_alloc_new z _, HI.out.keep (.of_below hza HI.out.1)⟩, by have := HLN.out; omega, hbx.trans (hza.mono hbx.size)⟩
end Go.Proofs.YtffolokaijdbfaaGreatDoor
