/- GapGoes: a gap is a text. -/
import Derived.Test.YtheefdplbmneeaaGpY
import Derived.Test.YtheefdplbmneeaaGpX
import Derived.Test.YtheefdplbmneeaaGpO
namespace Go.Proofs.Ytheefdplbmneeaa
open Go.RowKit
set_option linter.unusedVariables false
set_option linter.unusedSimpArgs false

/-- A step as a block of its own. -/
def StX (W : World) (X : Nat) (d f t : Int) (x : ByteArray) : Prop := W.heap[X]? = some (.cells #[.int .i64 d, .int .i64 f, .int .i64 t, .string x] 25 (0, 0))
section
variable {W W' : World} {X : Nat} {d f t : Int} {x : ByteArray}
theorem StX.c (h : StX W X d f t x) : W.cell? ⟨X, 0, none⟩ = some (.int .i64 d) ∧ W.cell? ⟨X, 1, none⟩ = some (.int .i64 f) ∧ W.cell? ⟨X, 2, none⟩ = some (.int .i64 t) ∧ W.cell? ⟨X, 3, none⟩ = some (.string x) := by
  refine ⟨?_, ?_, ?_, ?_⟩ <;> simp [World.cell?, show W.heap[X]? = _ from h]
theorem StX.below (h : StX W X d f t x) (hb : Below W.heap.size W W') : StX W' X d f t x := (hb.block X (heap_ltK h)).trans h
theorem StX.keep {Y : Nat → Prop} (h : StX W X d f t x) (hb : Ke Y W W') (hx : ¬ Y X) : StX W' X d f t x := hb.keep h hx
end
theorem cut_head (T : ByteArray) (b : Nat) (hb : b ≤ T.size) (W : World) : (Instr.slice 9 (.string T) none (some (.int .i64 (b : Int))) none).run Try.prog W = .ok (.string (T.extract 0 b)) W := by
  have h1 : (0 : Int) ≤ (b : Int) ∧ (b : Int) ≤ (T.size : Int) := by omega
  simp [Instr.slice, Sem.run_bind, run_underlying Try.underlying9, Instr.sliceBounds, Instr.sliceBound, asIntOf, h1, hb]
theorem cut_tail (T : ByteArray) (a : Nat) (ha : a ≤ T.size) (W : World) : (Instr.slice 9 (.string T) (some (.int .i64 (a : Int))) none none).run Try.prog W = .ok (.string (T.extract a T.size)) W := by
  have h1 : (0 : Int) ≤ (a : Int) ∧ (a : Int) ≤ (T.size : Int) := by omega
  simp [Instr.slice, Sem.run_bind, run_underlying Try.underlying9, Instr.sliceBounds, Instr.sliceBound, asIntOf, h1, ha]
set_option maxRecDepth 100000 in
set_option maxHeartbeats 8000000 in
theorem goes_walk (s : ByteArray) (a : Option Addr) (cap : Nat) (xs : List GSt) (w : World) (hs : s.size ≤ 9223372036854775807) (hx : GStR w a xs) (hn : xs.length ≤ 3518437208780) : Calls Try.prog 5 #[.string s, .slice a xs.length cap] w fun e w' => e = .returned (.bool true) ∧ Below w.heap.size w w' := by
  go_enter Try.func5, Try.ntmps5
  go_upto_region 1 with (fail)
  rename_i Q' K1 hK1 K2 hK2
  have key : ∀ (T0 : ByteArray) (u13 u14 u15 u16 u17 : Value), T0.size ≤ 252 → K1 { tmps := #[.string T0, .slice a xs.length cap, undef, undef, .bool false, undef, undef, undef, undef, undef, undef, undef, undef, u13, u14, u15, u16, u17, undef, undef, undef, undef, undef, undef, undef, undef, undef, undef, undef, undef, undef, undef, undef, undef, undef, undef, undef, undef, undef, undef, undef, undef, undef, undef, undef, undef, undef, undef, undef, undef, undef, undef, undef, undef, undef, undef, undef, undef, undef, undef, undef, undef, undef, undef, undef, undef, undef, undef, undef, undef, undef, undef, undef, undef, undef, undef, undef, undef, undef, undef, undef, undef, undef, undef, undef, undef, undef, undef, undef, undef, undef, undef, undef, undef, undef, undef, undef, undef, undef, undef, undef, undef, undef, undef, undef, undef, undef, undef, undef, undef, undef, undef, undef, undef, undef, undef, undef, undef, undef, undef, undef, undef, undef, undef, undef, undef, undef, undef, undef, undef, undef, undef, undef, undef, undef, undef, undef, undef, undef, undef, undef, undef, undef, undef, undef, undef, undef, undef, undef, undef, undef, undef, undef, undef, undef, undef, undef, undef, undef, undef, undef, undef, undef, undef, undef, undef, undef, undef, undef, undef, undef, undef, undef], defers := [] } w := by
    intro T0 u13 u14 u15 u16 u17 hT0
    have KM := hide (make_yes (w := w) T0 hT0)
    have HX := hide hx
    have HT0 := hide hT0
    have hnI : (xs.length : Int) ≤ 3518437208780 := by omega
    clear hx hs hK2 hT0 hn
    refine hK1 _ _ ?_
    clear hK1
    go_wp2_with (go_at_call 11; refine (KM.out).mono ?_; rintro e W1 ⟨g, rfl, hg1, hn1, hb1⟩; have G1 := hide hg1; have N1 := hide hn1; have B1 := hide hb1; clear hg1 hn1 hb1 KM)
    go_loopw [0, 7] (fun sv iv wr => ∃ (k p : Nat) (T : ByteArray), k ≤ xs.length ∧ k ≤ 2000 ∧ sv = .string T ∧ iv = .int .i64 (k : Int) ∧ GapL wr g T p ∧ Below w.heap.size w wr) (fun _ iv _ => (2000 - intOf iv).toNat)
    case atStart => exact ⟨0, _, T0, Nat.zero_le _, Nat.zero_le _, rfl, rfl, G1.out, B1.out⟩
    case round =>
      obtain ⟨k, p, T, hk1, hk2, rfl, rfl, hh, hb⟩ := hrel
      have H2 := hide hh
      have B2 := hide hb
      clear hh hb
      by_cases hlt : k < xs.length ∧ k < 2000
      · obtain ⟨hl1, hl2⟩ := hlt
        obtain ⟨y, hy⟩ : ∃ y, xs[k]? = some y := ⟨_, List.getElem?_eq_getElem hl1⟩
        obtain ⟨b, off, rfl, hbl, hc⟩ := HX.out.1.at hy
        have hok := HX.out.2 y (List.mem_of_getElem? hy)
        have q0 := (B2.out.cell hbl).trans (hc 0 _ rfl)
        have q1 := (B2.out.cell hbl).trans (hc 1 _ rfl)
        have q2 := (B2.out.cell hbl).trans (hc 2 _ rfl)
        have q3 := (B2.out.cell hbl).trans (hc 3 _ rfl)
        obtain ⟨d, f, t, x⟩ := y
        obtain ⟨⟨hf1, hf2⟩, ⟨ht1, ht2⟩, hxs⟩ := hok
        simp only at hf1 hf2 ht1 ht2 hxs q0 q1 q2 q3
        rw [Nat.add_zero] at q0
        have hkI : (k : Int) < (xs.length : Int) := by omega
        have hkI2 : (k : Int) < 2000 := by omega
        have hxsI : (x.size : Int) ≤ 140737488351232 := by omega
        have X3 : Hid (StX (wr.alloc (.cells #[.int .i64 d, .int .i64 f, .int .i64 t, .string x] 25)) wr.heap.size d f t x) := heap_alloc_new wr (.cells #[.int .i64 d, .int .i64 f, .int .i64 t, .string x] 25)
        have hA := (Below.refl wr.heap.size wr).alloc (Nat.le_refl _) (.cells #[.int .i64 d, .int .i64 f, .int .i64 t, .string x] 25)
        have G3 := hide (H2.out.below hA)
        have B3 := hide (bseq B2.out hA)
        have NX : Hid (¬ wr.heap.size = g) := by have := H2.out.lt; show ¬ _; omega
        have NG : Hid (w.heap.size ≤ g) := N1.out
        have HL : Hid (T.size ≤ 252) := H2.out.2.1
        obtain ⟨n, hne⟩ : ∃ n, n = T.size := ⟨_, rfl⟩
        have HN := hide hne.symm
        have hnl : n ≤ 252 := by rw [hne]; exact HL.out
        clear hne hy hc hA
        go_upto_region 10 with (fail)
        clear q0 q1 q2 q3
        generalize wr.alloc (.cells #[.int .i64 d, .int .i64 f, .int .i64 t, .string x] 25) = W3 at *
        generalize wr.heap.size = X at *
        obtain ⟨c0, c1, c2, c3⟩ := X3.out.c
        have hTn : (T.size : Int) = (n : Int) := by have := HN.out; omega
        have hnI2 : (n : Int) ≤ 252 := by omega
        by_cases hd1 : d = 1
        · subst hd1
          by_cases hf0 : f < 0
          · have hf0I : ¬ (0 ≤ f) := by omega
            have hNe := HN.out
            have hi : inV T.size f f = false := by rw [Bool.eq_false_iff]; intro h; have := (in_iff _ _ _).1 h; omega
            have HI := hide hi
            clear hi
            clear hNe hf0
            have KS := hide (move_no G3.out f HI.out)
            have ES : Hid (((T.size : Nat) : Int) = (n : Int)) := show ((T.size : Nat) : Int) = (n : Int) by rw [HN.out]
            have ER : Hid (((252 - T.size : Nat) : Int) = (252 : Int) - (n : Int)) := by show _ = _; have := HN.out; have := HL.out; omega
            go_wp2_with (first
              | (go_at_call 15; refine (at_any G3.out).mono ?_; rintro e W4 ⟨rfl, rfl⟩)
              | (go_at_call 16; refine (KS.out).mono ?_; rintro e W5 ⟨rfl, hb5⟩; have GS := hide (G3.out.below hb5); have BS := hide (bseq B3.out hb5); obtain ⟨c0, c1, c2, c3⟩ := (X3.out.below hb5).c; clear hb5 KS)
              | (go_at_call 19; refine (text_b GS.out).mono ?_; rintro e WA ⟨rfl, hbA⟩; have GA := hide (GS.out.below hbA); have BA := hide (bseq BS.out hbA); clear hbA; have KA := hide (at_any GA.out))
              | (go_at_call 15; refine (KA.out).mono ?_; rintro e WB ⟨rfl, rfl⟩; clear KA; have KL1 := hide (len_b GA.out); rw [ES.out] at KL1)
              | (go_at_call 20; refine (KL1.out).mono ?_; rintro e WC ⟨rfl, hbC⟩; have GC := hide (GA.out.below hbC); have BC := hide (bseq BA.out hbC); clear hbC KL1; have KR1 := hide (room_b GC.out); rw [ER.out] at KR1)
              | (go_at_call 21; refine (KR1.out).mono ?_; rintro e WD ⟨rfl, hbD⟩; have GD := hide (GC.out.below hbD); have BD := hide (bseq BC.out hbD); clear hbD KR1; have KL2 := hide (len_b GD.out); rw [ES.out] at KL2)
              | (go_at_call 20; refine (KL2.out).mono ?_; rintro e WE ⟨rfl, hbE⟩; have GE := hide (GD.out.below hbE); have BE := hide (bseq BD.out hbE); clear hbE KL2; have KC1 := hide (clean_any GE.out))
              | (go_at_call 22; refine (KC1.out).mono ?_; rintro e WF ⟨rfl, hbF⟩; have GF := hide (GE.out.below hbF); have BF := hide (bseq BE.out hbF); clear hbF KC1))
            go_roundw
            case rel => exact ⟨k + 1, _, _, by omega, by omega, rfl, by go_num, GF.out, BF.out⟩
            case measure => simp [intOf]; omega
          · have hf0I : 0 ≤ f := by omega
            by_cases hf1 : (n : Int) < f
            · have hf1I : ¬ (f ≤ (n : Int)) := by omega
              have hNe := HN.out
              have hi : inV T.size f f = false := by rw [Bool.eq_false_iff]; intro h; have := (in_iff _ _ _).1 h; omega
              have HI := hide hi
              clear hi
              clear hNe hf0
              have KS := hide (move_no G3.out f HI.out)
              have ES : Hid (((T.size : Nat) : Int) = (n : Int)) := show ((T.size : Nat) : Int) = (n : Int) by rw [HN.out]
              have ER : Hid (((252 - T.size : Nat) : Int) = (252 : Int) - (n : Int)) := by show _ = _; have := HN.out; have := HL.out; omega
              go_wp2_with (first
                | (go_at_call 15; refine (at_any G3.out).mono ?_; rintro e W4 ⟨rfl, rfl⟩)
                | (go_at_call 16; refine (KS.out).mono ?_; rintro e W5 ⟨rfl, hb5⟩; have GS := hide (G3.out.below hb5); have BS := hide (bseq B3.out hb5); obtain ⟨c0, c1, c2, c3⟩ := (X3.out.below hb5).c; clear hb5 KS)
                | (go_at_call 19; refine (text_b GS.out).mono ?_; rintro e WA ⟨rfl, hbA⟩; have GA := hide (GS.out.below hbA); have BA := hide (bseq BS.out hbA); clear hbA; have KA := hide (at_any GA.out))
                | (go_at_call 15; refine (KA.out).mono ?_; rintro e WB ⟨rfl, rfl⟩; clear KA; have KL1 := hide (len_b GA.out); rw [ES.out] at KL1)
                | (go_at_call 20; refine (KL1.out).mono ?_; rintro e WC ⟨rfl, hbC⟩; have GC := hide (GA.out.below hbC); have BC := hide (bseq BA.out hbC); clear hbC KL1; have KR1 := hide (room_b GC.out); rw [ER.out] at KR1)
                | (go_at_call 21; refine (KR1.out).mono ?_; rintro e WD ⟨rfl, hbD⟩; have GD := hide (GC.out.below hbD); have BD := hide (bseq BC.out hbD); clear hbD KR1; have KL2 := hide (len_b GD.out); rw [ES.out] at KL2)
                | (go_at_call 20; refine (KL2.out).mono ?_; rintro e WE ⟨rfl, hbE⟩; have GE := hide (GD.out.below hbE); have BE := hide (bseq BD.out hbE); clear hbE KL2; have KC1 := hide (clean_any GE.out))
                | (go_at_call 22; refine (KC1.out).mono ?_; rintro e WF ⟨rfl, hbF⟩; have GF := hide (GE.out.below hbF); have BF := hide (bseq BE.out hbF); clear hbF KC1))
              go_roundw
              case rel => exact ⟨k + 1, _, _, by omega, by omega, rfl, by go_num, GF.out, BF.out⟩
              case measure => simp [intOf]; omega
            · have hf1I : f ≤ (n : Int) := by omega
              obtain ⟨q, rfl⟩ : ∃ q : Nat, f = (q : Int) := ⟨f.toNat, by omega⟩
              have HQ : Hid (q ≤ T.size) := show q ≤ T.size by have := HN.out; omega
              have KS := hide (move_yes G3.out q HQ.out)
              have ES : Hid (((T.size : Nat) : Int) = (n : Int)) := show ((T.size : Nat) : Int) = (n : Int) by rw [HN.out]
              have ER : Hid (((252 - T.size : Nat) : Int) = (252 : Int) - (n : Int)) := by show _ = _; have := HN.out; have := HL.out; omega
              go_wp2_with (first
                | (go_at_call 15; refine (at_any G3.out).mono ?_; rintro e W4 ⟨rfl, rfl⟩)
                | (go_at_call 16; refine (KS.out).mono ?_; rintro e W5 ⟨rfl, hg5, hk5⟩; have GS := hide hg5; have BS := hide (in_bel B3.out hk5 NG.out); obtain ⟨c0, c1, c2, c3⟩ := (X3.out.keep hk5 NX.out).c; clear hg5 hk5 KS)
                | (go_at_call 19; refine (text_b GS.out).mono ?_; rintro e WA ⟨rfl, hbA⟩; have GA := hide (GS.out.below hbA); have BA := hide (bseq BS.out hbA); clear hbA; have KA := hide (at_any GA.out))
                | (go_at_call 15; refine (KA.out).mono ?_; rintro e WB ⟨rfl, rfl⟩; clear KA; have KL1 := hide (len_b GA.out); rw [ES.out] at KL1)
                | (go_at_call 20; refine (KL1.out).mono ?_; rintro e WC ⟨rfl, hbC⟩; have GC := hide (GA.out.below hbC); have BC := hide (bseq BA.out hbC); clear hbC KL1; have KR1 := hide (room_b GC.out); rw [ER.out] at KR1)
                | (go_at_call 21; refine (KR1.out).mono ?_; rintro e WD ⟨rfl, hbD⟩; have GD := hide (GC.out.below hbD); have BD := hide (bseq BC.out hbD); clear hbD KR1; have KL2 := hide (len_b GD.out); rw [ES.out] at KL2)
                | (go_at_call 20; refine (KL2.out).mono ?_; rintro e WE ⟨rfl, hbE⟩; have GE := hide (GD.out.below hbE); have BE := hide (bseq BD.out hbE); clear hbE KL2; have KC1 := hide (clean_any GE.out))
                | (go_at_call 22; refine (KC1.out).mono ?_; rintro e WF ⟨rfl, hbF⟩; have GF := hide (GE.out.below hbF); have BF := hide (bseq BE.out hbF); clear hbF KC1))
              go_roundw
              case rel => exact ⟨k + 1, _, _, by omega, by omega, rfl, by go_num, GF.out, BF.out⟩
              case measure => simp [intOf]; omega
        · by_cases hd2 : d = 2
          · subst hd2
            by_cases hf0 : f < 0
            · have hf0I : ¬ (0 ≤ f) := by omega
              have hNe := HN.out
              have hi : inV T.size f f = false := by rw [Bool.eq_false_iff]; intro h; have := (in_iff _ _ _).1 h; omega
              have HI := hide hi
              clear hi
              clear hNe hf0
              have KS := hide (insert_no G3.out f x HI.out)
              have ES : Hid (((T.size : Nat) : Int) = (n : Int)) := show ((T.size : Nat) : Int) = (n : Int) by rw [HN.out]
              have ER : Hid (((252 - T.size : Nat) : Int) = (252 : Int) - (n : Int)) := by show _ = _; have := HN.out; have := HL.out; omega
              go_wp2_with (first
                | (go_at_call 15; refine (at_any G3.out).mono ?_; rintro e W4 ⟨rfl, rfl⟩)
                | (go_at_call 17; refine (KS.out).mono ?_; rintro e W5 ⟨rfl, hb5⟩; have GS := hide (G3.out.below hb5); have BS := hide (bseq B3.out hb5); obtain ⟨c0, c1, c2, c3⟩ := (X3.out.below hb5).c; clear hb5 KS)
                | (go_at_call 19; refine (text_b GS.out).mono ?_; rintro e WA ⟨rfl, hbA⟩; have GA := hide (GS.out.below hbA); have BA := hide (bseq BS.out hbA); clear hbA; have KA := hide (at_any GA.out))
                | (go_at_call 15; refine (KA.out).mono ?_; rintro e WB ⟨rfl, rfl⟩; clear KA; have KL1 := hide (len_b GA.out); rw [ES.out] at KL1)
                | (go_at_call 20; refine (KL1.out).mono ?_; rintro e WC ⟨rfl, hbC⟩; have GC := hide (GA.out.below hbC); have BC := hide (bseq BA.out hbC); clear hbC KL1; have KR1 := hide (room_b GC.out); rw [ER.out] at KR1)
                | (go_at_call 21; refine (KR1.out).mono ?_; rintro e WD ⟨rfl, hbD⟩; have GD := hide (GC.out.below hbD); have BD := hide (bseq BC.out hbD); clear hbD KR1; have KL2 := hide (len_b GD.out); rw [ES.out] at KL2)
                | (go_at_call 20; refine (KL2.out).mono ?_; rintro e WE ⟨rfl, hbE⟩; have GE := hide (GD.out.below hbE); have BE := hide (bseq BD.out hbE); clear hbE KL2; have KC1 := hide (clean_any GE.out))
                | (go_at_call 22; refine (KC1.out).mono ?_; rintro e WF ⟨rfl, hbF⟩; have GF := hide (GE.out.below hbF); have BF := hide (bseq BE.out hbF); clear hbF KC1))
              go_roundw
              case rel => exact ⟨k + 1, _, _, by omega, by omega, rfl, by go_num, GF.out, BF.out⟩
              case measure => simp [intOf]; omega
            · have hf0I : 0 ≤ f := by omega
              by_cases hf1 : (n : Int) < f
              · have hf1I : ¬ (f ≤ (n : Int)) := by omega
                have hNe := HN.out
                have hi : inV T.size f f = false := by rw [Bool.eq_false_iff]; intro h; have := (in_iff _ _ _).1 h; omega
                have HI := hide hi
                clear hi
                clear hNe hf0
                have KS := hide (insert_no G3.out f x HI.out)
                have ES : Hid (((T.size : Nat) : Int) = (n : Int)) := show ((T.size : Nat) : Int) = (n : Int) by rw [HN.out]
                have ER : Hid (((252 - T.size : Nat) : Int) = (252 : Int) - (n : Int)) := by show _ = _; have := HN.out; have := HL.out; omega
                go_wp2_with (first
                  | (go_at_call 15; refine (at_any G3.out).mono ?_; rintro e W4 ⟨rfl, rfl⟩)
                  | (go_at_call 17; refine (KS.out).mono ?_; rintro e W5 ⟨rfl, hb5⟩; have GS := hide (G3.out.below hb5); have BS := hide (bseq B3.out hb5); obtain ⟨c0, c1, c2, c3⟩ := (X3.out.below hb5).c; clear hb5 KS)
                  | (go_at_call 19; refine (text_b GS.out).mono ?_; rintro e WA ⟨rfl, hbA⟩; have GA := hide (GS.out.below hbA); have BA := hide (bseq BS.out hbA); clear hbA; have KA := hide (at_any GA.out))
                  | (go_at_call 15; refine (KA.out).mono ?_; rintro e WB ⟨rfl, rfl⟩; clear KA; have KL1 := hide (len_b GA.out); rw [ES.out] at KL1)
                  | (go_at_call 20; refine (KL1.out).mono ?_; rintro e WC ⟨rfl, hbC⟩; have GC := hide (GA.out.below hbC); have BC := hide (bseq BA.out hbC); clear hbC KL1; have KR1 := hide (room_b GC.out); rw [ER.out] at KR1)
                  | (go_at_call 21; refine (KR1.out).mono ?_; rintro e WD ⟨rfl, hbD⟩; have GD := hide (GC.out.below hbD); have BD := hide (bseq BC.out hbD); clear hbD KR1; have KL2 := hide (len_b GD.out); rw [ES.out] at KL2)
                  | (go_at_call 20; refine (KL2.out).mono ?_; rintro e WE ⟨rfl, hbE⟩; have GE := hide (GD.out.below hbE); have BE := hide (bseq BD.out hbE); clear hbE KL2; have KC1 := hide (clean_any GE.out))
                  | (go_at_call 22; refine (KC1.out).mono ?_; rintro e WF ⟨rfl, hbF⟩; have GF := hide (GE.out.below hbF); have BF := hide (bseq BE.out hbF); clear hbF KC1))
                go_roundw
                case rel => exact ⟨k + 1, _, _, by omega, by omega, rfl, by go_num, GF.out, BF.out⟩
                case measure => simp [intOf]; omega
              · have hf1I : f ≤ (n : Int) := by omega
                obtain ⟨q, rfl⟩ : ∃ q : Nat, f = (q : Int) := ⟨f.toNat, by omega⟩
                have HQ : Hid (q ≤ T.size) := show q ≤ T.size by have := HN.out; omega
                by_cases hfull : 252 < n + x.size
                · have HF : Hid (252 < T.size + x.size) := show 252 < T.size + x.size by have := HN.out; omega
                  have hfI : (252 : Int) < (n : Int) + (x.size : Int) := by omega
                  have KS := hide (insert_full G3.out q HQ.out x HF.out)
                  have ES : Hid (((T.size : Nat) : Int) = (n : Int)) := show ((T.size : Nat) : Int) = (n : Int) by rw [HN.out]
                  have ER : Hid (((252 - T.size : Nat) : Int) = (252 : Int) - (n : Int)) := by show _ = _; have := HN.out; have := HL.out; omega
                  go_wp2_with (first
                    | (go_at_call 15; refine (at_any G3.out).mono ?_; rintro e W4 ⟨rfl, rfl⟩)
                    | (go_at_call 17; refine (KS.out).mono ?_; rintro e W5 ⟨rfl, hb5⟩; have GS := hide (G3.out.below hb5); have BS := hide (bseq B3.out hb5); obtain ⟨c0, c1, c2, c3⟩ := (X3.out.below hb5).c; clear hb5 KS)
                    | (go_at_call 19; refine (text_b GS.out).mono ?_; rintro e WA ⟨rfl, hbA⟩; have GA := hide (GS.out.below hbA); have BA := hide (bseq BS.out hbA); clear hbA; have KA := hide (at_any GA.out))
                    | (go_at_call 15; refine (KA.out).mono ?_; rintro e WB ⟨rfl, rfl⟩; clear KA; have KL1 := hide (len_b GA.out); rw [ES.out] at KL1)
                    | (go_at_call 20; refine (KL1.out).mono ?_; rintro e WC ⟨rfl, hbC⟩; have GC := hide (GA.out.below hbC); have BC := hide (bseq BA.out hbC); clear hbC KL1; have KR1 := hide (room_b GC.out); rw [ER.out] at KR1)
                    | (go_at_call 21; refine (KR1.out).mono ?_; rintro e WD ⟨rfl, hbD⟩; have GD := hide (GC.out.below hbD); have BD := hide (bseq BC.out hbD); clear hbD KR1; have KL2 := hide (len_b GD.out); rw [ES.out] at KL2)
                    | (go_at_call 20; refine (KL2.out).mono ?_; rintro e WE ⟨rfl, hbE⟩; have GE := hide (GD.out.below hbE); have BE := hide (bseq BD.out hbE); clear hbE KL2; have KC1 := hide (clean_any GE.out))
                    | (go_at_call 22; refine (KC1.out).mono ?_; rintro e WF ⟨rfl, hbF⟩; have GF := hide (GE.out.below hbF); have BF := hide (bseq BE.out hbF); clear hbF KC1))
                  go_roundw
                  case rel => exact ⟨k + 1, _, _, by omega, by omega, rfl, by go_num, GF.out, BF.out⟩
                  case measure => simp [intOf]; omega
                · have hfI : ¬ ((252 : Int) < (n : Int) + (x.size : Int)) := by omega
                  have HF : Hid (T.size + x.size ≤ 252) := show T.size + x.size ≤ 252 by have := HN.out; omega
                  obtain ⟨A, hA⟩ : ∃ A, A = T.extract 0 q := ⟨_, rfl⟩
                  obtain ⟨C, hC⟩ : ∃ C, C = T.extract q T.size := ⟨_, rfl⟩
                  have ki := insert_yes G3.out q HQ.out x HF.out
                  have hsz := ins_size T x q HQ.out
                  have sA : ∀ W, (Instr.slice 9 (.string T) none (some (.int .i64 (q : Int))) none).run Try.prog W = .ok (.string A) W := fun W => by rw [hA]; exact cut_head T q HQ.out W
                  have sC : ∀ W, (Instr.slice 9 (.string T) (some (.int .i64 (q : Int))) none none).run Try.prog W = .ok (.string C) W := fun W => by rw [hC]; exact cut_tail T q HQ.out W
                  have hAs : A.size ≤ 252 := by rw [hA, ByteArray.size_extract]; have := HQ.out; have := HL.out; omega
                  rw [← hA, ← hC] at ki hsz
                  have hq252 : q ≤ 252 := by have := HQ.out; have := HL.out; omega
                  have hsum : (A ++ x ++ C).size ≤ 252 := by rw [hsz]; exact HF.out
                  have h1 : A.size + x.size + C.size ≤ 252 := by rw [ByteArray.size_append, ByteArray.size_append] at hsum; exact hsum
                  have hl1 : A.size + x.size ≤ 252 := by omega
                  have hl2 : (A ++ x).size + C.size ≤ 252 := by rw [ByteArray.size_append]; omega
                  have hxI : (q : Int) + (x.size : Int) ≤ 504 := by have := HF.out; omega
                  have KS := hide ki
                  obtain ⟨m, hm⟩ : ∃ m, m = (A ++ x ++ C).size := ⟨_, rfl⟩
                  have HM := hide hm.symm
                  have hmI : (m : Int) ≤ 252 := by omega
                  have EA : Hid (((q + x.size : Nat) : Int) = (q : Int) + (x.size : Int)) := by show _ = _; omega
                  clear ki hsz hA hC hsum h1 hm
                  go_upto_region 26 with (first
                    | (go_at_call 15; refine (at_any G3.out).mono ?_; rintro e W4 ⟨rfl, rfl⟩)
                    | (go_at_call 17; refine (KS.out).mono ?_; rintro e W5 ⟨rfl, hg5, hk5⟩; have GS := hide hg5; have BS := hide (in_bel B3.out hk5 NG.out); have X5 := hide (X3.out.keep hk5 NX.out); obtain ⟨c0, c1, c2, c3⟩ := X5.out.c; clear hg5 hk5 KS))
                  go_quiet (fail)
                  have GS2 := hide (GS.out.below (below_drewN (Below.refl _ W5) nq))
                  have BS2 := hide (bseq BS.out (below_drewN (Below.refl _ W5) nq))
                  obtain ⟨z0, z1, z2, z3⟩ := (X5.out.below (below_drewN (Below.refl _ W5) nq)).c
                  clear GS BS c0 c1 c2 c3 sA sC
                  generalize W5.drewN nq = W6 at *
                  generalize A ++ x ++ C = U at *
                  have GS := GS2
                  have BS := BS2
                  have hUm : (U.size : Int) = (m : Int) := by have := HM.out; omega
                  have ES : Hid (((U.size : Nat) : Int) = (m : Int)) := hUm
                  have ER : Hid (((252 - U.size : Nat) : Int) = (252 : Int) - (m : Int)) := by show _ = _; have := HM.out; omega
                  clear GS2 BS2
                  go_wp2_with (first
                    | (go_at_call 19; refine (text_b GS.out).mono ?_; rintro e WA ⟨rfl, hbA⟩; have GA := hide (GS.out.below hbA); have BA := hide (bseq BS.out hbA); clear hbA; have KA := hide (at_any GA.out); rw [EA.out] at KA)
                    | (go_at_call 15; refine (KA.out).mono ?_; rintro e WB ⟨rfl, rfl⟩; clear KA; have KL1 := hide (len_b GA.out); rw [ES.out] at KL1)
                    | (go_at_call 20; refine (KL1.out).mono ?_; rintro e WC ⟨rfl, hbC⟩; have GC := hide (GA.out.below hbC); have BC := hide (bseq BA.out hbC); clear hbC KL1; have KR1 := hide (room_b GC.out); rw [ER.out] at KR1)
                    | (go_at_call 21; refine (KR1.out).mono ?_; rintro e WD ⟨rfl, hbD⟩; have GD := hide (GC.out.below hbD); have BD := hide (bseq BC.out hbD); clear hbD KR1; have KL2 := hide (len_b GD.out); rw [ES.out] at KL2)
                    | (go_at_call 20; refine (KL2.out).mono ?_; rintro e WE ⟨rfl, hbE⟩; have GE := hide (GD.out.below hbE); have BE := hide (bseq BD.out hbE); clear hbE KL2; have KC1 := hide (clean_any GE.out))
                    | (go_at_call 22; refine (KC1.out).mono ?_; rintro e WF ⟨rfl, hbF⟩; have GF := hide (GE.out.below hbF); have BF := hide (bseq BE.out hbF); clear hbF KC1))
                  go_roundw
                  case rel => exact ⟨k + 1, _, _, by omega, by omega, rfl, by go_num, GF.out, BF.out⟩
                  case measure => simp [intOf]; omega
          · by_cases hd3 : d = 3
            · subst hd3
              by_cases hf0 : f < 0
              · have hf0I : ¬ (0 ≤ f) := by omega
                have hNe := HN.out
                have hi : inV T.size f t = false := by rw [Bool.eq_false_iff]; intro h; have := (in_iff _ _ _).1 h; omega
                have HI := hide hi
                clear hi
                clear hNe hf0
                have KS := hide (delete_no G3.out f t HI.out)
                have ES : Hid (((T.size : Nat) : Int) = (n : Int)) := show ((T.size : Nat) : Int) = (n : Int) by rw [HN.out]
                have ER : Hid (((252 - T.size : Nat) : Int) = (252 : Int) - (n : Int)) := by show _ = _; have := HN.out; have := HL.out; omega
                go_wp2_with (first
                  | (go_at_call 15; refine (at_any G3.out).mono ?_; rintro e W4 ⟨rfl, rfl⟩)
                  | (go_at_call 18; refine (KS.out).mono ?_; rintro e W5 ⟨rfl, hb5⟩; have GS := hide (G3.out.below hb5); have BS := hide (bseq B3.out hb5); obtain ⟨c0, c1, c2, c3⟩ := (X3.out.below hb5).c; clear hb5 KS)
                  | (go_at_call 19; refine (text_b GS.out).mono ?_; rintro e WA ⟨rfl, hbA⟩; have GA := hide (GS.out.below hbA); have BA := hide (bseq BS.out hbA); clear hbA; have KA := hide (at_any GA.out))
                  | (go_at_call 15; refine (KA.out).mono ?_; rintro e WB ⟨rfl, rfl⟩; clear KA; have KL1 := hide (len_b GA.out); rw [ES.out] at KL1)
                  | (go_at_call 20; refine (KL1.out).mono ?_; rintro e WC ⟨rfl, hbC⟩; have GC := hide (GA.out.below hbC); have BC := hide (bseq BA.out hbC); clear hbC KL1; have KR1 := hide (room_b GC.out); rw [ER.out] at KR1)
                  | (go_at_call 21; refine (KR1.out).mono ?_; rintro e WD ⟨rfl, hbD⟩; have GD := hide (GC.out.below hbD); have BD := hide (bseq BC.out hbD); clear hbD KR1; have KL2 := hide (len_b GD.out); rw [ES.out] at KL2)
                  | (go_at_call 20; refine (KL2.out).mono ?_; rintro e WE ⟨rfl, hbE⟩; have GE := hide (GD.out.below hbE); have BE := hide (bseq BD.out hbE); clear hbE KL2; have KC1 := hide (clean_any GE.out))
                  | (go_at_call 22; refine (KC1.out).mono ?_; rintro e WF ⟨rfl, hbF⟩; have GF := hide (GE.out.below hbF); have BF := hide (bseq BE.out hbF); clear hbF KC1))
                go_roundw
                case rel => exact ⟨k + 1, _, _, by omega, by omega, rfl, by go_num, GF.out, BF.out⟩
                case measure => simp [intOf]; omega
              · have hf0I : 0 ≤ f := by omega
                by_cases hf1 : (n : Int) < f
                · have hf1I : ¬ (f ≤ (n : Int)) := by omega
                  have hNe := HN.out
                  have hi : inV T.size f t = false := by rw [Bool.eq_false_iff]; intro h; have := (in_iff _ _ _).1 h; omega
                  have HI := hide hi
                  clear hi
                  clear hNe hf0
                  have KS := hide (delete_no G3.out f t HI.out)
                  have ES : Hid (((T.size : Nat) : Int) = (n : Int)) := show ((T.size : Nat) : Int) = (n : Int) by rw [HN.out]
                  have ER : Hid (((252 - T.size : Nat) : Int) = (252 : Int) - (n : Int)) := by show _ = _; have := HN.out; have := HL.out; omega
                  go_wp2_with (first
                    | (go_at_call 15; refine (at_any G3.out).mono ?_; rintro e W4 ⟨rfl, rfl⟩)
                    | (go_at_call 18; refine (KS.out).mono ?_; rintro e W5 ⟨rfl, hb5⟩; have GS := hide (G3.out.below hb5); have BS := hide (bseq B3.out hb5); obtain ⟨c0, c1, c2, c3⟩ := (X3.out.below hb5).c; clear hb5 KS)
                    | (go_at_call 19; refine (text_b GS.out).mono ?_; rintro e WA ⟨rfl, hbA⟩; have GA := hide (GS.out.below hbA); have BA := hide (bseq BS.out hbA); clear hbA; have KA := hide (at_any GA.out))
                    | (go_at_call 15; refine (KA.out).mono ?_; rintro e WB ⟨rfl, rfl⟩; clear KA; have KL1 := hide (len_b GA.out); rw [ES.out] at KL1)
                    | (go_at_call 20; refine (KL1.out).mono ?_; rintro e WC ⟨rfl, hbC⟩; have GC := hide (GA.out.below hbC); have BC := hide (bseq BA.out hbC); clear hbC KL1; have KR1 := hide (room_b GC.out); rw [ER.out] at KR1)
                    | (go_at_call 21; refine (KR1.out).mono ?_; rintro e WD ⟨rfl, hbD⟩; have GD := hide (GC.out.below hbD); have BD := hide (bseq BC.out hbD); clear hbD KR1; have KL2 := hide (len_b GD.out); rw [ES.out] at KL2)
                    | (go_at_call 20; refine (KL2.out).mono ?_; rintro e WE ⟨rfl, hbE⟩; have GE := hide (GD.out.below hbE); have BE := hide (bseq BD.out hbE); clear hbE KL2; have KC1 := hide (clean_any GE.out))
                    | (go_at_call 22; refine (KC1.out).mono ?_; rintro e WF ⟨rfl, hbF⟩; have GF := hide (GE.out.below hbF); have BF := hide (bseq BE.out hbF); clear hbF KC1))
                  go_roundw
                  case rel => exact ⟨k + 1, _, _, by omega, by omega, rfl, by go_num, GF.out, BF.out⟩
                  case measure => simp [intOf]; omega
                · have hf1I : f ≤ (n : Int) := by omega
                  obtain ⟨q, rfl⟩ : ∃ q : Nat, f = (q : Int) := ⟨f.toNat, by omega⟩
                  have HQ : Hid (q ≤ T.size) := show q ≤ T.size by have := HN.out; omega
                  by_cases ht0 : t < (q : Int)
                  · have hi : inV T.size (q : Int) t = false := by rw [Bool.eq_false_iff]; intro h; have := (in_iff _ _ _).1 h; have := HN.out; omega
                    have HI := hide hi
                    clear hi
                    have KS := hide (delete_no G3.out (q : Int) t HI.out)
                    have ES : Hid (((T.size : Nat) : Int) = (n : Int)) := show ((T.size : Nat) : Int) = (n : Int) by rw [HN.out]
                    have ER : Hid (((252 - T.size : Nat) : Int) = (252 : Int) - (n : Int)) := by show _ = _; have := HN.out; have := HL.out; omega
                    go_wp2_with (first
                      | (go_at_call 15; refine (at_any G3.out).mono ?_; rintro e W4 ⟨rfl, rfl⟩)
                      | (go_at_call 18; refine (KS.out).mono ?_; rintro e W5 ⟨rfl, hb5⟩; have GS := hide (G3.out.below hb5); have BS := hide (bseq B3.out hb5); obtain ⟨c0, c1, c2, c3⟩ := (X3.out.below hb5).c; clear hb5 KS)
                      | (go_at_call 19; refine (text_b GS.out).mono ?_; rintro e WA ⟨rfl, hbA⟩; have GA := hide (GS.out.below hbA); have BA := hide (bseq BS.out hbA); clear hbA; have KA := hide (at_any GA.out))
                      | (go_at_call 15; refine (KA.out).mono ?_; rintro e WB ⟨rfl, rfl⟩; clear KA; have KL1 := hide (len_b GA.out); rw [ES.out] at KL1)
                      | (go_at_call 20; refine (KL1.out).mono ?_; rintro e WC ⟨rfl, hbC⟩; have GC := hide (GA.out.below hbC); have BC := hide (bseq BA.out hbC); clear hbC KL1; have KR1 := hide (room_b GC.out); rw [ER.out] at KR1)
                      | (go_at_call 21; refine (KR1.out).mono ?_; rintro e WD ⟨rfl, hbD⟩; have GD := hide (GC.out.below hbD); have BD := hide (bseq BC.out hbD); clear hbD KR1; have KL2 := hide (len_b GD.out); rw [ES.out] at KL2)
                      | (go_at_call 20; refine (KL2.out).mono ?_; rintro e WE ⟨rfl, hbE⟩; have GE := hide (GD.out.below hbE); have BE := hide (bseq BD.out hbE); clear hbE KL2; have KC1 := hide (clean_any GE.out))
                      | (go_at_call 22; refine (KC1.out).mono ?_; rintro e WF ⟨rfl, hbF⟩; have GF := hide (GE.out.below hbF); have BF := hide (bseq BE.out hbF); clear hbF KC1))
                    go_roundw
                    case rel => exact ⟨k + 1, _, _, by omega, by omega, rfl, by go_num, GF.out, BF.out⟩
                    case measure => simp [intOf]; omega
                  · have ht0I : (q : Int) ≤ t := by omega
                    by_cases ht1 : (n : Int) < t
                    · have hi : inV T.size (q : Int) t = false := by rw [Bool.eq_false_iff]; intro h; have := (in_iff _ _ _).1 h; have := HN.out; omega
                      have HI := hide hi
                      clear hi
                      have KS := hide (delete_no G3.out (q : Int) t HI.out)
                      have ES : Hid (((T.size : Nat) : Int) = (n : Int)) := show ((T.size : Nat) : Int) = (n : Int) by rw [HN.out]
                      have ER : Hid (((252 - T.size : Nat) : Int) = (252 : Int) - (n : Int)) := by show _ = _; have := HN.out; have := HL.out; omega
                      go_wp2_with (first
                        | (go_at_call 15; refine (at_any G3.out).mono ?_; rintro e W4 ⟨rfl, rfl⟩)
                        | (go_at_call 18; refine (KS.out).mono ?_; rintro e W5 ⟨rfl, hb5⟩; have GS := hide (G3.out.below hb5); have BS := hide (bseq B3.out hb5); obtain ⟨c0, c1, c2, c3⟩ := (X3.out.below hb5).c; clear hb5 KS)
                        | (go_at_call 19; refine (text_b GS.out).mono ?_; rintro e WA ⟨rfl, hbA⟩; have GA := hide (GS.out.below hbA); have BA := hide (bseq BS.out hbA); clear hbA; have KA := hide (at_any GA.out))
                        | (go_at_call 15; refine (KA.out).mono ?_; rintro e WB ⟨rfl, rfl⟩; clear KA; have KL1 := hide (len_b GA.out); rw [ES.out] at KL1)
                        | (go_at_call 20; refine (KL1.out).mono ?_; rintro e WC ⟨rfl, hbC⟩; have GC := hide (GA.out.below hbC); have BC := hide (bseq BA.out hbC); clear hbC KL1; have KR1 := hide (room_b GC.out); rw [ER.out] at KR1)
                        | (go_at_call 21; refine (KR1.out).mono ?_; rintro e WD ⟨rfl, hbD⟩; have GD := hide (GC.out.below hbD); have BD := hide (bseq BC.out hbD); clear hbD KR1; have KL2 := hide (len_b GD.out); rw [ES.out] at KL2)
                        | (go_at_call 20; refine (KL2.out).mono ?_; rintro e WE ⟨rfl, hbE⟩; have GE := hide (GD.out.below hbE); have BE := hide (bseq BD.out hbE); clear hbE KL2; have KC1 := hide (clean_any GE.out))
                        | (go_at_call 22; refine (KC1.out).mono ?_; rintro e WF ⟨rfl, hbF⟩; have GF := hide (GE.out.below hbF); have BF := hide (bseq BE.out hbF); clear hbF KC1))
                      go_roundw
                      case rel => exact ⟨k + 1, _, _, by omega, by omega, rfl, by go_num, GF.out, BF.out⟩
                      case measure => simp [intOf]; omega
                    · have ht1I : t ≤ (n : Int) := by omega
                      obtain ⟨r, rfl⟩ : ∃ r : Nat, t = (r : Int) := ⟨t.toNat, by omega⟩
                      have hqr : q ≤ r := by omega
                      have HR : Hid (r ≤ T.size) := show r ≤ T.size by have := HN.out; omega
                      obtain ⟨A, hA⟩ : ∃ A, A = T.extract 0 q := ⟨_, rfl⟩
                      obtain ⟨C, hC⟩ : ∃ C, C = T.extract r T.size := ⟨_, rfl⟩
                      have ki := delete_yes G3.out q r hqr HR.out
                      have hsz := del_size T q r hqr HR.out
                      have sA : ∀ W, (Instr.slice 9 (.string T) none (some (.int .i64 (q : Int))) none).run Try.prog W = .ok (.string A) W := fun W => by rw [hA]; exact cut_head T q HQ.out W
                      have sC : ∀ W, (Instr.slice 9 (.string T) (some (.int .i64 (r : Int))) none none).run Try.prog W = .ok (.string C) W := fun W => by rw [hC]; exact cut_tail T r HR.out W
                      have hAs : A.size ≤ 252 := by rw [hA, ByteArray.size_extract]; have := HQ.out; have := HL.out; omega
                      rw [← hA, ← hC] at ki hsz
                      have hsum : (A ++ C).size ≤ 252 := by rw [hsz]; have := HL.out; omega
                      have hl1 : A.size + C.size ≤ 252 := by rw [ByteArray.size_append] at hsum; exact hsum
                      have KS := hide ki
                      obtain ⟨m, hm⟩ : ∃ m, m = (A ++ C).size := ⟨_, rfl⟩
                      have HM := hide hm.symm
                      have hmI : (m : Int) ≤ 252 := by omega
                      clear ki hsz hA hC hsum hm hqr
                      go_upto_region 32 with (first
                        | (go_at_call 15; refine (at_any G3.out).mono ?_; rintro e W4 ⟨rfl, rfl⟩)
                        | (go_at_call 18; refine (KS.out).mono ?_; rintro e W5 ⟨rfl, hg5, hk5⟩; have GS := hide hg5; have BS := hide (in_bel B3.out hk5 NG.out); have X5 := hide (X3.out.keep hk5 NX.out); obtain ⟨c0, c1, c2, c3⟩ := X5.out.c; clear hg5 hk5 KS))
                      go_quiet (fail)
                      have GS2 := hide (GS.out.below (below_drewN (Below.refl _ W5) nq))
                      have BS2 := hide (bseq BS.out (below_drewN (Below.refl _ W5) nq))
                      obtain ⟨z0, z1, z2, z3⟩ := (X5.out.below (below_drewN (Below.refl _ W5) nq)).c
                      clear GS BS c0 c1 c2 c3 sA sC
                      generalize W5.drewN nq = W6 at *
                      generalize A ++ C = U at *
                      have GS := GS2
                      have BS := BS2
                      have hUm : (U.size : Int) = (m : Int) := by have := HM.out; omega
                      have ES : Hid (((U.size : Nat) : Int) = (m : Int)) := hUm
                      have ER : Hid (((252 - U.size : Nat) : Int) = (252 : Int) - (m : Int)) := by show _ = _; have := HM.out; omega
                      clear GS2 BS2
                      go_wp2_with (first
                        | (go_at_call 19; refine (text_b GS.out).mono ?_; rintro e WA ⟨rfl, hbA⟩; have GA := hide (GS.out.below hbA); have BA := hide (bseq BS.out hbA); clear hbA; have KA := hide (at_any GA.out))
                        | (go_at_call 15; refine (KA.out).mono ?_; rintro e WB ⟨rfl, rfl⟩; clear KA; have KL1 := hide (len_b GA.out); rw [ES.out] at KL1)
                        | (go_at_call 20; refine (KL1.out).mono ?_; rintro e WC ⟨rfl, hbC⟩; have GC := hide (GA.out.below hbC); have BC := hide (bseq BA.out hbC); clear hbC KL1; have KR1 := hide (room_b GC.out); rw [ER.out] at KR1)
                        | (go_at_call 21; refine (KR1.out).mono ?_; rintro e WD ⟨rfl, hbD⟩; have GD := hide (GC.out.below hbD); have BD := hide (bseq BC.out hbD); clear hbD KR1; have KL2 := hide (len_b GD.out); rw [ES.out] at KL2)
                        | (go_at_call 20; refine (KL2.out).mono ?_; rintro e WE ⟨rfl, hbE⟩; have GE := hide (GD.out.below hbE); have BE := hide (bseq BD.out hbE); clear hbE KL2; have KC1 := hide (clean_any GE.out))
                        | (go_at_call 22; refine (KC1.out).mono ?_; rintro e WF ⟨rfl, hbF⟩; have GF := hide (GE.out.below hbF); have BF := hide (bseq BE.out hbF); clear hbF KC1))
                      go_roundw
                      case rel => exact ⟨k + 1, _, _, by omega, by omega, rfl, by go_num, GF.out, BF.out⟩
                      case measure => simp [intOf]; omega
            · by_cases hf0 : f < 0
              · have hf0I : ¬ (0 ≤ f) := by omega
                have GS := G3
                have BS := B3
                have ES : Hid (((T.size : Nat) : Int) = (n : Int)) := show ((T.size : Nat) : Int) = (n : Int) by rw [HN.out]
                have ER : Hid (((252 - T.size : Nat) : Int) = (252 : Int) - (n : Int)) := by show _ = _; have := HN.out; have := HL.out; omega
                go_wp2_with (first
                  | (go_at_call 15; refine (at_any G3.out).mono ?_; rintro e W4 ⟨rfl, rfl⟩)
                  | (go_at_call 19; refine (text_b GS.out).mono ?_; rintro e WA ⟨rfl, hbA⟩; have GA := hide (GS.out.below hbA); have BA := hide (bseq BS.out hbA); clear hbA; have KA := hide (at_any GA.out))
                  | (go_at_call 15; refine (KA.out).mono ?_; rintro e WB ⟨rfl, rfl⟩; clear KA; have KL1 := hide (len_b GA.out); rw [ES.out] at KL1)
                  | (go_at_call 20; refine (KL1.out).mono ?_; rintro e WC ⟨rfl, hbC⟩; have GC := hide (GA.out.below hbC); have BC := hide (bseq BA.out hbC); clear hbC KL1; have KR1 := hide (room_b GC.out); rw [ER.out] at KR1)
                  | (go_at_call 21; refine (KR1.out).mono ?_; rintro e WD ⟨rfl, hbD⟩; have GD := hide (GC.out.below hbD); have BD := hide (bseq BC.out hbD); clear hbD KR1; have KL2 := hide (len_b GD.out); rw [ES.out] at KL2)
                  | (go_at_call 20; refine (KL2.out).mono ?_; rintro e WE ⟨rfl, hbE⟩; have GE := hide (GD.out.below hbE); have BE := hide (bseq BD.out hbE); clear hbE KL2; have KC1 := hide (clean_any GE.out))
                  | (go_at_call 22; refine (KC1.out).mono ?_; rintro e WF ⟨rfl, hbF⟩; have GF := hide (GE.out.below hbF); have BF := hide (bseq BE.out hbF); clear hbF KC1))
                go_roundw
                case rel => exact ⟨k + 1, _, _, by omega, by omega, rfl, by go_num, GF.out, BF.out⟩
                case measure => simp [intOf]; omega
              · have hf0I : 0 ≤ f := by omega
                by_cases hf1 : (n : Int) < f
                · have hf1I : ¬ (f ≤ (n : Int)) := by omega
                  have GS := G3
                  have BS := B3
                  have ES : Hid (((T.size : Nat) : Int) = (n : Int)) := show ((T.size : Nat) : Int) = (n : Int) by rw [HN.out]
                  have ER : Hid (((252 - T.size : Nat) : Int) = (252 : Int) - (n : Int)) := by show _ = _; have := HN.out; have := HL.out; omega
                  go_wp2_with (first
                    | (go_at_call 15; refine (at_any G3.out).mono ?_; rintro e W4 ⟨rfl, rfl⟩)
                    | (go_at_call 19; refine (text_b GS.out).mono ?_; rintro e WA ⟨rfl, hbA⟩; have GA := hide (GS.out.below hbA); have BA := hide (bseq BS.out hbA); clear hbA; have KA := hide (at_any GA.out))
                    | (go_at_call 15; refine (KA.out).mono ?_; rintro e WB ⟨rfl, rfl⟩; clear KA; have KL1 := hide (len_b GA.out); rw [ES.out] at KL1)
                    | (go_at_call 20; refine (KL1.out).mono ?_; rintro e WC ⟨rfl, hbC⟩; have GC := hide (GA.out.below hbC); have BC := hide (bseq BA.out hbC); clear hbC KL1; have KR1 := hide (room_b GC.out); rw [ER.out] at KR1)
                    | (go_at_call 21; refine (KR1.out).mono ?_; rintro e WD ⟨rfl, hbD⟩; have GD := hide (GC.out.below hbD); have BD := hide (bseq BC.out hbD); clear hbD KR1; have KL2 := hide (len_b GD.out); rw [ES.out] at KL2)
                    | (go_at_call 20; refine (KL2.out).mono ?_; rintro e WE ⟨rfl, hbE⟩; have GE := hide (GD.out.below hbE); have BE := hide (bseq BD.out hbE); clear hbE KL2; have KC1 := hide (clean_any GE.out))
                    | (go_at_call 22; refine (KC1.out).mono ?_; rintro e WF ⟨rfl, hbF⟩; have GF := hide (GE.out.below hbF); have BF := hide (bseq BE.out hbF); clear hbF KC1))
                  go_roundw
                  case rel => exact ⟨k + 1, _, _, by omega, by omega, rfl, by go_num, GF.out, BF.out⟩
                  case measure => simp [intOf]; omega
                · have hf1I : f ≤ (n : Int) := by omega
                  obtain ⟨q, rfl⟩ : ∃ q : Nat, f = (q : Int) := ⟨f.toNat, by omega⟩
                  have HQ : Hid (q ≤ T.size) := show q ≤ T.size by have := HN.out; omega
                  have GS := G3
                  have BS := B3
                  have ES : Hid (((T.size : Nat) : Int) = (n : Int)) := show ((T.size : Nat) : Int) = (n : Int) by rw [HN.out]
                  have ER : Hid (((252 - T.size : Nat) : Int) = (252 : Int) - (n : Int)) := by show _ = _; have := HN.out; have := HL.out; omega
                  go_wp2_with (first
                    | (go_at_call 15; refine (at_any G3.out).mono ?_; rintro e W4 ⟨rfl, rfl⟩)
                    | (go_at_call 19; refine (text_b GS.out).mono ?_; rintro e WA ⟨rfl, hbA⟩; have GA := hide (GS.out.below hbA); have BA := hide (bseq BS.out hbA); clear hbA; have KA := hide (at_any GA.out))
                    | (go_at_call 15; refine (KA.out).mono ?_; rintro e WB ⟨rfl, rfl⟩; clear KA; have KL1 := hide (len_b GA.out); rw [ES.out] at KL1)
                    | (go_at_call 20; refine (KL1.out).mono ?_; rintro e WC ⟨rfl, hbC⟩; have GC := hide (GA.out.below hbC); have BC := hide (bseq BA.out hbC); clear hbC KL1; have KR1 := hide (room_b GC.out); rw [ER.out] at KR1)
                    | (go_at_call 21; refine (KR1.out).mono ?_; rintro e WD ⟨rfl, hbD⟩; have GD := hide (GC.out.below hbD); have BD := hide (bseq BC.out hbD); clear hbD KR1; have KL2 := hide (len_b GD.out); rw [ES.out] at KL2)
                    | (go_at_call 20; refine (KL2.out).mono ?_; rintro e WE ⟨rfl, hbE⟩; have GE := hide (GD.out.below hbE); have BE := hide (bseq BD.out hbE); clear hbE KL2; have KC1 := hide (clean_any GE.out))
                    | (go_at_call 22; refine (KC1.out).mono ?_; rintro e WF ⟨rfl, hbF⟩; have GF := hide (GE.out.below hbF); have BF := hide (bseq BE.out hbF); clear hbF KC1))
                  go_roundw
                  case rel => exact ⟨k + 1, _, _, by omega, by omega, rfl, by go_num, GF.out, BF.out⟩
                  case measure => simp [intOf]; omega
      · by_cases h1 : k < xs.length
        · have hkI : (k : Int) < (xs.length : Int) := by omega
          have hkI2 : ¬ ((k : Int) < 2000) := by omega
          go_wp2_with (go_at_call 10; refine (works_any _).mono ?_; rintro e W9 ⟨rfl, hb9⟩; have B9 := hide (bseq B2.out hb9); clear hb9)
          go_ret
          exact ⟨rfl, B9.out⟩
        · have hkI : ¬ ((k : Int) < (xs.length : Int)) := by omega
          go_wp2_with (go_at_call 10; refine (works_any _).mono ?_; rintro e W9 ⟨rfl, hb9⟩; have B9 := hide (bseq B2.out hb9); clear hb9)
          go_ret
          exact ⟨rfl, B9.out⟩
  have KEY := hide key
  clear key hK1 hx hn
  by_cases hI : (252 : Int) < (s.size : Int)
  · have HT : Hid ((s.extract 0 252).size ≤ 252) := by show _ ≤ _; rw [ByteArray.size_extract]; omega
    go_wp2
    exact KEY.out _ _ _ _ _ _ HT.out
  · have HT : Hid (s.size ≤ 252) := show s.size ≤ 252 by omega
    go_wp2
    exact KEY.out _ _ _ _ _ _ HT.out
end Go.Proofs.Ytheefdplbmneeaa
