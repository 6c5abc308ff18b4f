/- The road of LinesWheres: it answers true, of every text at every place. -/
import Derived.Test.YtegplcomhahpfaaLRWhere2
import Derived.Test.YtegplcomhahpfaaLWorks
namespace Go.Proofs.Ytegplcomhahpfaa.linesWheres
open Go.RowKit Go.Shelf Go.Proofs.Ytegplcomhahpfaa
set_option linter.unusedVariables false

/-- What both answer of a place. -/
def spotV (l : List UInt8) (n : Int) (a b c : Int) : Prop :=
  (a = 0 ∧ b = 0 ∧ c = 6 ∧ (n < 0 ∨ (l.length : Int) < n)) ∨ ∃ (m k : Nat) (x : Nat × Nat × Nat), n = (m : Int) ∧ m ≤ l.length ∧ WhereAt l m k x ∧ x.1 ≤ m ∧ a = (k : Int) ∧ b = (ofV ((l.drop x.1).take (x.2.1 + x.2.2 - x.1)) ((m : Int) - x.1)).1 ∧ c = (ofV ((l.drop x.1).take (x.2.1 + x.2.2 - x.1)) ((m : Int) - x.1)).2
theorem where_v (s : ByteArray) (n : Int) (w : World) (hs : s.size ≤ 4611686018427387904) :
    Calls Try.prog 26 #[.string s, .int .i64 n] w fun e w' => (∃ a b c, spotV (bl s) n a b c ∧ e = .returned (.tuple #[.agg #[.int .i64 a, .int .i64 b], .int .i64 c])) ∧ Below w.heap.size w w' := by
  by_cases h : n < 0 ∨ (s.size : Int) < n
  · refine (where_bad s n w h).mono ?_
    rintro e w' ⟨rfl, hB⟩
    exact ⟨⟨0, 0, 6, .inl ⟨rfl, rfl, rfl, by rw [bl_len]; exact h⟩, rfl⟩, hB⟩
  · obtain ⟨m, rfl⟩ : ∃ m : Nat, n = (m : Int) := ⟨n.toNat, by omega⟩
    refine (where_in s m w (by omega) hs).mono ?_
    rintro e w' ⟨⟨k, x, hw, hx, rfl⟩, hB⟩
    rw [bl_extract]
    exact ⟨⟨_, _, _, .inr ⟨m, k, x, rfl, by rw [bl_len]; omega, hw, hx, rfl, rfl, rfl⟩, rfl⟩, hB⟩
theorem rwhere_v (s : ByteArray) (n : Int) (a b c : Int) (w : World) (hs : s.size ≤ 1099511627776) (h : spotV (bl s) n a b c) :
    Calls Try.prog 29 #[.string s, .int .i64 n] w fun e w' => e = .returned (.tuple #[.agg #[.int .i64 a, .int .i64 b], .int .i64 c]) ∧ Below w.heap.size w w' := by
  rcases h with ⟨rfl, rfl, rfl, h⟩ | ⟨m, k, x, rfl, hm, hw, hx, rfl, rfl, rfl⟩
  · rw [bl_len] at h
    exact rwhere_bad s n w h
  · rw [bl_len] at hm
    have h := rwhere_in s m k x w hm hs hw hx
    rw [bl_extract] at h
    exact h

theorem Try.noGuardSp : Try.prog.eqGuardType Try.prog.depth 47 = false := by kernel_rfl
theorem Try.noHeldSp : Try.prog.stoodInHeld 47 = false := by kernel_rfl
theorem Try.fieldsSp : Try.prog.underlying 47 = some (.struct (Try.prog.fieldsOf 47)) := by kernel_rfl
theorem eql_spot (a b : Int) (W : World) : (Op.equalIn 10000 47 (.agg #[.int .i64 a, .int .i64 b]) (.agg #[.int .i64 a, .int .i64 b])).run Try.prog W = .ok true W := by
  rw [run_equalIn_agg W 9999 47 _ _ Try.fieldsSp Try.noHeldSp]
  have u3 := Try.underlying3
  have a3 := Try.isAgg3
  unfold Program.fieldsOf
  rw [Try.underlying47]
  simp [Op.eqFields, part, u3, a3, go_sem]

set_option maxRecDepth 100000 in
set_option maxHeartbeats 4000000 in
theorem walk (s : ByteArray) (n : Int) (w : World) (hs : s.size ≤ 1099511627776) :
    Calls Try.prog 19 #[.string s, .int .i64 n] w fun e w' => e = .returned (.bool true) ∧ Below w.heap.size w w' := by
  have kw := fun n w' => where_v s n w' (by omega)
  have kr := fun n a b c w' h => rwhere_v s n a b c w' hs h
  have KW := hide kw
  have KR := hide kr
  have hsI : (s.size : Int) ≤ 1099511627776 := by omega
  clear kw kr hs
  have heq := eql_spot
  have hg := Try.noGuardSp
  go_enter Try.func19, Try.ntmps19
  go_upto_region 3 with (first | (go_at_call 26; refine (KW.out _ _).mono ?_; rintro e w1 ⟨⟨a, b, c, hv, rfl⟩, hB1⟩) | (go_at_call 29; refine (KR.out _ _ _ _ _ hv).mono ?_; rintro e w2 ⟨rfl, hB2⟩))
  have P1 : Box2 (w1.alloc (.cells #[.int .i64 a, .int .i64 b] 47)) w1.heap.size 47 (.int .i64 a) (.int .i64 b) := heap_alloc_new _ _
  have P2 := (P1.below hB2).below (W' := w2.alloc (.cells #[.int .i64 a, .int .i64 b] 47)) ((Below.refl _ _).alloc (Nat.le_refl _) _)
  have Q2 : Box2 (w2.alloc (.cells #[.int .i64 a, .int .i64 b] 47)) w2.heap.size 47 (.int .i64 a) (.int .i64 b) := heap_alloc_new _ _
  have hBA : Below w.heap.size w (w2.alloc (.cells #[.int .i64 a, .int .i64 b] 47)) := bseq (bseq (bseq hB1 ((Below.refl _ _).alloc (Nat.le_refl _) _)) hB2) ((Below.refl _ _).alloc (Nat.le_refl _) _)
  have hl1 : w.heap.size ≤ w1.heap.size := hB1.size
  have hl2 : w1.heap.size < w2.heap.size := by have := hB2.size; simp at this; omega
  generalize w2.alloc (.cells #[.int .i64 a, .int .i64 b] 47) = A at *
  generalize w1.heap.size = B5 at *
  generalize w2.heap.size = B7 at *
  obtain ⟨p0, p1, -, -⟩ := box2_of P2
  obtain ⟨q0, q1, -, -⟩ := box2_of Q2
  have HP := hide P2
  have HQ := hide Q2
  have HB := hide hBA
  have HL1 := hide hl1
  have HL2 := hide hl2
  clear P1 P2 Q2 hBA hB1 hB2 hv hl1 hl2
  go_wp2
  clear p0 p1 q0 q1
  go_loopw [9] (fun q w' => ∃ (i : Int) (a b a' b' : Int), q = .int .i64 i ∧ -1 ≤ i ∧ i ≤ 60 ∧ Box2 w' B5 47 (.int .i64 a) (.int .i64 b) ∧ Box2 w' B7 47 (.int .i64 a') (.int .i64 b') ∧ Below w.heap.size w w') (fun q _ => (61 - intOf q).toNat)
  case atStart => exact ⟨-1, _, _, _, _, rfl, by omega, by omega, HP.out, HQ.out, HB.out⟩
  case round =>
    clear HP HQ HB
    obtain ⟨i, a1, b1, a2, b2, rfl, hi1, hi2, hp, hq, hB⟩ := hrel
    by_cases hc1 : i < (s.size : Int) + 2
    · by_cases hc2 : i < 60
      · have HP := hide hp
        have HQ := hide hq
        have HB := hide hB
        have hpf : ∀ W, Below wr.heap.size wr W → Box2 W B5 47 (.int .i64 a1) (.int .i64 b1) := fun W h => HP.out.below h
        have HPF := hide hpf
        clear hp hq hB hpf
        go_upto_region 9 with (go_at_call 26; refine (KW.out _ _).mono ?_; rintro e w3 ⟨⟨x, y, c3, hv, rfl⟩, hB3⟩; obtain ⟨d0, d1, df0, df1⟩ := box2_of (HPF.out _ hB3); have d1' := (HPF.out _ hB3).c1 (.int .i64 x))
        have P3 := (HPF.out _ hB3).set (.int .i64 x) (.int .i64 y)
        have hne : B7 ≠ B5 := by have := HL2.out; omega
        have Q3 := ((HQ.out.below hB3).other (o := 0) hne (.int .i64 x)).other (o := 1) hne (.int .i64 y)
        have hBY := ((bseq HB.out hB3).setCell (p := ⟨B5, 0, none⟩) HL1.out (.int .i64 x)).setCell (p := ⟨B5, 1, none⟩) HL1.out (.int .i64 y)
        generalize (w3.setCell ⟨B5, 0, none⟩ (.int .i64 x)).setCell ⟨B5, 1, none⟩ (.int .i64 y) = Y at *
        have HP3 := hide P3
        have HBY := hide hBY
        have hqf : ∀ W, Below Y.heap.size Y W → Box2 W B7 47 (.int .i64 a2) (.int .i64 b2) := fun W h => Q3.below h
        have HQF := hide hqf
        have HV := hide hv
        clear P3 Q3 hBY hqf hv HPF HP HQ HB hB3 d0 d1 df0 df1 d1'
        go_upto_region 10 with (go_at_call 29; refine (KR.out _ _ _ _ _ HV.out).mono ?_; rintro e w4 ⟨rfl, hB4⟩; obtain ⟨d0, d1, df0, df1⟩ := box2_of (HQF.out _ hB4); have d1' := (HQF.out _ hB4).c1 (.int .i64 x))
        have Q4 := (HQF.out _ hB4).set (.int .i64 x) (.int .i64 y)
        have hl7 : w.heap.size ≤ B7 := by have := HL1.out; have := HL2.out; omega
        have P4 := ((HP3.out.below hB4).other (o := 0) hne.symm (.int .i64 x)).other (o := 1) hne.symm (.int .i64 y)
        have hBZ := ((bseq HBY.out hB4).setCell (p := ⟨B7, 0, none⟩) hl7 (.int .i64 x)).setCell (p := ⟨B7, 1, none⟩) hl7 (.int .i64 y)
        generalize (w4.setCell ⟨B7, 0, none⟩ (.int .i64 x)).setCell ⟨B7, 1, none⟩ (.int .i64 y) = Z at *
        obtain ⟨p0, p1, -, -⟩ := box2_of P4
        obtain ⟨q0, q1, -, -⟩ := box2_of Q4
        have HP4 := hide P4
        have HQ4 := hide Q4
        have HBZ := hide hBZ
        clear P4 Q4 hBZ HQF HP3 HBY hB4 d0 d1 df0 df1 d1' hne hl7 HV
        go_wp2
        go_roundw
        case rel => exact ⟨i + 1, _, _, _, _, by go_num, by omega, by omega, HP4.out, HQ4.out, HBZ.out⟩
        case measure => simp [intOf]; omega
      · have hc2' : (60 : Int) ≤ i := by omega
        have HB := hide hB
        clear hc2 hp hq hB
        go_wp2_with (go_at_call 16; refine (works_any _).mono ?_; rintro e w9 ⟨rfl, hB9⟩)
        go_ret
        exact ⟨rfl, bseq HB.out hB9⟩
    · have hc1' : (s.size : Int) + 2 ≤ i := by omega
      have HB := hide hB
      clear hc1 hp hq hB
      go_wp2_with (go_at_call 16; refine (works_any _).mono ?_; rintro e w9 ⟨rfl, hB9⟩)
      go_ret
      exact ⟨rfl, bseq HB.out hB9⟩
end Go.Proofs.Ytegplcomhahpfaa.linesWheres
