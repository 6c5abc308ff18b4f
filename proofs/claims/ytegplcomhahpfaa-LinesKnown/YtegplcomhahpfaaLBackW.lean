/- The road of LinesBack: it answers true, of every text. -/
import Derived.Test.YtegplcomhahpfaaLBegins
import Derived.Test.YtegplcomhahpfaaLWorks
import Derived.Deep.DeepCutAuto
namespace Go.Proofs.Ytegplcomhahpfaa.linesBack
open Go.RowKit Go.Shelf Go.Proofs.Ytegplcomhahpfaa
set_option linter.unusedVariables false

/-- A place's line and column. -/
def SpotAt (l : List UInt8) (i k c : Nat) : Prop := ∃ x, WhereAt l i k x ∧ x.1 ≤ i ∧ colW l x i = (c : Int)
/-- Where they lead. -/
def PlaceAt (l : List UInt8) (i k c : Nat) : Prop :=
  (∃ n : Nat, placeV l (k : Int) (c : Int) = ((n : Int), 0) ∧ n ≤ i ∧ i ≤ n + 3 ∧ (Bd l i → n = i)) ∨ (placeV l (k : Int) (c : Int) = (0, 6) ∧ 0 < i ∧ i < l.length ∧ by' l (i - 1) = 13 ∧ by' l i = 10)

theorem where_sp (s : ByteArray) (i : Nat) (w : World) (hi : i ≤ s.size) (hs : s.size ≤ 4611686018427387904) :
    Calls Try.prog 26 #[.string s, .int .i64 (i : Int)] w fun e w' => (∃ k c : Nat, (SpotAt (bl s) i k c ∧ PlaceAt (bl s) i k c) ∧ e = .returned (.tuple #[.agg #[.int .i64 (k : Int), .int .i64 (c : Int)], .int .i64 0])) ∧ Below w.heap.size w w' := by
  refine (where_in s i w hi hs).mono ?_
  rintro e w' ⟨⟨k, x, hw, hx, rfl⟩, hB⟩
  obtain ⟨c, hc, hp⟩ := back_main (by rw [bl_len]; exact hi) hw hx
  refine ⟨⟨k, c, ⟨⟨x, hw, hx, ?_⟩, hp⟩, ?_⟩, hB⟩
  · unfold colW; rw [hc]
  · rw [bl_extract, hc]

theorem box2_of {W : World} {B : Nat} {t : TypeId} {a b : Value} (h : Box2 W B t a b) : W.cell? ⟨B, 0, none⟩ = some a ∧ W.cell? ⟨B, 1, none⟩ = some b ∧ W.frozen? ⟨B, 0, none⟩ = false ∧ W.frozen? ⟨B, 1, none⟩ = false :=
  ⟨celOf h 0 _ rfl, celOf h 1 _ rfl, frzOf h 0, frzOf h 1⟩

set_option maxRecDepth 100000 in
set_option maxHeartbeats 4000000 in
theorem walk (s : ByteArray) (w : World) (hs : s.size ≤ 140737488355328) :
    Calls Try.prog 21 #[.string s] w fun e w' => e = .returned (.bool true) ∧ Below w.heap.size w w' := by
  have kw := fun i (hi : i ≤ s.size) w' => where_sp s i w' hi (by omega)
  have kp := fun k c w' => place_any s k c w' (by omega)
  have kb := fun i (hi : i ≤ s.size) w' => lbegins_any s i w' hi (by omega)
  have KW := hide kw
  have KP := hide kp
  have KB := hide kb
  clear kw kp kb
  have hsI : (s.size : Int) ≤ 140737488355328 := by omega
  have HS := hide hs
  clear hs
  go_enter Try.func21, Try.ntmps21
  go_wp2
  have b3 : Box2 (w.alloc (.cells #[.int .i64 0, .int .i64 0] 47)) w.heap.size 47 (.int .i64 0) (.int .i64 0) := heap_alloc_new _ _
  have hB0 : Below w.heap.size w (w.alloc (.cells #[.int .i64 0, .int .i64 0] 47)) := (Below.refl _ w).alloc (Nat.le_refl _) _
  have B3 := hide b3
  have HB0 := hide hB0
  clear b3 hB0
  go_loopw [4] (fun q w' => ∃ i k0 c0 : Nat, q = .int .i64 (i : Int) ∧ i ≤ s.size + 1 ∧ i ≤ 200 ∧ Box2 w' w.heap.size 47 (.int .i64 (k0 : Int)) (.int .i64 (c0 : Int)) ∧ ((k0 = 0 ∧ c0 = 0) ∨ ∃ j, j ≤ i ∧ SpotAt (bl s) j k0 c0) ∧ Below w.heap.size w w') (fun q _ => (201 - intOf q).toNat)
  case atStart => exact ⟨0, 0, 0, rfl, by omega, by omega, B3.out, .inl ⟨rfl, rfl⟩, HB0.out⟩
  case round =>
    clear B3 HB0
    obtain ⟨i, k0, c0, rfl, hi1, hi2, hbx, hsp, hBr⟩ := hrel
    by_cases hc1 : i ≤ s.size
    · by_cases hc2 : i < 200
      · have hc1' : (i : Int) ≤ (s.size : Int) := by omega
        have hc2' : (i : Int) < 200 := by omega
        have HBX := hide hbx
        have HSP := hide hsp
        have HBR := hide hBr
        have HI2 := hide hc2
        clear hbx hsp hBr hi2 hc2 hi1
        go_upto_region 6 with (go_at_call 26; refine (KW.out i hc1 _).mono ?_; rintro e w1 ⟨⟨k, c, hkc, rfl⟩, hB1⟩)
        obtain ⟨hsp1, hpl⟩ := hkc
        have P1 : Box2 (w1.alloc (.cells #[.int .i64 (k : Int), .int .i64 (c : Int)] 47)) w1.heap.size 47 (.int .i64 (k : Int)) (.int .i64 (c : Int)) := heap_alloc_new _ _
        have Q1 : Box2 (w1.alloc (.cells #[.int .i64 (k : Int), .int .i64 (c : Int)] 47)) w.heap.size 47 (.int .i64 (k0 : Int)) (.int .i64 (c0 : Int)) := (HBX.out.below hB1).below ((Below.refl _ _).alloc (Nat.le_refl _) _)
        have hBA : Below w.heap.size w (w1.alloc (.cells #[.int .i64 (k : Int), .int .i64 (c : Int)] 47)) := bseq (bseq HBR.out hB1) ((Below.refl _ _).alloc (Nat.le_refl _) _)
        have hne : w.heap.size < w1.heap.size := by
          have h1 := (Array.getElem?_eq_some_iff.1 (show wr.heap[w.heap.size]? = _ from HBX.out)).1
          have h2 := hB1.size
          omega
        generalize w1.alloc (.cells #[.int .i64 (k : Int), .int .i64 (c : Int)] 47) = A at *
        generalize w1.heap.size = BP at *
        have hmono : k0 < k ∨ (k0 = k ∧ c0 ≤ c) := by
          rcases HSP.out with ⟨h1, h2⟩ | ⟨j, hj, x0, hw0, hx0, hc0⟩
          · omega
          · obtain ⟨x1, hw1, hx1, hc1'⟩ := hsp1
            rcases spot_mono hw0 hw1 hj (by rw [bl_len]; omega) hx0 with h | ⟨h, h2⟩
            · exact .inl h
            · rw [hc0, hc1'] at h2; exact .inr ⟨h, by omega⟩
        -- was := p
        have Q2 : Box2 ((A.setCell ⟨w.heap.size, 0, none⟩ (.int .i64 (k : Int))).setCell ⟨w.heap.size, 1, none⟩ (.int .i64 (c : Int))) w.heap.size 47 (.int .i64 (k : Int)) (.int .i64 (c : Int)) := Q1.set _ _
        have P2 : Box2 ((A.setCell ⟨w.heap.size, 0, none⟩ (.int .i64 (k : Int))).setCell ⟨w.heap.size, 1, none⟩ (.int .i64 (c : Int))) BP 47 (.int .i64 (k : Int)) (.int .i64 (c : Int)) := (P1.other (by omega) _).other (by omega) _
        have hB2 : Below w.heap.size w ((A.setCell ⟨w.heap.size, 0, none⟩ (.int .i64 (k : Int))).setCell ⟨w.heap.size, 1, none⟩ (.int .i64 (c : Int))) := (hBA.setCell (p := ⟨w.heap.size, 0, none⟩) (Nat.le_refl _) _).setCell (p := ⟨w.heap.size, 1, none⟩) (Nat.le_refl _) _
        obtain ⟨q0, q1, qf0, qf1⟩ := box2_of Q1
        obtain ⟨p0, p1, -, -⟩ := box2_of P1
        have q1' := Q1.c1 (.int .i64 (k : Int))
        obtain ⟨r0, r1, -, -⟩ := box2_of P2
        have HQ2 := hide Q2
        have HB2 := hide hB2
        have HSP1 := hide hsp1
        have HPL := hide hpl
        clear P1 Q1 hBA P2 Q2 hB2 hsp1 hpl HBX HSP HBR hB1
        have kpl := fun w' => KP.out (k : Int) (c : Int) w'
        have hstep : ∀ w2, Below ((A.setCell ⟨w.heap.size, 0, none⟩ (.int .i64 (k : Int))).setCell ⟨w.heap.size, 1, none⟩ (.int .i64 (c : Int))).heap.size ((A.setCell ⟨w.heap.size, 0, none⟩ (.int .i64 (k : Int))).setCell ⟨w.heap.size, 1, none⟩ (.int .i64 (c : Int))) w2 → Box2 w2 w.heap.size 47 (.int .i64 (k : Int)) (.int .i64 (c : Int)) ∧ Below w.heap.size w w2 := fun w2 h => ⟨HQ2.out.below h, bseq HB2.out h⟩
        have HSTEP := hide hstep
        clear hstep
        rcases HPL.out with ⟨n, hn, hn1, hn2, hn3⟩ | ⟨hn, h0, hl, hb1, hb2⟩
        · rw [hn] at kpl
          have KPL := hide kpl
          have HN3 := hide hn3
          clear kpl hn hn3
          have hn1' : (n : Int) ≤ (i : Int) := by omega
          have hn2' : (i : Int) - 3 ≤ (n : Int) := by omega
          have kbb := fun w' => KB.out i hc1 w'
          have KBB := hide kbb
          clear kbb
          rcases hmono with hm | ⟨rfl, hm⟩
          · have hm1 : (k0 : Int) < (k : Int) := by omega
            have hm2 : (k0 : Int) ≤ (k : Int) := by omega
            have hm3 : ((k : Int) == (k0 : Int)) = false := by simp; omega
            clear hm
            by_cases hni : n = i
            · have hni' : ((n : Int) != (i : Int)) = false := by simp [hni]
              clear hni
              go_wp2_with (go_at_call 27; refine (KPL.out _).mono ?_; rintro e w2 ⟨rfl, hB2⟩)
              go_roundw
              case rel => exact ⟨i + 1, _, c, by go_num, by omega, by have := HI2.out; omega, (HSTEP.out _ hB2).1, .inr ⟨i, by omega, HSP1.out⟩, (HSTEP.out _ hB2).2⟩
              case measure => have := HI2.out; simp [intOf]; omega
            · have hni' : ((n : Int) != (i : Int)) = true := by simp; omega
              have HNI := hide hni
              clear hni
              go_wp2_with (first | (go_at_call 27; refine (KPL.out _).mono ?_; rintro e w2 ⟨rfl, hB2⟩) | (go_at_call 31; refine (KBB.out _).mono ?_; rintro e w3 ⟨⟨b, rfl, hb⟩, hB3⟩; obtain rfl : b = false := (by cases b with | false => rfl | true => exact absurd (HN3.out (hb rfl)) HNI.out)))
              go_roundw
              case rel => exact ⟨i + 1, _, c, by go_num, by omega, by have := HI2.out; omega, (HSTEP.out _ (bseq hB2 hB3)).1, .inr ⟨i, by omega, HSP1.out⟩, (HSTEP.out _ (bseq hB2 hB3)).2⟩
              case measure => have := HI2.out; simp [intOf]; omega
          · have hm1 : (c0 : Int) ≤ (c : Int) := by omega
            clear hm
            by_cases hni : n = i
            · have hni' : ((n : Int) != (i : Int)) = false := by simp [hni]
              clear hni
              go_wp2_with (go_at_call 27; refine (KPL.out _).mono ?_; rintro e w2 ⟨rfl, hB2⟩)
              go_roundw
              case rel => exact ⟨i + 1, _, c, by go_num, by omega, by have := HI2.out; omega, (HSTEP.out _ hB2).1, .inr ⟨i, by omega, HSP1.out⟩, (HSTEP.out _ hB2).2⟩
              case measure => have := HI2.out; simp [intOf]; omega
            · have hni' : ((n : Int) != (i : Int)) = true := by simp; omega
              have HNI := hide hni
              clear hni
              go_wp2_with (first | (go_at_call 27; refine (KPL.out _).mono ?_; rintro e w2 ⟨rfl, hB2⟩) | (go_at_call 31; refine (KBB.out _).mono ?_; rintro e w3 ⟨⟨b, rfl, hb⟩, hB3⟩; obtain rfl : b = false := (by cases b with | false => rfl | true => exact absurd (HN3.out (hb rfl)) HNI.out)))
              go_roundw
              case rel => exact ⟨i + 1, _, c, by go_num, by omega, by have := HI2.out; omega, (HSTEP.out _ (bseq hB2 hB3)).1, .inr ⟨i, by omega, HSP1.out⟩, (HSTEP.out _ (bseq hB2 hB3)).2⟩
              case measure => have := HI2.out; simp [intOf]; omega
        · rw [hn] at kpl
          have KPL := hide kpl
          clear kpl hn
          rw [bl_len] at hl
          obtain ⟨j, hj⟩ : ∃ j : Nat, i = j + 1 := ⟨i - 1, by omega⟩
          have hij : (i : Int) - 1 = (j : Int) := by omega
          have hji : i - 1 = j := by omega
          rw [hji] at hb1
          have hjl : j < s.size := by omega
          have g1 : by' (bl s) j = (s[j]'hjl).toNat := by'_get s j hjl
          have g2 : by' (bl s) i = (s[i]'hl).toNat := by'_get s i hl
          rw [hb1] at g1
          rw [hb2] at g2
          have hx1 : (s[j]'hjl).toNat = 13 := by omega
          have hx2 : (s[i]'hl).toNat = 10 := by omega
          have hjs : (j : Int) < (s.size : Int) := by omega
          have his : (i : Int) < (s.size : Int) := by omega
          have hi0 : ((i : Int) == 0) = false := by simp; omega
          have HJ := hide hj
          clear hj hji hb1 hb2 g1 g2 h0
          rcases hmono with hm | ⟨rfl, hm⟩
          · have hm1 : (k0 : Int) < (k : Int) := by omega
            have hm2 : (k0 : Int) ≤ (k : Int) := by omega
            have hm3 : ((k : Int) == (k0 : Int)) = false := by simp; omega
            clear hm
            go_wp2_with (go_at_call 27; refine (KPL.out _).mono ?_; rintro e w2 ⟨rfl, hB2⟩)
            go_roundw
            case rel => exact ⟨i + 1, _, c, by go_num, by omega, by have := HI2.out; omega, (HSTEP.out _ hB2).1, .inr ⟨i, by omega, HSP1.out⟩, (HSTEP.out _ hB2).2⟩
            case measure => have := HI2.out; simp [intOf]; omega
          · have hm1 : (c0 : Int) ≤ (c : Int) := by omega
            clear hm
            go_wp2_with (go_at_call 27; refine (KPL.out _).mono ?_; rintro e w2 ⟨rfl, hB2⟩)
            go_roundw
            case rel => exact ⟨i + 1, _, c, by go_num, by omega, by have := HI2.out; omega, (HSTEP.out _ hB2).1, .inr ⟨i, by omega, HSP1.out⟩, (HSTEP.out _ hB2).2⟩
            case measure => have := HI2.out; simp [intOf]; omega
      · have hc2' : (200 : Int) ≤ (i : Int) := by omega
        have hc1' : (i : Int) ≤ (s.size : Int) := by omega
        have HBR := hide hBr
        clear hc2 hbx hsp hBr hi2 hi1
        have kbad := fun w' => where_bad s ((s.size : Int) + 1) w' (by omega)
        have KBAD := hide kbad
        clear kbad
        go_wp2_with (first | (go_at_call 26; refine (KBAD.out _).mono ?_; rintro e w1 ⟨rfl, hB1⟩) | (go_at_call 16; refine (works_any _).mono ?_; rintro e w9 ⟨rfl, hB9⟩))
        go_ret
        exact ⟨rfl, bseq (bseq (bseq HBR.out hB1) ((Below.refl _ _).alloc (Nat.le_refl _) _)) hB9⟩
    · have hc1' : (s.size : Int) < (i : Int) := by omega
      have HBR := hide hBr
      clear hc1 hbx hsp hBr hi2 hi1
      have kbad := fun w' => where_bad s ((s.size : Int) + 1) w' (by omega)
      have KBAD := hide kbad
      clear kbad
      go_wp2_with (first | (go_at_call 26; refine (KBAD.out _).mono ?_; rintro e w1 ⟨rfl, hB1⟩) | (go_at_call 16; refine (works_any _).mono ?_; rintro e w9 ⟨rfl, hB9⟩))
      go_ret
      exact ⟨rfl, bseq (bseq (bseq HBR.out hB1) ((Below.refl _ _).alloc (Nat.le_refl _) _)) hB9⟩
end Go.Proofs.Ytegplcomhahpfaa.linesBack
