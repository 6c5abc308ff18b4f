/- The road of BitsRanges: for every range and every number of units to be told it returns true and writes nothing that was there. -/
import Derived.Test.YtjkglimbmfgllaaUnits
import Derived.Test.YtjkglimbmfgllaaWorks
namespace Go.Proofs.Ytjkglimbmfgllaa.bitsRanges
open Go.RowKit Go.Proofs.Ytjkglimbmfgllaa
set_option linter.unusedVariables false

theorem eq_self (a b : Option Addr) (c d : Nat) (xs : List Int) (n : Nat) (hn : xs.length = n) (w : World) (ha : SlI w a xs) (hb : SlI w b xs) (hm : n ≤ 9223372036854775807) :
    Calls Try.prog 33 #[.slice a n c, .slice b n d] w fun e w' => e = .returned (.bool true) ∧ Below w.heap.size w w' := by
  subst hn
  have h := eqInts_any a b c d xs xs w ha hb hm
  rw [decide_eq_true rfl] at h
  refine h.mono ?_
  rintro e w' ⟨rfl, n, rfl⟩
  exact ⟨rfl, below_drewN (Below.refl _ _) n⟩

/-- What the walk asks of a loop over words, or over lines. -/
def Tells (gf : Nat) (s : Int) (X : List Int) (n q : Nat) (a m : Int) : Prop :=
  (∀ W, Calls Try.prog 32 #[.int .i64 a, .int .i64 m, .int .i64 s, .int .i64 q] W fun e w' => ∃ a1 c1, e = .returned (.slice a1 n c1) ∧ SlI w' a1 X ∧ Below W.heap.size W w') ∧
  (∀ W Ba Bn, Ba < W.heap.size → Bn < W.heap.size → W.cell? ⟨Ba, 0, none⟩ = some (.int .i64 a) → W.cell? ⟨Bn, 0, none⟩ = some (.int .i64 m) →
    Calls Try.prog 34 #[.func (.func gf) #[] #[.pointer (some ⟨Ba, 0, none⟩), .pointer (some ⟨Bn, 0, none⟩)], .int .i64 q] W fun e w' => ∃ a1 c1, e = .returned (.slice a1 n c1) ∧ SlI w' a1 X ∧ Below W.heap.size W w')

theorem tells8 (a m : Int) (q : Nat) (hb1 : -9223372036854775808 ≤ a) (hb2 : a ≤ 9223372036854775807) (hq1 : 1 ≤ q) (hq2 : q ≤ 100000) :
    Tells 47 8 ((unitsV 8 a m).take q) ((unitsV 8 a m).take q).length q a m :=
  ⟨fun W => units8_any a m q W hb1 hb2 hq1 hq2, fun W Ba Bn h1 h2 h3 h4 => (gone_words a m q hq1 hq2 hb1 hb2 Ba Bn W h1 h2 h3 h4).mono (by
    rintro e w' ⟨v, rfl, ho, hB⟩
    obtain ⟨a1, c1, rfl, hs⟩ := sli_of_owns ho
    exact ⟨a1, c1, rfl, hs, hB⟩)⟩
theorem tells64 (a m : Int) (q : Nat) (hb1 : -9223372036854775808 ≤ a) (hb2 : a ≤ 9223372036854775807) (hq1 : 1 ≤ q) (hq2 : q ≤ 100000) :
    Tells 48 64 ((unitsV 64 a m).take q) ((unitsV 64 a m).take q).length q a m :=
  ⟨fun W => units64_any a m q W hb1 hb2 hq1 hq2, fun W Ba Bn h1 h2 h3 h4 => (gone_lines a m q hq1 hq2 hb1 hb2 Ba Bn W h1 h2 h3 h4).mono (by
    rintro e w' ⟨v, rfl, ho, hB⟩
    obtain ⟨a1, c1, rfl, hs⟩ := sli_of_owns ho
    exact ⟨a1, c1, rfl, hs, hB⟩)⟩

/-- The two boxes that an iterator's maker has laid. -/
def Two (W : World) (B : Nat) (a m : Int) : Prop := B + 1 < W.heap.size ∧ W.cell? ⟨B, 0, none⟩ = some (.int .i64 a) ∧ W.cell? ⟨B + 1, 0, none⟩ = some (.int .i64 m)
theorem Two.below {W W' : World} {B : Nat} {a m : Int} (h : Two W B a m) (hb : Below W.heap.size W W') : Two W' B a m :=
  ⟨Nat.lt_of_lt_of_le h.1 hb.size, (hb.cell (p := ⟨B, 0, none⟩) (by have := h.1; show B < _; omega)).trans h.2.1, (hb.cell (p := ⟨B + 1, 0, none⟩) h.1).trans h.2.2⟩
theorem Two.new (W : World) (a m : Int) : Two ((W.alloc (.cells #[.int .i64 a] 3)).alloc (.cells #[.int .i64 m] 3)) W.heap.size a m :=
  ⟨by simp, by simp, by simp⟩
theorem two_below (W : World) (o p : Obj) : Below W.heap.size W ((W.alloc o).alloc p) := ((Below.refl _ W).alloc (Nat.le_refl _) _).alloc (by simp) _

set_option maxHeartbeats 1000000 in
theorem walk (a m few : Int) (w : World) (ha1 : -9223372036854775808 ≤ a) (ha2 : a ≤ 9223372036854775807) (hf1 : 0 ≤ few) (hf2 : few ≤ 255) :
    Calls Try.prog 7 #[.int .i64 a, .int .i64 m, .int .u8 few] w fun e w' => e = .returned (.bool true) ∧ Below w.heap.size w w' := by
  obtain ⟨q, hq⟩ : ∃ q : Nat, (1 : Int) + few = (q : Int) := ⟨(1 + few).toNat, by omega⟩
  have hq1 : 1 ≤ q := by omega
  have hq2 : q ≤ 256 := by omega
  have l8 : ((unitsV 8 a m).take q).length ≤ 256 := Nat.le_trans (List.length_take_le _ _) hq2
  have l64 : ((unitsV 64 a m).take q).length ≤ 256 := Nat.le_trans (List.length_take_le _ _) hq2
  have t8 := tells8 a m q ha1 ha2 hq1 (by omega)
  have t64 := tells64 a m q ha1 ha2 hq1 (by omega)
  generalize (unitsV 8 a m).take q = X8 at *
  generalize (unitsV 64 a m).take q = X64 at *
  generalize hn8 : X8.length = n8 at *
  generalize hn64 : X64.length = n64 at *
  have T8 := hide t8
  have T64 := hide t64
  have N8 := hide hn8
  have N64 := hide hn64
  clear t8 t64 hn8 hn64
  go_enter Try.func7, Try.ntmps7
  go_wp2_with (first | (go_at_call 31; refine (words_in _ _ _).mono ?_; rintro e w1 ⟨rfl, rfl⟩) | (go_at_call 32; refine (T8.out.1 _).mono ?_; rintro e w2 ⟨a8, c8, rfl, hs8, hB2⟩))
  have HT2 := hide ((Two.new w a m).below hB2)
  have HB2 := hide (bseq (two_below w _ _) hB2)
  have HS2 := hide hs8
  clear hs8 hB2
  go_loopw [10] (fun i wr => ∃ t : Nat, t ≤ 2 ∧ i = .int .i64 t ∧ Below w.heap.size w wr ∧ SlI wr a8 X8 ∧ Two wr w.heap.size a m) (fun i _ => 2 - (intOf i).toNat)
  case atStart => exact ⟨0, by omega, rfl, HB2.out, HS2.out, HT2.out⟩
  case round =>
    clear HB2 HS2 HT2
    obtain ⟨t, ht, rfl, hB, hs, h2⟩ := hrel
    have HB := hide hB
    have HS := hide hs
    have H2 := hide h2
    clear hB hs h2
    by_cases hlt : t < 2
    · go_wp2_with (first | (go_at_call 34; refine (T8.out.2 wr w.heap.size (w.heap.size + 1) (by have := H2.out.1; omega) H2.out.1 H2.out.2.1 H2.out.2.2).mono ?_; rintro e w3 ⟨a3, c3, rfl, hs3, hB3⟩) | (go_at_call 33; refine (eq_self a3 a8 c3 c8 X8 n8 N8.out _ hs3 (HS.out.below hB3) (by omega)).mono ?_; rintro e w4 ⟨rfl, hB4⟩))
      have HB4 := hide (bseq (bseq HB.out hB3) hB4)
      have HS4 := hide ((HS.out.below hB3).below hB4)
      have H24 := hide ((H2.out.below hB3).below hB4)
      clear hs3 hB3 hB4
      go_roundw
      case rel => exact ⟨t + 1, by omega, by go_num, HB4.out, HS4.out, H24.out⟩
      case measure => simp [intOf]; omega
    · have ht2 : t = 2 := by omega
      subst ht2
      clear HS H2
      go_wp2_with (first | (go_at_call 35; refine (lines_any _ _ _).mono ?_; rintro e w1 ⟨rfl, rfl⟩) | (go_at_call 32; refine (T64.out.1 _).mono ?_; rintro e w2 ⟨a64, c64, rfl, hs64, hB2⟩))
      have HT2 := hide ((Two.new wr a m).below hB2)
      have HB2 := hide (bseq HB.out (bseq (two_below wr _ _) hB2))
      have HS2 := hide hs64
      clear hs64 hB2 HB
      generalize wr.heap.size = B6 at *
      go_loopw [13] (fun i wq => ∃ t : Nat, t ≤ 2 ∧ i = .int .i64 t ∧ Below w.heap.size w wq ∧ SlI wq a64 X64 ∧ Two wq B6 a m) (fun i _ => 2 - (intOf i).toNat)
      case atStart => exact ⟨0, by omega, rfl, HB2.out, HS2.out, HT2.out⟩
      case round =>
        clear HB2 HS2 HT2
        obtain ⟨t, ht, rfl, hB, hs, h2⟩ := hrel
        have HB := hide hB
        have HS := hide hs
        have H2 := hide h2
        clear hB hs h2
        by_cases hlt : t < 2
        · go_wp2_with (first | (go_at_call 34; refine (T64.out.2 wr B6 (B6 + 1) (by have := H2.out.1; omega) H2.out.1 H2.out.2.1 H2.out.2.2).mono ?_; rintro e w3 ⟨a3, c3, rfl, hs3, hB3⟩) | (go_at_call 33; refine (eq_self a3 a64 c3 c64 X64 n64 N64.out _ hs3 (HS.out.below hB3) (by omega)).mono ?_; rintro e w4 ⟨rfl, hB4⟩))
          have HB4 := hide (bseq (bseq HB.out hB3) hB4)
          have HS4 := hide ((HS.out.below hB3).below hB4)
          have H24 := hide ((H2.out.below hB3).below hB4)
          clear hs3 hB3 hB4
          go_roundw
          case rel => exact ⟨t + 1, by omega, by go_num, HB4.out, HS4.out, H24.out⟩
          case measure => simp [intOf]; omega
        · have ht2 : t = 2 := by omega
          subst ht2
          clear HS H2
          go_wp2_with (go_at_call 16; refine (works_any _).mono ?_; rintro e w5 ⟨rfl, hB5⟩)
          go_ret
          exact ⟨rfl, bseq HB.out hB5⟩
end Go.Proofs.Ytjkglimbmfgllaa.bitsRanges
