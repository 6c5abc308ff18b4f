/- The road of LinesAll: all lines of a text, counted, told, one by one, as texts; the answers are new memory. -/
import Derived.Test.YtegplcomhahpfaaLTold2
import Derived.Test.YtegplcomhahpfaaLApart
import Derived.Test.YtegplcomhahpfaaLWorks
namespace Go.Proofs.Ytegplcomhahpfaa.linesAll
open Go.RowKit Go.Shelf Go.Proofs.Ytegplcomhahpfaa
set_option linter.unusedVariables false

theorem rall_sl (s : ByteArray) (w' : World) (hs : s.size ≤ 1099511627776) : Calls Try.prog 7 #[.string s] w' fun e w'' => (∃ g cap, e = .returned (.slice (some ⟨g, 0, none⟩) (Ls (bl s)).length cap) ∧ ((Ls (bl s)).length ≤ cap ∧ SlL w'' (some ⟨g, 0, none⟩) (Ls (bl s)))) ∧ Below w'.heap.size w' w'' := by
  refine (rall_any s w' hs).mono ?_
  rintro e w1 ⟨v, rfl, ho, hB1⟩
  have ho2 := ho
  obtain ⟨ad, cap, rfl, hsl⟩ := sll_of_owns ho (Ls_pos _)
  obtain ⟨g, rfl, hg, hcl⟩ := hsl
  refine ⟨⟨g, cap, rfl, ?_, g, rfl, hg, hcl⟩, hB1⟩
  rcases ho2.2 with ⟨h1, _⟩ | ⟨g', cap', cur, h1, _, _, h2, _⟩
  · cases h1
  · cases h1; exact h2

theorem txS_string (s : ByteArray) (xs : List (Nat × Nat × Nat)) (k : Nat) (v : Value) (h : (xs.map (txS s))[k]? = some v) : ∃ t : ByteArray, v = .string t := by
  rw [List.getElem?_map] at h
  cases hx : xs[k]? with
  | none => rw [hx] at h; cases h
  | some x => rw [hx] at h; cases h; exact ⟨_, rfl⟩
theorem eqTexts1 (b1 b2 g1 g2 n c1 c2 : Nat) (xs : List Value) (hn : xs.length = n) (hst : ∀ (k : Nat) (v : Value), xs[k]? = some v → ∃ t : ByteArray, v = .string t) (w : World) (h1 : SlS w b1 g1 xs) (h2 : SlS w b2 g2 xs) (hb : n ≤ 2199023255556) :
    Calls Try.prog 14 #[.slice (some ⟨g1, 0, none⟩) n c1, .slice (some ⟨g2, 0, none⟩) n c2] w fun e w' => e = .returned (.bool true) ∧ Below w.heap.size w w' := linesSeam.eqTexts_yes b1 b2 g1 g2 n c1 c2 xs hn hst w h1 h2 hb
/-- A variable of three cells. -/
def Box3 (W : World) (B : Nat) (t : TypeId) (v0 v1 v2 : Value) : Prop := W.heap[B]? = some (.cells #[v0, v1, v2] t (0, 0))
theorem box3_facts {W : World} {B : Nat} {t : TypeId} {a0 a1 a2 : Value} (h : Box3 W B t a0 a1 a2) (v0 v1 v2 : Value) :
    (W.cell? ⟨B, 0, none⟩ = some a0 ∧ (W.setCell ⟨B, 0, none⟩ v0).cell? ⟨B, 1, none⟩ = some a1 ∧ ((W.setCell ⟨B, 0, none⟩ v0).setCell ⟨B, 1, none⟩ v1).cell? ⟨B, 2, none⟩ = some a2) ∧ (W.frozen? ⟨B, 0, none⟩ = false ∧ W.frozen? ⟨B, 1, none⟩ = false ∧ W.frozen? ⟨B, 2, none⟩ = false) ∧ Box3 (((W.setCell ⟨B, 0, none⟩ v0).setCell ⟨B, 1, none⟩ v1).setCell ⟨B, 2, none⟩ v2) B t v0 v1 v2 := by
  have R1 := heap_setCell_same W B 0 _ _ v0 h
  have R2 := heap_setCell_same _ B 1 _ _ v1 R1
  have R3 := heap_setCell_same _ B 2 _ _ v2 R2
  exact ⟨⟨celOf h 0 _ rfl, celOf R1 1 _ rfl, celOf R2 2 _ rfl⟩, ⟨frzOf h 0, frzOf h 1, frzOf h 2⟩, R3⟩
theorem Box3.cells {W : World} {B : Nat} {t : TypeId} {a0 a1 a2 : Value} (h : Box3 W B t a0 a1 a2) : W.cell? ⟨B, 0, none⟩ = some a0 ∧ W.cell? ⟨B, 1, none⟩ = some a1 ∧ W.cell? ⟨B, 2, none⟩ = some a2 := ⟨celOf h 0 _ rfl, celOf h 1 _ rfl, celOf h 2 _ rfl⟩
theorem bounds_row {W : World} {base g n : Nat} {xs : List Value} (h : RowO W base g n xs) (j : Nat) : MR W g n j 0 := by
  obtain ⟨h1, cur, h2, h3, h4⟩ := h
  exact ⟨cur, h2, h3, fun k hk => by omega⟩

set_option maxRecDepth 100000 in
set_option maxHeartbeats 8000000 in
theorem walk (s : ByteArray) (few : Nat) (w : World) (hs : s.size ≤ 1048576) (hf : few ≤ 255) :
    Calls Try.prog 3 #[.string s, .int .u8 (few : Int)] w fun e w' => e = .returned (.bool true) ∧ Below w.heap.size w w' := by
  have ka := fun w' => rall_sl s w' (by omega)
  have kct := fun w' => lcount_any s w' (by omega)
  have kln := fun (n : Int) w' => lline_any s n w' (by omega)
  have ktd := fun k w' h1 h2 => told_any s k w' (by omega) h1 h2
  have ksp := fun w' => split_own s w' (by omega)
  have krs := fun w' => rsplit_any s w' (by omega)
  have hll := Ls_len (bl s)
  have hlp := Ls_pos (bl s)
  rw [bl_len] at hll
  have KLN := hide kln
  obtain ⟨LL, hLL⟩ : ∃ LL, Ls (bl s) = LL := ⟨_, rfl⟩
  have HLL := hide hLL
  rw [hLL] at ka kct ktd ksp krs hll hlp
  obtain ⟨N, hN⟩ : ∃ N, LL.length = N := ⟨_, rfl⟩
  have HN := hide hN
  rw [hN] at ka kct ktd ksp krs hll hlp
  have KA := hide ka
  have KCT := hide kct
  have KTD := hide ktd
  have KSP := hide ksp
  have KRS := hide krs
  have HNB := hide (show N ≤ 1048577 ∧ 0 < N by omega)
  have hNI : (N : Int) ≤ 1048577 := by omega
  have hN1 : (1 : Int) ≤ (N : Int) := by omega
  have hfI : (few : Int) ≤ 255 := by omega
  clear ka kct kln ktd ksp krs hll hlp hLL hN hs hf
  obtain ⟨r, hr⟩ : ∃ r : Nat, few % (N + 1) = r := ⟨_, rfl⟩
  have hrI : (few : Int) % ((N : Int) + 1) = (r : Int) := by rw [← hr]; simp
  have hr2 : r ≤ N := by have := Nat.mod_lt few (show 0 < N + 1 by omega); omega
  have hr2I : (r : Int) ≤ (N : Int) := by omega
  have HR := hide hr2
  clear hr hr2
  go_enter Try.func3, Try.ntmps3
  go_upto_region 3 with (go_at_call 7; refine (KA.out _).mono ?_; rintro e w1 ⟨⟨g, cap, rfl, hcap, hsl⟩, hB1⟩)
  have HSL := hide hsl
  have HB1 := hide hB1
  obtain ⟨mm, hmm⟩ : ∃ mm, min (1 + r) N = mm := ⟨_, rfl⟩
  have hmin : min (1 + (r : Int)) (N : Int) = (mm : Int) := by omega
  have hmN : mm ≤ N := by omega
  have hmc : (mm : Int) ≤ (cap : Int) := by omega
  have ktd1 := fun w' => KTD.out (N + 9) w' (by omega) (by have := HNB.out; omega)
  rw [show ((N + 9 : Nat) : Int) = (N : Int) + 9 by omega, show min (N + 9) N = N by omega, List.take_of_length_le (by rw [HN.out]; omega)] at ktd1
  have ktd2 := fun w' => KTD.out (1 + r) w' (by omega) (by have := HNB.out; have := HR.out; omega)
  rw [show ((1 + r : Nat) : Int) = 1 + (r : Int) by omega, hmm] at ktd2
  have hlen2 : (LL.take (1 + r)).length = mm := by rw [List.length_take, HN.out]; exact hmm
  have KTD1 := hide ktd1
  have KTD2 := hide ktd2
  have HL2 := hide hlen2
  have hw9 : IntKind.i64.wrap ((N : Int) + 9) = (N : Int) + 9 := by rw [IntKind.wrap_i64]; omega
  have HMN := hide hmN
  clear ktd1 ktd2 hlen2 hmm hsl hB1 hmN KTD KA hrI
  go_region_held3 (fun W => Below w1.heap.size w1 W) (first | exact (Below.refl _ _).drew | exact hW6 | exact hW5 | exact hW4 | exact hW3 | exact hW2) (first | (go_at_call 8; refine (KCT.out _).mono ?_; rintro e2 w2 ⟨rfl, hB2⟩; have hW2 : Below w1.heap.size w1 w2 := bseq (Below.refl _ _).drew hB2) | (go_at_call 10; refine (KTD1.out _).mono ?_; rintro e3 w3 ⟨⟨g1, c1, rfl, hs1⟩, hB3⟩; have hW3 : Below w1.heap.size w1 w3 := bseq hW2 hB3; clear KTD1) | (go_at_call 9; refine (same_yes g1 g N c1 cap LL HN.out _ hs1 (HSL.out.below hW3) (by have := HNB.out; omega)).mono ?_; rintro e4 w4 ⟨rfl, hB4⟩; have hW4 : Below w1.heap.size w1 w4 := bseq hW3 hB4; clear hs1) | (go_at_call 10; refine (KTD2.out _).mono ?_; rintro e5 w5 ⟨⟨g2, c2, rfl, hs2⟩, hB5⟩; have hW5 : Below w1.heap.size w1 w5 := bseq hW4 hB5; clear KTD2) | (go_at_call 9; refine (same_yes g2 g mm c2 cap (LL.take (1 + r)) HL2.out _ hs2 ((HSL.out.below hW5).take _) (by have := HNB.out; have := HMN.out; omega)).mono ?_; rintro e6 w6 ⟨rfl, hB6⟩; have hW6 : Below w1.heap.size w1 w6 := bseq hW5 hB6; clear hs2))
  all_goals
    have HW6 := hide hW6
    clear hW2 hW3 hW4 hW5 hW6 hB2 hB3 hB4 hB5 hB6 hw9 hmin hmc KCT HL2 HMN HR hr2I
    go_wp2
    go_loopw [7] (fun q w' => ∃ i : Int, q = .int .i64 i ∧ -1 ≤ i ∧ i ≤ 200 ∧ Below w1.heap.size w1 w') (fun q _ => (201 - intOf q).toNat)
    case atStart => exact ⟨-1, rfl, by omega, by omega, HW6.out⟩
    case round =>
      clear HW6
      obtain ⟨i, rfl, hi1, hi2, hB⟩ := hrel
      have HB := hide hB
      clear hB
      by_cases hc1 : i ≤ (N : Int)
      · by_cases hc2 : i < 200
        · have kl := fun w' => KLN.out i w'
          have heqP := fun (a b : Int) W => linesWhole.eql_piece a b W
          have hgd := linesWhole.Try.noGuardPc
          by_cases hin : 0 ≤ i ∧ i < (N : Int)
          · obtain ⟨j, rfl⟩ : ∃ j : Nat, i = (j : Int) := ⟨i.toNat, by omega⟩
            have hjN : j < N := by omega
            have hin2 := hin.2
            obtain ⟨x, hx⟩ : ∃ x, LL[j]? = some x := ⟨_, List.getElem?_eq_getElem (by rw [HN.out]; exact hjN)⟩
            have hlv : lineV (bl s) (j : Int) = (((x.1 : Int), (x.2.1 : Int)), (x.2.2 : Int), 0) := by
              unfold lineV
              rw [HLL.out, HN.out, if_pos ⟨by omega, by omega⟩, Int.toNat_natCast, hx]
            rw [hlv] at kl
            obtain ⟨p, q, e⟩ := x
            simp only [encLV] at kl
            have hcl : ∀ W, Below wr.heap.size wr W → W.cell? ⟨g, j * 3, none⟩ = some (.int .i64 (p : Int)) ∧ W.cell? ⟨g, j * 3 + 1, none⟩ = some (.int .i64 (q : Int)) ∧ W.cell? ⟨g, j * 3 + 2, none⟩ = some (.int .i64 (e : Int)) := fun W hW => by
              obtain ⟨g', eg, -, hc⟩ := HSL.out.below (HB.out.trans (hW.mono HB.out.size))
              cases eg
              exact hc j _ hx
            have HCL := hide hcl
            have KL := hide kl
            have heq := fun W => heqP (p : Int) (q : Int) W
            clear hlv kl hcl hx heqP hin
            go_upto_region 12 with (go_at_call 11; refine (KL.out _).mono ?_; rintro e2 w2 ⟨rfl, hB2⟩)
            have P1 : Box2 ((w2.alloc (.cells #[.int .i64 (p : Int), .int .i64 (q : Int)] 28)).alloc (.cells #[.int .i64 0, .int .i64 0, .int .i64 0] 33)) w2.heap.size 28 (.int .i64 (p : Int)) (.int .i64 (q : Int)) := Box2.below ((Below.refl _ _).alloc (Nat.le_refl _) _) (heap_alloc_new _ _)
            have P2 : Box3 ((w2.alloc (.cells #[.int .i64 (p : Int), .int .i64 (q : Int)] 28)).alloc (.cells #[.int .i64 0, .int .i64 0, .int .i64 0] 33)) (w2.heap.size + 1) 33 (.int .i64 0) (.int .i64 0) (.int .i64 0) := heap_alloc2_new _ _ _
            have hBA := bseq (bseq hB2 ((Below.refl _ _).alloc (Nat.le_refl _) (.cells #[.int .i64 (p : Int), .int .i64 (q : Int)] 28))) ((Below.refl _ _).alloc (Nat.le_refl _) (.cells #[.int .i64 0, .int .i64 0, .int .i64 0] 33))
            have hlw := hB2.size
            generalize (w2.alloc (.cells #[.int .i64 (p : Int), .int .i64 (q : Int)] 28)).alloc (.cells #[.int .i64 0, .int .i64 0, .int .i64 0] 33) = A at *
            generalize w2.heap.size = B8 at *
            obtain ⟨⟨c0, c1, c2⟩, ⟨f0, f1, f2⟩, Q2⟩ := box3_facts P2 (.int .i64 (p : Int)) (.int .i64 (q : Int)) (.int .i64 (e : Int))
            obtain ⟨z0, z1, z2⟩ := HCL.out _ hBA
            have Q1 := ((P1.other (b := B8 + 1) (o := 0) (by omega) (.int .i64 (p : Int))).other (b := B8 + 1) (o := 1) (by omega) (.int .i64 (q : Int))).other (b := B8 + 1) (o := 2) (by omega) (.int .i64 (e : Int))
            have hBZ := ((hBA.setCell (p := ⟨B8 + 1, 0, none⟩) (by show wr.heap.size ≤ B8 + 1; omega) (.int .i64 (p : Int))).setCell (p := ⟨B8 + 1, 1, none⟩) (by show wr.heap.size ≤ B8 + 1; omega) (.int .i64 (q : Int))).setCell (p := ⟨B8 + 1, 2, none⟩) (by show wr.heap.size ≤ B8 + 1; omega) (.int .i64 (e : Int))
            have HQ1 := hide Q1
            have HQ2 := hide Q2
            have HBZ := hide hBZ
            clear P1 P2 hBA Q1 Q2 hBZ hB2 hlw HCL KL
            go_upto_region 14 with (fail)
            obtain ⟨d0, d1, -, -⟩ := box2_of HQ1.out
            obtain ⟨y0, y1, y2⟩ := HQ2.out.cells
            generalize ((A.setCell ⟨B8 + 1, 0, none⟩ (.int .i64 (p : Int))).setCell ⟨B8 + 1, 1, none⟩ (.int .i64 (q : Int))).setCell ⟨B8 + 1, 2, none⟩ (.int .i64 (e : Int)) = Z at *
            clear HQ1 HQ2 c0 c1 c2 f0 f1 f2 z0 z1 z2
            go_wp2
            go_roundw
            case rel => exact ⟨(j : Int) + 1, by go_num, by omega, by omega, HB.out.trans (HBZ.out.mono HB.out.size)⟩
            case measure => simp [intOf]; omega
          · have hlv : lineV (bl s) i = ((0, 0), 0, 6) := by
              unfold lineV
              rw [HLL.out, HN.out, if_neg hin]
            rw [hlv] at kl
            simp only [encLV] at kl
            have KL := hide kl
            have heq := fun W => heqP 0 0 W
            have hd : i = -1 ∨ i = (N : Int) := by omega
            clear hlv kl heqP hin
            rcases hd with h | h
            · have h' : i < 0 := by omega
              clear h
              go_upto_region 14 with (go_at_call 11; refine (KL.out _).mono ?_; rintro e2 w2 ⟨rfl, hB2⟩)
              have P1 : Box2 ((w2.alloc (.cells #[.int .i64 0, .int .i64 0] 28)).alloc (.cells #[.int .i64 0, .int .i64 0, .int .i64 0] 33)) w2.heap.size 28 (.int .i64 0) (.int .i64 0) := Box2.below ((Below.refl _ _).alloc (Nat.le_refl _) _) (heap_alloc_new _ _)
              have P2 : Box3 ((w2.alloc (.cells #[.int .i64 0, .int .i64 0] 28)).alloc (.cells #[.int .i64 0, .int .i64 0, .int .i64 0] 33)) (w2.heap.size + 1) 33 (.int .i64 0) (.int .i64 0) (.int .i64 0) := heap_alloc2_new _ _ _
              have hBA := bseq (bseq hB2 ((Below.refl _ _).alloc (Nat.le_refl _) (.cells #[.int .i64 0, .int .i64 0] 28))) ((Below.refl _ _).alloc (Nat.le_refl _) (.cells #[.int .i64 0, .int .i64 0, .int .i64 0] 33))
              generalize (w2.alloc (.cells #[.int .i64 0, .int .i64 0] 28)).alloc (.cells #[.int .i64 0, .int .i64 0, .int .i64 0] 33) = A at *
              generalize w2.heap.size = B8 at *
              obtain ⟨d0, d1, -, -⟩ := box2_of P1
              obtain ⟨y0, y1, y2⟩ := P2.cells
              have HBA := hide hBA
              clear P1 P2 hBA hB2 KL
              go_wp2
              go_roundw
              case rel => exact ⟨i + 1, by go_num, by omega, by omega, HB.out.trans (HBA.out.mono HB.out.size)⟩
              case measure => simp [intOf]; omega
            · have h1 : 0 ≤ i := by omega
              have h2 : (N : Int) ≤ i := by omega
              clear h
              go_upto_region 14 with (go_at_call 11; refine (KL.out _).mono ?_; rintro e2 w2 ⟨rfl, hB2⟩)
              have P1 : Box2 ((w2.alloc (.cells #[.int .i64 0, .int .i64 0] 28)).alloc (.cells #[.int .i64 0, .int .i64 0, .int .i64 0] 33)) w2.heap.size 28 (.int .i64 0) (.int .i64 0) := Box2.below ((Below.refl _ _).alloc (Nat.le_refl _) _) (heap_alloc_new _ _)
              have P2 : Box3 ((w2.alloc (.cells #[.int .i64 0, .int .i64 0] 28)).alloc (.cells #[.int .i64 0, .int .i64 0, .int .i64 0] 33)) (w2.heap.size + 1) 33 (.int .i64 0) (.int .i64 0) (.int .i64 0) := heap_alloc2_new _ _ _
              have hBA := bseq (bseq hB2 ((Below.refl _ _).alloc (Nat.le_refl _) (.cells #[.int .i64 0, .int .i64 0] 28))) ((Below.refl _ _).alloc (Nat.le_refl _) (.cells #[.int .i64 0, .int .i64 0, .int .i64 0] 33))
              generalize (w2.alloc (.cells #[.int .i64 0, .int .i64 0] 28)).alloc (.cells #[.int .i64 0, .int .i64 0, .int .i64 0] 33) = A at *
              generalize w2.heap.size = B8 at *
              obtain ⟨d0, d1, -, -⟩ := box2_of P1
              obtain ⟨y0, y1, y2⟩ := P2.cells
              have HBA := hide hBA
              clear P1 P2 hBA hB2 KL
              go_wp2
              go_roundw
              case rel => exact ⟨i + 1, by go_num, by omega, by omega, HB.out.trans (HBA.out.mono HB.out.size)⟩
              case measure => simp [intOf]; omega
        · have hc2' : (200 : Int) ≤ i := by omega
          clear hc2
          have M1 := hide trivial
          go_upto_region 18 with (first | (go_at_call 12; refine (KRS.out _).mono ?_; rintro e3 w3 ⟨⟨g3, c3, rfl, hs3⟩, hB3⟩) | (go_at_call 13; clear M1; refine (KSP.out _).mono ?_; rintro e4 w4 ⟨⟨g4, rfl, hr4⟩, hB4⟩) | (go_at_call 13; refine (KSP.out _).mono ?_; rintro e5 w5 ⟨⟨g5, rfl, hr5⟩, hB5⟩))
          have hr45 := hr4.below hB5
          have hg45 : g4 ≠ g5 := by
            have h1 := hr4.sls.2.1
            have h2 := hr5.1
            omega
          have hs35 := (hs3.below hB4).below hB5
          have hBw : Below w.heap.size w wr := HB1.out.trans (HB.out.mono HB1.out.size)
          have hB5w : Below w.heap.size w w5 := bseq (bseq (bseq hBw hB3) hB4) hB5
          have hl4 : w.heap.size ≤ g4 := by have := hr4.1; have := hB3.size; have := hBw.size; omega
          have hl5 : w.heap.size ≤ g5 := by have := hr5.1; have := hB3.size; have := hB4.size; have := hBw.size; omega
          have HR4 := hide hr45
          have HR5 := hide hr5
          have HS3 := hide hs35
          have HB5 := hide hB5w
          have H45 := hide hg45
          have HL4 := hide hl4
          have HL5 := hide hl5
          clear hr45 hr4 hr5 hs35 hs3 hB5w hBw hB3 hB4 hB5 hg45 hl4 hl5 KRS KSP
          have kq1 := eqTexts1 _ _ g4 g3 N N c3 (LL.map (txS s)) (by rw [List.length_map]; exact HN.out) (txS_string s LL) w5 HR4.out.sls HS3.out (by have := HNB.out; omega)
          have KQ1 := hide kq1
          have kq2 := fun w6 (h : Below w5.heap.size w5 w6) => eqTexts1 _ _ g5 g3 N N c3 (LL.map (txS s)) (by rw [List.length_map]; exact HN.out) (txS_string s LL) w6 (HR5.out.below h).sls (HS3.out.below h) (by have := HNB.out; omega)
          have KQ2 := hide kq2
          have kap := fun w7 (h : Below w5.heap.size w5 w7) => apart_any w7.heap.size N w.heap.size (fun j => if j = 0 then g4 else g5) (w7.alloc (.cells #[.slice (some ⟨g4, 0, none⟩) N N, .slice (some ⟨g5, 0, none⟩) N N] 34)) (heap_alloc_new _ _) (fun j hj => by
              have hA : Below w5.heap.size w5 (w7.alloc (.cells #[.slice (some ⟨g4, 0, none⟩) N N, .slice (some ⟨g5, 0, none⟩) N N] 34)) := h.alloc h.size _
              rcases (by omega : j = 0 ∨ j = 1) with rfl | rfl
              · exact ⟨bounds_row (HR4.out.below hA) _, HL4.out⟩
              · exact ⟨bounds_row (HR5.out.below hA) _, HL5.out⟩) H45.out (by have := h.size; have := HB5.out.size; simp; omega) (by have := HNB.out; omega)
          have KAP := hide kap
          clear kq1 kq2 kap
          go_wp2_with (first | (go_at_call 14; refine KQ1.out.mono ?_; rintro e6 w6 ⟨rfl, hB6⟩; clear KQ1) | (go_at_call 14; refine (KQ2.out _ hB6).mono ?_; rintro e7 w7 ⟨rfl, hB7⟩; clear KQ2) | (go_at_call 15; refine (KAP.out _ (bseq hB6 hB7)).mono ?_; rintro e8 w8 ⟨rfl, hB8⟩) | (go_at_call 16; refine (works_any _).mono ?_; rintro e9 w9 ⟨rfl, hB9⟩))
          go_ret
          refine ⟨rfl, ?_⟩
          have hA : Below w.heap.size w (w7.alloc (.cells #[.slice (some ⟨g4, 0, none⟩) N N, .slice (some ⟨g5, 0, none⟩) N N] 34)) := bseq (bseq (bseq HB5.out hB6) hB7) ((Below.refl _ _).alloc (Nat.le_refl _) _)
          exact bseq (hA.trans hB8) hB9
      · have hc1' : (N : Int) < i := by omega
        clear hc1
        have M1 := hide trivial
        go_upto_region 18 with (first | (go_at_call 12; refine (KRS.out _).mono ?_; rintro e3 w3 ⟨⟨g3, c3, rfl, hs3⟩, hB3⟩) | (go_at_call 13; clear M1; refine (KSP.out _).mono ?_; rintro e4 w4 ⟨⟨g4, rfl, hr4⟩, hB4⟩) | (go_at_call 13; refine (KSP.out _).mono ?_; rintro e5 w5 ⟨⟨g5, rfl, hr5⟩, hB5⟩))
        have hr45 := hr4.below hB5
        have hg45 : g4 ≠ g5 := by
          have h1 := hr4.sls.2.1
          have h2 := hr5.1
          omega
        have hs35 := (hs3.below hB4).below hB5
        have hBw : Below w.heap.size w wr := HB1.out.trans (HB.out.mono HB1.out.size)
        have hB5w : Below w.heap.size w w5 := bseq (bseq (bseq hBw hB3) hB4) hB5
        have hl4 : w.heap.size ≤ g4 := by have := hr4.1; have := hB3.size; have := hBw.size; omega
        have hl5 : w.heap.size ≤ g5 := by have := hr5.1; have := hB3.size; have := hB4.size; have := hBw.size; omega
        have HR4 := hide hr45
        have HR5 := hide hr5
        have HS3 := hide hs35
        have HB5 := hide hB5w
        have H45 := hide hg45
        have HL4 := hide hl4
        have HL5 := hide hl5
        clear hr45 hr4 hr5 hs35 hs3 hB5w hBw hB3 hB4 hB5 hg45 hl4 hl5 KRS KSP
        have kq1 := eqTexts1 _ _ g4 g3 N N c3 (LL.map (txS s)) (by rw [List.length_map]; exact HN.out) (txS_string s LL) w5 HR4.out.sls HS3.out (by have := HNB.out; omega)
        have KQ1 := hide kq1
        have kq2 := fun w6 (h : Below w5.heap.size w5 w6) => eqTexts1 _ _ g5 g3 N N c3 (LL.map (txS s)) (by rw [List.length_map]; exact HN.out) (txS_string s LL) w6 (HR5.out.below h).sls (HS3.out.below h) (by have := HNB.out; omega)
        have KQ2 := hide kq2
        have kap := fun w7 (h : Below w5.heap.size w5 w7) => apart_any w7.heap.size N w.heap.size (fun j => if j = 0 then g4 else g5) (w7.alloc (.cells #[.slice (some ⟨g4, 0, none⟩) N N, .slice (some ⟨g5, 0, none⟩) N N] 34)) (heap_alloc_new _ _) (fun j hj => by
            have hA : Below w5.heap.size w5 (w7.alloc (.cells #[.slice (some ⟨g4, 0, none⟩) N N, .slice (some ⟨g5, 0, none⟩) N N] 34)) := h.alloc h.size _
            rcases (by omega : j = 0 ∨ j = 1) with rfl | rfl
            · exact ⟨bounds_row (HR4.out.below hA) _, HL4.out⟩
            · exact ⟨bounds_row (HR5.out.below hA) _, HL5.out⟩) H45.out (by have := h.size; have := HB5.out.size; simp; omega) (by have := HNB.out; omega)
        have KAP := hide kap
        clear kq1 kq2 kap
        go_wp2_with (first | (go_at_call 14; refine KQ1.out.mono ?_; rintro e6 w6 ⟨rfl, hB6⟩; clear KQ1) | (go_at_call 14; refine (KQ2.out _ hB6).mono ?_; rintro e7 w7 ⟨rfl, hB7⟩; clear KQ2) | (go_at_call 15; refine (KAP.out _ (bseq hB6 hB7)).mono ?_; rintro e8 w8 ⟨rfl, hB8⟩) | (go_at_call 16; refine (works_any _).mono ?_; rintro e9 w9 ⟨rfl, hB9⟩))
        go_ret
        refine ⟨rfl, ?_⟩
        have hA : Below w.heap.size w (w7.alloc (.cells #[.slice (some ⟨g4, 0, none⟩) N N, .slice (some ⟨g5, 0, none⟩) N N] 34)) := bseq (bseq (bseq HB5.out hB6) hB7) ((Below.refl _ _).alloc (Nat.le_refl _) _)
        exact bseq (hA.trans hB8) hB9
end Go.Proofs.Ytegplcomhahpfaa.linesAll
