/- The road of LinesWhole: the lines of a text put together are the text; each but the last one ends with a line end, and none begins within it. -/
import Derived.Test.YtegplcomhahpfaaLSplit
import Derived.Test.YtegplcomhahpfaaLWorks
import Derived.Deep.DeepCutAuto
namespace Go.Proofs.Ytegplcomhahpfaa.linesWhole
open Go.RowKit Go.Shelf Go.Proofs.Ytegplcomhahpfaa
set_option linter.unusedVariables false

set_option maxRecDepth 100000 in
set_option maxHeartbeats 2000000 in
theorem bare_any (t : ByteArray) (c e : Nat) (last : Bool) (w : World) (h1 : ∀ j, j < c → endW (bl t) j = 0) (h2 : endW (bl t) c = e) (h3 : c + e = t.size) (h4 : last = true ↔ e = 0) (hs : t.size ≤ 1099511627776) :
    Calls Try.prog 17 #[.string t, .bool last] w fun e w' => e = .returned (.bool true) ∧ Below w.heap.size w w' := by
  have ke := fun (n : Nat) w' => end_any t (n : Int) w' (by omega)
  have hev : ∀ n : Nat, n < t.size → endV (bl t) (n : Int) = ((endW (bl t) n : Int), decide (endW (bl t) n ≠ 0)) := fun n hn => by unfold endV; rw [bl_len, if_pos ⟨by omega, by omega⟩, Int.toNat_natCast]
  have KE := hide ke
  have HEV := hide hev
  have H1 := hide h1
  have H2 := hide h2
  have H4 := hide h4
  have hsI : (t.size : Int) ≤ 1099511627776 := by omega
  clear ke hev h1 h2 h4 hs
  go_enter Try.func17, Try.ntmps17
  go_wp2
  go_loopw [5] (fun q w' => ∃ i : Nat, q = .int .i64 (i : Int) ∧ i ≤ c ∧ Below w.heap.size w w') (fun q _ => (t.size - intOf q).toNat)
  case atStart => exact ⟨0, rfl, by omega, Below.refl _ _⟩
  case round =>
    obtain ⟨i, rfl, hic, hB⟩ := hrel
    have HB := hide hB
    clear hB
    by_cases hlt : i < t.size
    · have hltI : (i : Int) < (t.size : Int) := by omega
      have kx := fun w' => KE.out i w'
      rw [HEV.out i hlt] at kx
      by_cases hc : i < c
      · rw [H1.out i hc] at kx
        simp only [ne_eq, not_true_eq_false, decide_false] at kx
        have KX := hide kx
        clear kx
        go_wp2_with (go_at_call 28; refine (KX.out _).mono ?_; rintro e w1 ⟨rfl, hB1⟩)
        go_roundw
        case rel => exact ⟨i + 1, by go_num, by omega, bseq HB.out hB1⟩
        case measure => simp [intOf]; omega
      · have eic : i = c := by omega
        have he0 : e ≠ 0 := by omega
        have hl : last = false := by
          cases last with
          | false => rfl
          | true => exact absurd (H4.out.1 rfl) he0
        subst hl
        rw [eic, H2.out, decide_eq_true he0, ← eic] at kx
        have KX := hide kx
        have hce : (i : Int) + (e : Int) = (t.size : Int) := by omega
        clear kx eic hc hic h3 he0
        go_wp2_with (go_at_call 28; refine (KX.out _).mono ?_; rintro e w1 ⟨rfl, hB1⟩)
        go_ret
        exact ⟨rfl, bseq HB.out hB1⟩
    · have hltI : (t.size : Int) ≤ (i : Int) := by omega
      have hl : last = true := H4.out.2 (by omega)
      subst hl
      go_wp2
      go_ret
      exact ⟨rfl, HB.out⟩

/-- Where a line begins; behind the last one the end. -/
def stL (l : List UInt8) (i : Nat) : Nat := match (Ls l)[i]? with | some x => x.1 | none => l.length
theorem stL_at {l : List UInt8} {i : Nat} {x : Nat × Nat × Nat} (h : (Ls l)[i]? = some x) : stL l i = x.1 := by unfold stL; rw [h]
theorem stL_zero (l : List UInt8) : stL l 0 = 0 := by
  have hp := Ls_pos l
  have h : (Ls l)[0]? = some (Ls l)[0] := List.getElem?_eq_getElem hp
  rw [stL_at h, Ls_first h]
theorem stL_next {l : List UInt8} {i : Nat} {x : Nat × Nat × Nat} (h : (Ls l)[i]? = some x) : stL l (i + 1) = x.2.1 + x.2.2 := by
  rcases Ls_to h with ⟨h1, h2, h3⟩ | ⟨h1, h2, h3⟩
  · unfold stL
    rw [List.getElem?_eq_none (by omega)]
    simp only; omega
  · have h4 : (Ls l)[i + 1]? = some (Ls l)[i + 1] := List.getElem?_eq_getElem h1
    rw [stL_at h4, Ls_next h h4]

theorem Try.noGuardPc : Try.prog.eqGuardType Try.prog.depth 28 = false := by kernel_rfl
theorem Try.noHeldPc : Try.prog.stoodInHeld 28 = false := by kernel_rfl
theorem Try.fieldsPc : Try.prog.underlying 28 = some (.struct (Try.prog.fieldsOf 28)) := by kernel_rfl
theorem eql_piece (a b : Int) (W : World) : (Op.equalIn 10000 28 (.agg #[.int .i64 a, .int .i64 b]) (.agg #[.int .i64 a, .int .i64 b])).run Try.prog W = .ok true W := by
  rw [run_equalIn_agg W 9999 28 _ _ Try.fieldsPc Try.noHeldPc]
  have u3 := Try.underlying3
  have a3 := Try.isAgg3
  unfold Program.fieldsOf
  rw [Try.underlying28]
  simp [Op.eqFields, part, u3, a3, go_sem]

set_option maxRecDepth 100000 in
set_option maxHeartbeats 4000000 in
theorem walk (s : ByteArray) (w : World) (hs : s.size ≤ 1099511627776) :
    Calls Try.prog 4 #[.string s] w fun e w' => e = .returned (.bool true) ∧ Below w.heap.size w w' := by
  have ksp := fun w' => split_any s w' hs
  have kct := fun w' => lcount_any s w' (by omega)
  have kln := fun (n : Nat) w' => lline_any s (n : Int) w' (by omega)
  have hll := Ls_len (bl s)
  have hlp := Ls_pos (bl s)
  rw [bl_len] at hll
  obtain ⟨N, hN⟩ : ∃ N, (Ls (bl s)).length = N := ⟨_, rfl⟩
  rw [hN] at ksp kct hll hlp
  have KSP := hide ksp
  have KCT := hide kct
  have KLN := hide kln
  have HNN := hide hN
  have hNI : (N : Int) ≤ 1099511627777 := by omega
  have hN0 : ((N : Int) == 0) = false := by simp; omega
  have HS := hide hs
  clear ksp kct kln hs hN hll
  go_enter Try.func4, Try.ntmps4
  go_wp2_with (first | (go_at_call 13; refine (KSP.out _).mono ?_; rintro e w1 ⟨⟨g, rfl, hsl⟩, hB1⟩) | (go_at_call 8; refine (KCT.out _).mono ?_; rintro e w2 ⟨rfl, hB2⟩))
  have hsl2 := hsl.below hB2
  have HSL := hide hsl2
  have HBX := hide (bseq hB1 hB2)
  clear hsl hsl2 hB1 hB2 KSP KCT hN0
  go_loopw [4, 5] (fun q4 q5 w' => ∃ i : Nat, q5 = .int .i64 (i : Int) ∧ q4 = .int .i64 (stL (bl s) i : Int) ∧ i ≤ N ∧ SlS w' w.heap.size g ((Ls (bl s)).map (txS s)) ∧ Below w.heap.size w w') (fun _ q5 _ => (N - intOf q5).toNat)
  case atStart => exact ⟨0, rfl, by rw [stL_zero]; rfl, by omega, HSL.out, HBX.out⟩
  case round =>
    clear HSL HBX
    obtain ⟨i, rfl, rfl, hiN, hsl, hB⟩ := hrel
    by_cases hlt : i < N
    · have hltI : (i : Int) < (N : Int) := by omega
      obtain ⟨x, hget⟩ : ∃ x, (Ls (bl s))[i]? = some x := ⟨_, List.getElem?_eq_getElem (by rw [HNN.out]; exact hlt)⟩
      have hm := Ls_mem (List.mem_of_getElem? hget)
      have hst := stL_at hget
      have hsn := stL_next hget
      have hto := Ls_to hget
      have hcell := hsl.2.2 i (txS s x) (by rw [List.getElem?_map, hget]; rfl)
      have kl := fun w' => KLN.out i w'
      have hlv : lineV (bl s) (i : Int) = (((x.1 : Int), (x.2.1 : Int)), (x.2.2 : Int), 0) := by
        unfold lineV
        rw [if_pos ⟨by omega, by rw [HNN.out]; exact hltI⟩, Int.toNat_natCast, hget]
      rw [hlv] at kl
      obtain ⟨a, b, e⟩ := x
      have hle := line_ends hget
      simp only [encLV, txS] at *
      rw [bl_len] at hm hto
      rw [hst]
      obtain ⟨m, hbe⟩ : ∃ m : Nat, b + e = m := ⟨_, rfl⟩
      obtain ⟨t, ht⟩ : ∃ t, s.extract a m = t := ⟨_, rfl⟩
      rw [hbe] at hcell hle hsn hm
      rw [← bl_extract, ht] at hle
      rw [ht] at hcell
      have htz : t.size = m - a := by rw [← ht]; simp; omega
      have hadd : (a : Int) + (t.size : Int) = (m : Int) := by omega
      have hsub : (m : Int) - (e : Int) = (b : Int) := by omega
      have hmz : (m : Int) ≤ (s.size : Int) := by omega
      have ham : (a : Int) ≤ (m : Int) := by omega
      have hmb : (m : Int) ≤ 1099511627776 := by have := HS.out; omega
      have kb := fun w' => bare_any t (b - a) e (((i : Int) + 1) == (N : Int)) w' hle.1 hle.2 (by omega) (by rw [HNN.out] at hto; simp; omega) (by have := HS.out; omega)
      have KB := hide kb
      have KL := hide kl
      have HSN := hide hsn
      have HSLI := hide hsl
      have HB := hide hB
      have HG := hide hsl.2.1
      have heq := fun W => eql_piece (a : Int) (b : Int) W
      have hgd := Try.noGuardPc
      have hwm : IntKind.i64.wrap (m : Int) = (m : Int) := by rw [IntKind.wrap_i64]; omega
      have hwb : IntKind.i64.wrap (b : Int) = (b : Int) := by have := HS.out; rw [IntKind.wrap_i64]; omega
      have hwi : IntKind.i64.wrap ((i : Int) + 1) = (i : Int) + 1 := by rw [IntKind.wrap_i64]; omega
      have hd1 : decide ((s.size : Int) < (m : Int)) = false := by simp; omega
      have hd2 : decide (s.size < m) = false := by simp; omega
      have hiI : (i : Int) + 1 ≤ 1099511627777 := by omega
      have hcg : ∀ W, Below wr.heap.size wr W → W.cell? ⟨g, i, none⟩ = some (.string t) := fun W h => (h.cell (p := ⟨g, i, none⟩) hsl.2.1).trans hcell
      have HCG := hide hcg
      have hbz : (b : Int) ≤ 1099511627776 := by omega
      have haz : (a : Int) ≤ 1099511627776 := by omega
      have htI : (t.size : Int) ≤ 1099511627776 := by omega
      have mk2 : ∀ W, Below wr.heap.size wr W → (Below wr.heap.size wr W ∧ W.cell? ⟨g, i, none⟩ = some (.string t)) := fun W h => ⟨h, hcg W h⟩
      have MK2 := hide mk2
      clear hget hm hst hsn hto kl kb hle hsl hB hcg hlv hbe htz hcell mk2
      by_cases h50 : i ≤ 50
      · have h50' : (i : Int) ≤ 50 := by omega
        clear h50
        go_upto_region 10 with (go_at_call 11; refine (KL.out _).mono ?_; rintro e1 w1 ⟨rfl, hB1⟩)
        have hX : Below wr.heap.size wr (w1.alloc (.cells #[.int .i64 (a : Int), .int .i64 (b : Int)] 28)) := bseq hB1 ((Below.refl _ _).alloc (Nat.le_refl _) _)
        have P1 : Box2 (w1.alloc (.cells #[.int .i64 (a : Int), .int .i64 (b : Int)] 28)) w1.heap.size 28 (.int .i64 (a : Int)) (.int .i64 (b : Int)) := heap_alloc_new _ _
        generalize w1.alloc (.cells #[.int .i64 (a : Int), .int .i64 (b : Int)] 28) = X at *
        generalize w1.heap.size = BP at *
        have mk : ∀ W, Below X.heap.size X W → (Below X.heap.size X W ∧ W.cell? ⟨BP, 0, none⟩ = some (.int .i64 (a : Int)) ∧ W.cell? ⟨BP, 1, none⟩ = some (.int .i64 (b : Int)) ∧ W.cell? ⟨g, i, none⟩ = some (.string t)) := fun W h => ⟨h, celOf (P1.below h) 0 _ rfl, celOf (P1.below h) 1 _ rfl, HCG.out _ (bseq hX h)⟩
        have MK := hide mk
        have HX := hide hX
        clear mk hX P1 hB1
        go_region_held3 (fun W => Below X.heap.size X W ∧ W.cell? ⟨BP, 0, none⟩ = some (.int .i64 (a : Int)) ∧ W.cell? ⟨BP, 1, none⟩ = some (.int .i64 (b : Int)) ∧ W.cell? ⟨g, i, none⟩ = some (.string t)) (exact MK.out _ (Below.refl _ _).drew) (fail)
        have HX2 := hide (HX.out.drew)
        go_upto_region 12 with (fail)
        go_region_held3 (fun W => Below wr.heap.size wr W ∧ W.cell? ⟨g, i, none⟩ = some (.string t)) (first | exact MK2.out _ (HX2.out.drew) | exact MK2.out _ hW2) (first | (go_at_call 17; refine (KB.out _).mono ?_; rintro e3 w3 ⟨rfl, hB3⟩; have hW2 : Below wr.heap.size wr w3 := bseq (HX2.out.drew) hB3))
        have c3 := HCG.out _ hW2
        go_wp2
        go_roundw
        case rel => exact ⟨i + 1, by go_num, by rw [HSN.out], by omega, HSLI.out.below hW2, bseq HB.out hW2⟩
        case measure => simp [intOf]; omega
      · have h50' : decide ((i : Int) ≤ 50) = false := by simp; omega
        clear h50 heq hgd
        go_upto_region 12 with (fail)
        go_region_held3 (fun W => Below wr.heap.size wr W ∧ W.cell? ⟨g, i, none⟩ = some (.string t)) (first | exact MK2.out _ ((Below.refl _ wr).drew) | exact MK2.out _ hW2) (first | (go_at_call 17; refine (KB.out _).mono ?_; rintro e3 w3 ⟨rfl, hB3⟩; have hW2 : Below wr.heap.size wr w3 := bseq ((Below.refl _ wr).drew) hB3))
        have c3 := HCG.out _ hW2
        go_wp2
        go_roundw
        case rel => exact ⟨i + 1, by go_num, by rw [HSN.out], by omega, HSLI.out.below hW2, bseq HB.out hW2⟩
        case measure => simp [intOf]; omega
    · have hltI : (N : Int) ≤ (i : Int) := by omega
      have hiN' : i = N := by omega
      have hst : stL (bl s) i = s.size := by
        unfold stL
        rw [List.getElem?_eq_none (by rw [HNN.out]; omega)]
        simp only; exact bl_len s
      rw [hst]
      have HB := hide hB
      clear hst hiN' hlt hsl hB
      go_wp2_with (go_at_call 16; refine (works_any _).mono ?_; rintro e w9 ⟨rfl, hB9⟩)
      go_ret
      exact ⟨rfl, bseq HB.out hB9⟩
end Go.Proofs.Ytegplcomhahpfaa.linesWhole
