/- What the law's own same answers of two rows of the same lines; what the document's Split answers. -/
import Derived.Test.YtegplcomhahpfaaLTold
import Derived.Test.YtegplcomhahpfaaLWholeW
namespace Go.Proofs.Ytegplcomhahpfaa
open Go.RowKit Go.Shelf
set_option linter.unusedVariables false

theorem Try.noGuardLn : Try.prog.eqGuardType Try.prog.depth 33 = false := by kernel_rfl
theorem Try.noHeldLn : Try.prog.stoodInHeld 33 = false := by kernel_rfl
theorem Try.fieldsLn : Try.prog.underlying 33 = some (.struct (Try.prog.fieldsOf 33)) := by kernel_rfl
theorem eql_piece9 (a b : Int) (W : World) : (Op.equalIn 9999 28 (.agg #[.int .i64 a, .int .i64 b]) (.agg #[.int .i64 a, .int .i64 b])).run Try.prog W = .ok true W := by
  rw [run_equalIn_agg W 9998 28 _ _ linesWhole.Try.fieldsPc linesWhole.Try.noHeldPc]
  have u3 := Try.underlying3
  have a3 := Try.isAgg3
  unfold Program.fieldsOf
  rw [Try.underlying28]
  simp [Op.eqFields, part, u3, a3, go_sem]
theorem eql_line (a b c : Int) (W : World) : (Op.equalIn 10000 33 (.agg #[.int .i64 a, .int .i64 b, .int .i64 c]) (.agg #[.int .i64 a, .int .i64 b, .int .i64 c])).run Try.prog W = .ok true W := by
  rw [run_equalIn_agg W 9999 33 _ _ Try.fieldsLn Try.noHeldLn]
  have u3 := Try.underlying3
  have a3 := Try.isAgg3
  have h9 := fun W => eql_piece9 a b W
  unfold Program.fieldsOf
  rw [Try.underlying33]
  simp [Op.eqFields, part, u3, a3, go_sem, h9]
theorem SlL.take {W : World} {a : Option Addr} {xs : List (Nat × Nat × Nat)} (h : SlL W a xs) (k : Nat) : SlL W a (xs.take k) := by
  obtain ⟨g, e, hg, hc⟩ := h
  refine ⟨g, e, hg, fun j x hx => hc j x ?_⟩
  rw [List.getElem?_take] at hx
  split at hx
  · exact hx
  · cases hx

set_option maxRecDepth 100000 in
set_option maxHeartbeats 2000000 in
theorem same_yes (g1 g2 n c1 c2 : Nat) (xs : List (Nat × Nat × Nat)) (hn : xs.length = n) (w : World) (h1 : SlL w (some ⟨g1, 0, none⟩) xs) (h2 : SlL w (some ⟨g2, 0, none⟩) xs) (hb : n ≤ 2199023255556) :
    Calls Try.prog 9 #[.slice (some ⟨g1, 0, none⟩) n c1, .slice (some ⟨g2, 0, none⟩) n c2] w fun e w' => e = .returned (.bool true) ∧ Below w.heap.size w w' := by
  have hnI : (n : Int) ≤ 2199023255556 := by omega
  have HN := hide hn
  have H1 := hide h1
  have H2 := hide h2
  clear hn h1 h2 hb
  go_enter Try.func9, Try.ntmps9
  go_wp2
  go_loopw [5] (fun q w' => ∃ i : Nat, q = .int .i64 (i : Int) ∧ i ≤ n ∧ Below w.heap.size w w') (fun q _ => (n - intOf q).toNat)
  case atStart => exact ⟨0, rfl, by omega, Below.refl _ _⟩
  case round =>
    obtain ⟨i, rfl, hin, hB⟩ := hrel
    by_cases hlt : i < n
    · have hltI : (i : Int) < (n : Int) := by omega
      obtain ⟨v, hv⟩ : ∃ v, xs[i]? = some v := ⟨_, List.getElem?_eq_getElem (by rw [HN.out]; exact hlt)⟩
      obtain ⟨p, q, e⟩ := v
      obtain ⟨g, eg, -, hc1⟩ := H1.out.below hB
      cases eg
      obtain ⟨g, eg, -, hc2⟩ := H2.out.below hB
      cases eg
      obtain ⟨z0, z1, z2⟩ := hc1 i _ hv
      obtain ⟨y0, y1, y2⟩ := hc2 i _ hv
      simp only at z0 z1 z2 y0 y1 y2
      have HB := hide hB
      clear hB hv hc1 hc2
      have heq := fun W => eql_line (p : Int) (q : Int) (e : Int) W
      have hgd := Try.noGuardLn
      have mk : ∀ W, Below wr.heap.size wr W → (Below wr.heap.size wr W ∧ W.cell? ⟨g1, i * 3, none⟩ = some (.int .i64 (p : Int)) ∧ W.cell? ⟨g1, i * 3 + 1, none⟩ = some (.int .i64 (q : Int)) ∧ W.cell? ⟨g1, i * 3 + 2, none⟩ = some (.int .i64 (e : Int)) ∧ W.cell? ⟨g2, i * 3, none⟩ = some (.int .i64 (p : Int)) ∧ W.cell? ⟨g2, i * 3 + 1, none⟩ = some (.int .i64 (q : Int)) ∧ W.cell? ⟨g2, i * 3 + 2, none⟩ = some (.int .i64 (e : Int))) := fun W h => by
        have l1 : g1 < wr.heap.size := World.block_lt_of_cell? _ _ z0
        have l2 : g2 < wr.heap.size := World.block_lt_of_cell? _ _ y0
        exact ⟨h, (h.cell (p := ⟨g1, _, none⟩) l1).trans z0, (h.cell (p := ⟨g1, _, none⟩) l1).trans z1, (h.cell (p := ⟨g1, _, none⟩) l1).trans z2, (h.cell (p := ⟨g2, _, none⟩) l2).trans y0, (h.cell (p := ⟨g2, _, none⟩) l2).trans y1, (h.cell (p := ⟨g2, _, none⟩) l2).trans y2⟩
      have MK := hide mk
      clear mk
      go_upto_region 6 with (fail)
      go_region_held3 (fun W => Below wr.heap.size wr W ∧ W.cell? ⟨g1, i * 3, none⟩ = some (.int .i64 (p : Int)) ∧ W.cell? ⟨g1, i * 3 + 1, none⟩ = some (.int .i64 (q : Int)) ∧ W.cell? ⟨g1, i * 3 + 2, none⟩ = some (.int .i64 (e : Int)) ∧ W.cell? ⟨g2, i * 3, none⟩ = some (.int .i64 (p : Int)) ∧ W.cell? ⟨g2, i * 3 + 1, none⟩ = some (.int .i64 (q : Int)) ∧ W.cell? ⟨g2, i * 3 + 2, none⟩ = some (.int .i64 (e : Int))) (exact MK.out _ (Below.refl _ _).drew) (fail)
      go_wp2
      go_roundw
      case rel => exact ⟨i + 1, by go_num, by omega, HB.out.drew⟩
      case measure => simp [intOf]; omega
    · have hltI : (n : Int) ≤ (i : Int) := by omega
      have HB := hide hB
      clear hB
      go_wp2
      go_ret
      exact ⟨rfl, HB.out⟩

set_option maxRecDepth 100000 in
set_option maxHeartbeats 4000000 in
theorem rsplit_any (s : ByteArray) (w : World) (hs : s.size ≤ 1099511627776) :
    Calls Try.prog 12 #[.string s] w fun e w' => (∃ g cap, e = .returned (.slice (some ⟨g, 0, none⟩) (Ls (bl s)).length cap) ∧ SlS w' w.heap.size g ((Ls (bl s)).map (txS s))) ∧ Below w.heap.size w w' := by
  have hlp := Ls_pos (bl s)
  have hll := Ls_len (bl s)
  rw [bl_len] at hll
  obtain ⟨i0, hi, hz0, hz1, hz2⟩ := info_parts Try.infoS
  have hka : ∀ w', Calls Try.prog 7 #[.string s] w' fun e w'' => (∃ g cap, e = .returned (.slice (some ⟨g, 0, none⟩) (Ls (bl s)).length cap) ∧ SlL w'' (some ⟨g, 0, none⟩) (Ls (bl s))) ∧ Below w'.heap.size w' w'' := by
    intro w'
    refine (rall_any s w' hs).mono ?_
    rintro e w1 ⟨v, rfl, ho, hB1⟩
    obtain ⟨ad, cap, rfl, hsl⟩ := sll_of_owns ho hlp
    obtain ⟨g, rfl, hg, hcl⟩ := hsl
    exact ⟨⟨g, cap, rfl, g, rfl, hg, hcl⟩, hB1⟩
  have hmem := fun k x (h : (Ls (bl s))[k]? = some x) => Ls_mem (List.mem_of_getElem? h)
  rw [bl_len] at hmem
  obtain ⟨LL, hLL⟩ : ∃ LL, Ls (bl s) = LL := ⟨_, rfl⟩
  rw [hLL] at hka hlp hll hmem ⊢
  obtain ⟨N, hN⟩ : ∃ N, LL.length = N := ⟨_, rfl⟩
  rw [hN] at hka hlp hll ⊢
  have KA := hide hka
  have HN := hide hN
  have HMEM := hide hmem
  have HS := hide hs
  have hNI : (N : Int) ≤ 1099511627777 := by omega
  have HNB := hide (show N ≤ 1099511627777 by omega)
  have HLP := hide hlp
  clear hka hN hmem hLL hs hll hlp
  go_enter Try.func12, Try.ntmps12
  go_wp2_with (go_at_call 7; refine (KA.out _).mono ?_; rintro e w1 ⟨⟨g, cap, rfl, hsl⟩, hB1⟩)
  have HSL := hide hsl
  have HB1 := hide hB1
  clear hsl hB1 KA
  go_loopw [4, 5] (fun v q w' => ∃ i : Nat, q = .int .i64 (i : Int) ∧ i ≤ N ∧ World.ownsRow w' w1.heap.size 9 1 v i ((LL.take i).map (txS s)) ∧ Below w1.heap.size w1 w') (fun _ q _ => (N - intOf q).toNat)
  case atStart => exact ⟨0, rfl, by omega, World.ownsRow_nil _ _ _ _, Below.refl _ _⟩
  case round =>
    obtain ⟨i, rfl, hiN, hrow, hB⟩ := hrel
    by_cases hlt : i < N
    · have hltI : (i : Int) < (N : Int) := by omega
      obtain ⟨x, hx⟩ : ∃ x, LL[i]? = some x := ⟨_, List.getElem?_eq_getElem (by rw [HN.out]; exact hlt)⟩
      have hm := HMEM.out i x hx
      have htk := take_snoc hx
      obtain ⟨p, q, e⟩ := x
      simp only at hm
      obtain ⟨m, hqe⟩ : ∃ m : Nat, q + e = m := ⟨_, rfl⟩
      have hadd : (q : Int) + (e : Int) = (m : Int) := by omega
      have hpm : (p : Int) ≤ (m : Int) := by omega
      have hms : (m : Int) ≤ (s.size : Int) := by omega
      have hwm : IntKind.i64.wrap (m : Int) = (m : Int) := by have := HS.out; rw [IntKind.wrap_i64]; omega
      obtain ⟨t, ht⟩ : ∃ t, s.extract p m = t := ⟨_, rfl⟩
      have htx : txS s (p, q, e) = .string t := by unfold txS; simp only; rw [hqe, ht]
      have hcl : ∀ W, Below w1.heap.size w1 W → W.cell? ⟨g, i * 3, none⟩ = some (.int .i64 (p : Int)) ∧ W.cell? ⟨g, i * 3 + 1, none⟩ = some (.int .i64 (q : Int)) ∧ W.cell? ⟨g, i * 3 + 2, none⟩ = some (.int .i64 (e : Int)) := fun W h => by
        obtain ⟨g', eg, -, hc⟩ := HSL.out.below h
        cases eg
        exact hc i _ hx
      have mk : ∀ W, Below w1.heap.size w1 W → (Below w1.heap.size w1 W ∧ W.cell? ⟨g, i * 3, none⟩ = some (.int .i64 (p : Int)) ∧ W.cell? ⟨g, i * 3 + 1, none⟩ = some (.int .i64 (q : Int)) ∧ W.cell? ⟨g, i * 3 + 2, none⟩ = some (.int .i64 (e : Int))) := fun W h => ⟨h, hcl W h⟩
      have MK := hide mk
      have HROW := hide hrow
      have HTX := hide htx
      have HTK := hide htk
      have hB0 : Below w1.heap.size w1 wr.drew := hB.drew
      have hBA : Below w1.heap.size w1 (wr.drew.alloc (.cells #[.string t] 9)) := hB0.alloc hB0.size _
      have HB0 := hide hB0
      have HBA := hide hBA
      clear hx hm htk hqe htx hcl mk hrow hB hB0 hBA
      go_upto_region 6 with (fail)
      go_region_held3 (fun W => Below w1.heap.size w1 W ∧ W.cell? ⟨g, i * 3, none⟩ = some (.int .i64 (p : Int)) ∧ W.cell? ⟨g, i * 3 + 1, none⟩ = some (.int .i64 (q : Int)) ∧ W.cell? ⟨g, i * 3 + 2, none⟩ = some (.int .i64 (e : Int))) (first | exact MK.out _ HB0.out | exact MK.out _ HBA.out | exact MK.out _ hB4) (first | (rw [if_pos (by kernel_rfl)]; refine wp_append_own _ (.tmp 14) (.tmp 35) 34 rfl w1.heap.size 9 i0 (.string ⟨#[]⟩) 1 16 Try.underlying34 hi hz0 hz1 hz2 rfl (by decide) _ i ((LL.take i).map (txS s)) rfl (ownsRow_belowS HROW.out (bseq (Below.refl _ wr).drew ((Below.refl _ _).alloc (Nat.le_refl _) _))) ⟨wr.heap.size, 0, none⟩ 1 1 [.string t] rfl rfl (cell_one_new _ _ _) (by simp [Value.oneCell']) (by simp only [maxLen]; have := HNB.out; omega) (by have := HNB.out; omega) HBA.out.size ?_; intro v' w4 hown' hgrow' _; have hB4 : Below w1.heap.size w1 w4 := HBA.out.grown hgrow' HBA.out.size (fun k hk => (HROW.out.lt k hk).1)))
      go_wp2
      go_roundw
      case rel => exact ⟨i + 1, by go_num, by omega, by rw [← HTK.out, List.map_append, List.map_cons, List.map_nil, HTX.out]; exact hown', hB4⟩
      case measure => simp [intOf]; omega
    · have hltI : (N : Int) ≤ (i : Int) := by omega
      have eN : i = N := by omega
      rw [eN, List.take_of_length_le (by rw [HN.out]; exact Nat.le_refl _)] at hrow

      have hv : ∃ g' cap', u4 = .slice (some ⟨g', 0, none⟩) N cap' := by
        rcases hrow.2 with ⟨_, h0⟩ | ⟨g', cap', cur, h1, _⟩
        · have := HLP.out; omega
        · exact ⟨g', cap', h1⟩
      obtain ⟨g', cap', rfl⟩ := hv
      have hsl := SlS.of_row (base' := w.heap.size) hrow HB1.out.size
      have HSS := hide hsl
      have HB := hide hB
      clear hrow hsl hB eN hlt
      go_wp2
      go_ret
      exact ⟨⟨g', cap', rfl, HSS.out⟩, bseq HB1.out HB.out⟩
end Go.Proofs.Ytegplcomhahpfaa
