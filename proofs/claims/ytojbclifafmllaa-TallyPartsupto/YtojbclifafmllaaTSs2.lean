/- The road of TallySums: for every list of tallies that memory can hold it returns true, and writes nothing that was there. -/
import Derived.Test.YtojbclifafmllaaTSsW
namespace Go.Proofs.Ytojbclifafmllaa
open Go.RowKit
set_option linter.unusedVariables false

theorem own5 {W : World} {base B : Nat} {e : TypeId} {size : Nat} {v : Value} {n : Nat} {xs : List Value} (h : W.ownsRow base e size v n xs) (hb : B < base) (i : Nat) (v0 v1 v2 v3 v4 : Value) :
    (((((W.setCell ⟨B, i * 5, none⟩ v0).setCell ⟨B, i * 5 + 1, none⟩ v1).setCell ⟨B, i * 5 + 2, none⟩ v2).setCell ⟨B, i * 5 + 3, none⟩ v3).setCell ⟨B, i * 5 + 4, none⟩ v4).ownsRow base e size v n xs :=
  ownsRow_setCell_below (ownsRow_setCell_below (ownsRow_setCell_below (ownsRow_setCell_below (ownsRow_setCell_below h hb v0) hb v1) hb v2) hb v3) hb v4
theorem own5b {W : World} {base B : Nat} {e : TypeId} {size : Nat} {v : Value} {n : Nat} {xs : List Value} (h : W.ownsRow base e size v n xs) (hb : B < base) (v0 v1 v2 v3 v4 : Value) :
    (((((W.setCell ⟨B, 0, none⟩ v0).setCell ⟨B, 1, none⟩ v1).setCell ⟨B, 2, none⟩ v2).setCell ⟨B, 3, none⟩ v3).setCell ⟨B, 4, none⟩ v4).ownsRow base e size v n xs :=
  ownsRow_setCell_below (ownsRow_setCell_below (ownsRow_setCell_below (ownsRow_setCell_below (ownsRow_setCell_below h hb v0) hb v1) hb v2) hb v3) hb v4
theorem slt_own {W : World} {base n : Nat} {v : Value} {xs : List (Int × Int × Int × ByteArray × ByteArray)} (h : W.ownsRow base 24 5 v n (tCs xs)) (hn : xs.length = n) : ∃ a cap, v = .slice a n cap ∧ SlT W a xs := by
  rcases h.2 with ⟨rfl, h0⟩ | ⟨g, cap, cur, rfl, _⟩
  · subst h0
    exact ⟨none, 0, rfl, .inl (List.eq_nil_of_length_eq_zero hn)⟩
  · exact ⟨_, cap, rfl, slt_of_owns h hn.symm⟩
/-- The tallies that TallySums writes over its list. -/
def altT (j : Nat) : (Int × Int × Int × ByteArray × ByteArray) := if j % 2 = 1 then t2T else t1T
theorem alt_snoc (k : Nat) : (List.range (k + 1)).map altT = (List.range k).map altT ++ [altT k] := by rw [List.range_succ, List.map_append]; rfl
theorem take_set_snoc {ys : List (Int × Int × Int × ByteArray × ByteArray)} {k : Nat} (hk : k < ys.length) (x : (Int × Int × Int × ByteArray × ByteArray)) : (ys.set k x).take (k + 1) = ys.take k ++ [x] := by
  rw [List.take_add_one, List.take_set_of_le (Nat.le_refl _), List.getElem?_set_self hk]
  rfl
namespace tallySums
set_option maxRecDepth 100000 in
set_option maxHeartbeats 10000000 in
theorem walk (a : Option Addr) (cap : Nat) (xs : List (Int × Int × Int × ByteArray × ByteArray)) (w : World) (hx : SlT w a xs) (hb : ∀ x ∈ xs, x.1 ≤ 9223372036854775807) (hl : xs.length ≤ 2513169434843) :
    Calls Try.prog 9 #[.slice a xs.length cap] w fun e w' => e = .returned (.bool true) ∧ Below w.heap.size w w' := by
  obtain ⟨i0, hi, hz0, hz1, hz2⟩ := info_parts Try.infoT
  obtain ⟨n, hn⟩ : ∃ n, n = xs.length := ⟨_, rfl⟩
  have hw1 : IntKind.i64.wrap ((n : Int) + 2) = (n : Int) + 2 := by rw [IntKind.wrap_i64]; omega
  have hmk : ∀ w, Sem.run Try.prog (Instr.makeSlice 31 (.int .i64 ((n : Int) + 2)) (.int .i64 ((n : Int) + 2))) w = .ok (.slice (some ⟨w.heap.size, 0, none⟩) (n + 2) (n + 2)) (w.alloc (.cells (tCs (List.replicate (n + 2) zT)).toArray 24)) := fun w => by
    have h := run_make (P := Try.prog) w 31 24 i0 (.agg #[.int .i64 0, .int .i64 0, .int .i64 0, .string ⟨#[]⟩, .string ⟨#[]⟩]) Try.underlying31 hi hz0 .i64 .i64 ((n : Int) + 2) ((n : Int) + 2) (by omega) (by omega) (by rw [hz2]; omega) (by omega)
    rw [hz1, show (((n : Int) + 2).toNat) = n + 2 by omega, made_row] at h
    exact h
  have HX := hide hx
  have HBD := hide hb
  have HN := hide hn
  rw [← hn]
  rw [← hn] at hl
  clear hx hb hn
  have hB0 : Below w.heap.size w ((w.alloc (.cells #[.int .i64 (-7), .int .i64 0, .int .i64 0, .string ⟨#[]⟩, .string ⟨#[]⟩] 24)).alloc (.cells (tCs (List.replicate (n + 2) zT)).toArray 24)) := ((Below.refl _ w).alloc (Nat.le_refl _) _).alloc (by simp) _
  have hM0 : ((w.alloc (.cells #[.int .i64 (-7), .int .i64 0, .int .i64 0, .string ⟨#[]⟩, .string ⟨#[]⟩] 24)).alloc (.cells (tCs (List.replicate (n + 2) zT)).toArray 24)).heap[w.heap.size]? = some (.cells #[.int .i64 (-7), .int .i64 0, .int .i64 0, .string ⟨#[]⟩, .string ⟨#[]⟩] 24 (0, 0)) := by
    rw [Below.heap_alloc _ _ _ (by simp)]
    exact heap_alloc_new w _
  have hX0 := heap_alloc2_new w (.cells #[.int .i64 (-7), .int .i64 0, .int .i64 0, .string ⟨#[]⟩, .string ⟨#[]⟩] 24) (.cells (tCs (List.replicate (n + 2) zT)).toArray 24)
  have HB0 := hide hB0
  have HM0 := hide hM0
  have HX0 := hide hX0
  clear hB0 hM0 hX0
  go_enter Try.func9, Try.ntmps9
  go_wp2_with (fail)
  clear hmk
  go_loopw [5] (fun i wr => ∃ (k : Nat) (ys : List (Int × Int × Int × ByteArray × ByteArray)), i = .int .i64 k ∧ k ≤ n + 2 ∧ ys.length = n + 2 ∧ (∀ j, j < k → ys[j]? = (xs ++ [markT, markT])[j]?) ∧
      wr.heap[w.heap.size]? = some (.cells #[.int .i64 (-7), .int .i64 0, .int .i64 0, .string ⟨#[]⟩, .string ⟨#[]⟩] 24 (0, 0)) ∧
      wr.heap[w.heap.size + 1]? = some (.cells (tCs ys).toArray 24 (0, 0)) ∧ Below w.heap.size w wr) (fun i _ => n + 2 - (intOf i).toNat)
  case atStart => exact ⟨0, List.replicate (n + 2) zT, rfl, by omega, by simp, fun j hj => by omega, HM0.out, HX0.out, HB0.out⟩
  case round =>
    clear HB0 HM0 HX0
    obtain ⟨k, ys, rfl, hk, hyl, hys, hm, hr, hB⟩ := hrel
    have hsz : w.heap.size + 1 < wr.heap.size := (Array.getElem?_eq_some_iff.1 hr).1
    by_cases hlt : k < n + 2
    · have hlt' : (k : Int) < ((n + 2 : Nat) : Int) := by omega
      have hlt'' : (k : Int) < (n : Int) + 2 := by omega
      obtain ⟨m0, m1, m2, m3, m4⟩ := box_at hm
      obtain ⟨⟨a0, a1, a2, a3, a4, d0, d1, d2, d3, d4⟩, ⟨f0, f1, f2, f3, f4⟩, R, O, BB⟩ := chainAt hr (by rw [hyl]; exact hlt) ((-7, 0, 0, ⟨#[]⟩, ⟨#[]⟩) : (Int × Int × Int × ByteArray × ByteArray))
      dsimp only at d0 d1 d2 d3 d4 R O BB
      by_cases hkn : k < n
      · have hkx : k < xs.length := by rw [← HN.out]; exact hkn
        obtain ⟨x, hx⟩ : ∃ x, xs[k]? = some x := ⟨_, List.getElem?_eq_getElem hkx⟩
        obtain ⟨b0, off, rfl, hb0, hcl⟩ : ∃ b off, a = some ⟨b, off, none⟩ ∧ b < w.heap.size ∧ ∀ (i : Nat) (x : (Int × Int × Int × ByteArray × ByteArray)), xs[i]? = some x → w.cell? ⟨b, off + i * 5, none⟩ = some (.int .i64 x.1) ∧ w.cell? ⟨b, off + i * 5 + 1, none⟩ = some (.int .i64 x.2.1) ∧ w.cell? ⟨b, off + i * 5 + 2, none⟩ = some (.int .i64 x.2.2.1) ∧ w.cell? ⟨b, off + i * 5 + 3, none⟩ = some (.string x.2.2.2.1) ∧ w.cell? ⟨b, off + i * 5 + 4, none⟩ = some (.string x.2.2.2.2) := by
          rcases HX.out with h | h
          · rw [h] at hkx; simp at hkx
          · exact h
        obtain ⟨p0, p1, p2, p3, p4⟩ := hcl k x hx
        obtain ⟨bb, bc, bl', bh, bt⟩ := x
        dsimp only at p0 p1 p2 p3 p4
        have hB5 := BB _ _ (by omega) hB
        have v0 := cell_below p0 hB5 hb0
        have v1 := cell_below p1 hB5 hb0
        have v2 := cell_below p2 hB5 hb0
        have v3 := cell_below p3 hB5 hb0
        have v4 := cell_below p4 hB5 hb0
        obtain ⟨⟨b0', b1', b2', b3', b4', e0, e1, e2, e3, e4⟩, ⟨g0, g1, g2, g3, g4⟩, R2, O2, BB2⟩ := chainAt R (by rw [List.length_set, hyl]; exact hlt) ((bb, bc, bl', bh, bt) : (Int × Int × Int × ByteArray × ByteArray))
        dsimp only at e0 e1 e2 e3 e4 R2 O2 BB2
        have hm2 := (O2 w.heap.size (by omega)).trans ((O w.heap.size (by omega)).trans hm)
        have hB10 := BB2 _ _ (by omega) hB5
        have hys2 : ∀ j, j < k + 1 → ((ys.set k (-7, 0, 0, ⟨#[]⟩, ⟨#[]⟩)).set k (bb, bc, bl', bh, bt))[j]? = (xs ++ [markT, markT])[j]? := by
          intro j hj
          rw [List.set_set]
          by_cases hjk : j = k
          · subst hjk
            rw [List.getElem?_set_self (by omega), List.getElem?_append_left hkx, hx]
          · rw [List.getElem?_set_ne (by omega)]
            exact hys j (by omega)
        have HM2 := hide hm2
        have HB10 := hide hB10
        have HYS2 := hide hys2
        have HR2 := hide R2
        have hkn' : (k : Int) < (n : Int) := by omega
        clear hm2 hB10 hys2 R2 O2 BB2 R O BB hB5 p0 p1 p2 p3 p4 hcl hx hys hm hr hB
        go_wp2_with (fail)
        go_roundw
        case rel => exact ⟨k + 1, _, by go_num, by omega, by rw [List.length_set, List.length_set]; exact hyl, HYS2.out, HM2.out, HR2.out, HB10.out⟩
        case measure => simp [intOf]; omega
      · have hm2 := (O w.heap.size (by omega)).trans hm
        have hB5 := BB _ _ (by omega) hB
        have hys2 : ∀ j, j < k + 1 → (ys.set k (-7, 0, 0, ⟨#[]⟩, ⟨#[]⟩))[j]? = (xs ++ [markT, markT])[j]? := by
          intro j hj
          by_cases hjk : j = k
          · subst hjk
            rw [List.getElem?_set_self (by omega), List.getElem?_append_right (by rw [← HN.out]; omega)]
            have : j - xs.length = 0 ∨ j - xs.length = 1 := by rw [← HN.out]; omega
            rcases this with h | h <;> (rw [h]; rfl)
          · rw [List.getElem?_set_ne (by omega)]
            exact hys j (by omega)
        have HM2 := hide hm2
        have HB5 := hide hB5
        have HYS2 := hide hys2
        have HR2 := hide R
        have hkn' : (n : Int) ≤ (k : Int) := by omega
        clear hm2 hB5 hys2 R O BB hys hm hr hB
        go_wp2_with (fail)
        go_roundw
        case rel => exact ⟨k + 1, _, by go_num, by omega, by rw [List.length_set]; exact hyl, HYS2.out, HM2.out, HR2.out, HB5.out⟩
        case measure => simp [intOf]; omega
    · have hkk : k = n + 2 := by omega
      subst hkk
      have hyx : ys = xs ++ [markT, markT] := by
        apply List.ext_getElem?
        intro j
        by_cases hj : j < n + 2
        · exact hys j hj
        · rw [List.getElem?_eq_none (by omega), List.getElem?_eq_none (by rw [List.length_append, ← HN.out]; simp; omega)]
      subst hyx
      have hge : ((n + 2 : Nat) : Int) ≤ ((n + 2 : Nat) : Int) := by omega
      have HM := hide hm
      have HR := hide hr
      have HB := hide hB
      clear hys hm hr hB hk hlt
      generalize wr = X at *
      have hsx : SlT X (some ⟨w.heap.size + 1, 0, none⟩) xs := by
        have := slt_of_row (m := xs.length) HR.out
        rwa [List.take_left] at this
      have ks1 := fun (W : World) (h : SlT W (some ⟨w.heap.size + 1, 0, none⟩) xs) => sum_any (some ⟨w.heap.size + 1, 0, none⟩) (n + 2) xs W h HBD.out (by rw [← HN.out]; omega)
      have ks2 := fun (W : World) (h : SlT W a xs) => refSum_any a cap xs W h HBD.out (by rw [← HN.out]; omega)
      have ks3 := fun (W : World) (h1 : SlT W (some ⟨w.heap.size + 1, 0, none⟩) xs) (h2 : SlT W a xs) => eq_yes (some ⟨w.heap.size + 1, 0, none⟩) a (n + 2) cap xs n HN.out.symm W h1 h2 (by omega)
      rw [← HN.out] at ks1 ks2
      generalize sumV zT xs = sv at *
      obtain ⟨⟨sb, sc, sl, sh, st⟩, E⟩ := sv
      have KS1 := hide ks1
      have KS2 := hide ks2
      have KS3 := hide ks3
      have HSX := hide hsx
      have heqS := fun w => eql_ty sb sc sl sh st sb sc sl sh st w
      rw [show sameT sb sc sl sh st sb sc sl sh st = true from decide_eq_true ⟨rfl, rfl, rfl, rfl, rfl⟩] at heqS
      have heqM := fun w => eql_ty (-7) 0 0 ⟨#[]⟩ ⟨#[]⟩ (-7) 0 0 ⟨#[]⟩ ⟨#[]⟩ w
      rw [show sameT (-7) 0 0 ⟨#[]⟩ ⟨#[]⟩ (-7) 0 0 ⟨#[]⟩ ⟨#[]⟩ = true from decide_eq_true ⟨rfl, rfl, rfl, rfl, rfl⟩] at heqM
      have HEQS := hide heqS
      have HEQM := hide heqM
      clear ks1 ks2 ks3 hsx heqS heqM
      have hnb : (n : Int) ≤ 2513169434843 := by omega
      unfold tv at KS1 KS2
      dsimp only at KS1 KS2
      go_wp2_with (first | (go_at_call 26; refine (KS1.out _ HSX.out).mono ?_; rintro e w1 ⟨rfl, hB1⟩) | (go_at_call 27; refine (KS2.out _ (HX.out.below (bseq (bseq HB.out hB1) ((Below.refl _ w1).alloc (Nat.le_refl _) (.cells #[.int .i64 sb, .int .i64 sc, .int .i64 sl, .string sh, .string st] 24))))).mono ?_; rintro e w2 ⟨rfl, hB2⟩))
      have hY6 : (w2.alloc (.cells #[.int .i64 sb, .int .i64 sc, .int .i64 sl, .string sh, .string st] 24)).heap[w1.heap.size]? = some (.cells #[.int .i64 sb, .int .i64 sc, .int .i64 sl, .string sh, .string st] 24 (0, 0)) := by
        have := row_after hB2
        rw [Below.heap_alloc _ _ _ (Array.getElem?_eq_some_iff.1 this).1]
        exact this
      have hY8 : (w2.alloc (.cells #[.int .i64 sb, .int .i64 sc, .int .i64 sl, .string sh, .string st] 24)).heap[w2.heap.size]? = some (.cells #[.int .i64 sb, .int .i64 sc, .int .i64 sl, .string sh, .string st] 24 (0, 0)) := heap_alloc_new w2 _
      have hXY : Below X.heap.size X (w2.alloc (.cells #[.int .i64 sb, .int .i64 sc, .int .i64 sl, .string sh, .string st] 24)) := bseq (bseq (bseq hB1 ((Below.refl _ w1).alloc (Nat.le_refl _) _)) hB2) ((Below.refl _ w2).alloc (Nat.le_refl _) _)
      have hY3 := row_keep HM.out hXY
      have hYX := row_keep HR.out hXY
      have hwY : Below w.heap.size w (w2.alloc (.cells #[.int .i64 sb, .int .i64 sc, .int .i64 sl, .string sh, .string st] 24)) := bseq HB.out hXY
      have b16 : X.heap.size ≤ w1.heap.size := hB1.size
      have b18 : w1.heap.size < w2.heap.size := by have := hB2.size; simp at this; omega
      generalize w2.alloc (.cells #[.int .i64 sb, .int .i64 sc, .int .i64 sl, .string sh, .string st] 24) = Y at *
      generalize w1.heap.size = B6 at *
      generalize w2.heap.size = B8 at *
      have HY6 := hide hY6
      have HY8 := hide hY8
      have HY3 := hide hY3
      have HYX := hide hYX
      have HWY := hide hwY
      clear hY6 hY8 hY3 hYX hwY hXY hB1 hB2 KS1 KS2 HSX HM HR HB
      have heqS := HEQS.out
      have heqM := HEQM.out
      have hg := Try.noGuard24
      have qE : (E != E) = false := by simp
      have hw5 : IntKind.i64.wrap ((n : Int) + 1) = (n : Int) + 1 := by rw [IntKind.wrap_i64]; omega
      have l1 : (n : Int) < (n : Int) + 2 := by omega
      have l2 : (n : Int) + 1 < (n : Int) + 2 := by omega
      have l3 : (n : Int) ≤ (n : Int) + 2 := by omega
      have tn : ((n : Int) + 1).toNat = n + 1 := by omega
      have l4 : (n : Int) + 1 < ((n + 2 : Nat) : Int) := by omega
      have l5 : (0 : Int) ≤ (n : Int) + 1 := by omega
      have l6 : (n : Int) < ((n + 2 : Nat) : Int) := by omega
      have hmn : (xs ++ [markT, markT])[n]? = some markT := by rw [HN.out, List.getElem?_append_right (Nat.le_refl _), Nat.sub_self]; rfl
      have hmn1 : (xs ++ [markT, markT])[n + 1]? = some markT := by rw [HN.out, List.getElem?_append_right (by omega), Nat.add_sub_cancel_left]; rfl
      have HMN := hide hmn
      have HMN1 := hide hmn1
      clear hmn hmn1

      have mk : ∀ W, Below Y.heap.size Y W → (Below Y.heap.size Y W ∧ W.cell? ⟨B6, 0, none⟩ = some (.int .i64 sb) ∧ W.cell? ⟨B6, 1, none⟩ = some (.int .i64 sc) ∧ W.cell? ⟨B6, 2, none⟩ = some (.int .i64 sl) ∧ W.cell? ⟨B6, 3, none⟩ = some (.string sh) ∧ W.cell? ⟨B6, 4, none⟩ = some (.string st) ∧ W.cell? ⟨B8, 0, none⟩ = some (.int .i64 sb) ∧ W.cell? ⟨B8, 1, none⟩ = some (.int .i64 sc) ∧ W.cell? ⟨B8, 2, none⟩ = some (.int .i64 sl) ∧ W.cell? ⟨B8, 3, none⟩ = some (.string sh) ∧ W.cell? ⟨B8, 4, none⟩ = some (.string st) ∧ W.cell? ⟨w.heap.size, 0, none⟩ = some (.int .i64 (-7)) ∧ W.cell? ⟨w.heap.size, 1, none⟩ = some (.int .i64 0) ∧ W.cell? ⟨w.heap.size, 2, none⟩ = some (.int .i64 0) ∧ W.cell? ⟨w.heap.size, 3, none⟩ = some (.string ⟨#[]⟩) ∧ W.cell? ⟨w.heap.size, 4, none⟩ = some (.string ⟨#[]⟩) ∧ W.cell? ⟨w.heap.size + 1, n * 5, none⟩ = some (.int .i64 (-7)) ∧ W.cell? ⟨w.heap.size + 1, n * 5 + 1, none⟩ = some (.int .i64 0) ∧ W.cell? ⟨w.heap.size + 1, n * 5 + 2, none⟩ = some (.int .i64 0) ∧ W.cell? ⟨w.heap.size + 1, n * 5 + 3, none⟩ = some (.string ⟨#[]⟩) ∧ W.cell? ⟨w.heap.size + 1, n * 5 + 4, none⟩ = some (.string ⟨#[]⟩) ∧ W.cell? ⟨w.heap.size + 1, (n + 1) * 5, none⟩ = some (.int .i64 (-7)) ∧ W.cell? ⟨w.heap.size + 1, (n + 1) * 5 + 1, none⟩ = some (.int .i64 0) ∧ W.cell? ⟨w.heap.size + 1, (n + 1) * 5 + 2, none⟩ = some (.int .i64 0) ∧ W.cell? ⟨w.heap.size + 1, (n + 1) * 5 + 3, none⟩ = some (.string ⟨#[]⟩) ∧ W.cell? ⟨w.heap.size + 1, (n + 1) * 5 + 4, none⟩ = some (.string ⟨#[]⟩)) := fun W hB => by
        obtain ⟨a0, a1, a2, a3, a4⟩ := box_at (row_keep HY6.out hB)
        obtain ⟨b0, b1, b2, b3, b4⟩ := box_at (row_keep HY8.out hB)
        obtain ⟨c0, c1, c2, c3, c4⟩ := box_at (row_keep HY3.out hB)
        obtain ⟨d0, d1, d2, d3, d4⟩ := cells_at (row_keep HYX.out hB) HMN.out
        obtain ⟨e0, e1, e2, e3, e4⟩ := cells_at (row_keep HYX.out hB) HMN1.out
        exact ⟨hB, a0, a1, a2, a3, a4, b0, b1, b2, b3, b4, c0, c1, c2, c3, c4, d0, d1, d2, d3, d4, e0, e1, e2, e3, e4⟩
      have MK := hide mk
      clear mk
      have hsY : SlT Y.drew (some ⟨w.heap.size + 1, 0, none⟩) xs := by
        have := slt_of_row (m := xs.length) (row_keep HYX.out (Below.refl _ Y).drew)
        rwa [List.take_left] at this
      have haY : SlT Y.drew a xs := HX.out.below HWY.out.drew
      have HSY := hide hsY
      have HAY := hide haY
      clear hsY haY
      go_region_held3 (fun w' => Below Y.heap.size Y w' ∧ w'.cell? ⟨B6, 0, none⟩ = some (.int .i64 sb) ∧ w'.cell? ⟨B6, 1, none⟩ = some (.int .i64 sc) ∧ w'.cell? ⟨B6, 2, none⟩ = some (.int .i64 sl) ∧ w'.cell? ⟨B6, 3, none⟩ = some (.string sh) ∧ w'.cell? ⟨B6, 4, none⟩ = some (.string st) ∧ w'.cell? ⟨B8, 0, none⟩ = some (.int .i64 sb) ∧ w'.cell? ⟨B8, 1, none⟩ = some (.int .i64 sc) ∧ w'.cell? ⟨B8, 2, none⟩ = some (.int .i64 sl) ∧ w'.cell? ⟨B8, 3, none⟩ = some (.string sh) ∧ w'.cell? ⟨B8, 4, none⟩ = some (.string st) ∧ w'.cell? ⟨w.heap.size, 0, none⟩ = some (.int .i64 (-7)) ∧ w'.cell? ⟨w.heap.size, 1, none⟩ = some (.int .i64 0) ∧ w'.cell? ⟨w.heap.size, 2, none⟩ = some (.int .i64 0) ∧ w'.cell? ⟨w.heap.size, 3, none⟩ = some (.string ⟨#[]⟩) ∧ w'.cell? ⟨w.heap.size, 4, none⟩ = some (.string ⟨#[]⟩) ∧ w'.cell? ⟨w.heap.size + 1, n * 5, none⟩ = some (.int .i64 (-7)) ∧ w'.cell? ⟨w.heap.size + 1, n * 5 + 1, none⟩ = some (.int .i64 0) ∧ w'.cell? ⟨w.heap.size + 1, n * 5 + 2, none⟩ = some (.int .i64 0) ∧ w'.cell? ⟨w.heap.size + 1, n * 5 + 3, none⟩ = some (.string ⟨#[]⟩) ∧ w'.cell? ⟨w.heap.size + 1, n * 5 + 4, none⟩ = some (.string ⟨#[]⟩) ∧ w'.cell? ⟨w.heap.size + 1, (n + 1) * 5, none⟩ = some (.int .i64 (-7)) ∧ w'.cell? ⟨w.heap.size + 1, (n + 1) * 5 + 1, none⟩ = some (.int .i64 0) ∧ w'.cell? ⟨w.heap.size + 1, (n + 1) * 5 + 2, none⟩ = some (.int .i64 0) ∧ w'.cell? ⟨w.heap.size + 1, (n + 1) * 5 + 3, none⟩ = some (.string ⟨#[]⟩) ∧ w'.cell? ⟨w.heap.size + 1, (n + 1) * 5 + 4, none⟩ = some (.string ⟨#[]⟩)) (first | exact MK.out _ (Below.refl _ _).drew | exact MK.out _ hW3) (first | (go_at_call 15; refine (KS3.out _ HSY.out HAY.out).mono ?_; rintro e w3 ⟨rfl, hB3⟩; have hW3 : Below Y.heap.size Y w3 := bseq ((Below.refl _ Y).drew) hB3))
      go_wp2_with (fail)
      have HW3 := hide hW3
      clear hg heqS heqM HMN HMN1 HSY HAY MK hW3 hB3
      have hr0 := row_keep HYX.out HW3.out
      have h60 := row_keep HY6.out HW3.out
      have h80 := row_keep HY8.out HW3.out
      have hwb := bseq HWY.out HW3.out
      have hb6 : w.heap.size + 2 ≤ B6 := by omega
      have hsz3 : w.heap.size + 2 ≤ w3.heap.size := by have := (Array.getElem?_eq_some_iff.1 h60).1; omega
      obtain ⟨Z0, hZ⟩ : ∃ Z0, Z0 = w3.heap.size := ⟨_, rfl⟩
      have hZ0 : Z0 ≤ w3.heap.size := by omega
      have hZ6 : B6 < Z0 := by have := (Array.getElem?_eq_some_iff.1 h60).1; omega
      have hZ8 : B8 < Z0 := by have := (Array.getElem?_eq_some_iff.1 h80).1; omega
      have hZX : w.heap.size + 1 < Z0 := by omega
      have HR0 := hide hr0
      have H60 := hide h60
      have H80 := hide h80
      have HWB := hide hwb
      clear hr0 h60 h80 hwb HYX HY6 HY8 HY3 HWY HW3 hZ
      go_loopw [10, 11] (fun v i wr => ∃ (k : Nat) (ys : List (Int × Int × Int × ByteArray × ByteArray)), i = .int .i64 k ∧ k ≤ n ∧ ys.length = n + 2 ∧ ys.take k = (List.range k).map altT ∧
          wr.heap[w.heap.size + 1]? = some (.cells (tCs ys).toArray 24 (0, 0)) ∧ wr.ownsRow Z0 24 5 v k (tCs ((List.range k).map altT)) ∧
          Z0 ≤ wr.heap.size ∧
          wr.heap[B6]? = some (.cells #[.int .i64 sb, .int .i64 sc, .int .i64 sl, .string sh, .string st] 24 (0, 0)) ∧ wr.heap[B8]? = some (.cells #[.int .i64 sb, .int .i64 sc, .int .i64 sl, .string sh, .string st] 24 (0, 0)) ∧ Below w.heap.size w wr) (fun _ i _ => n - (intOf i).toNat)
      case atStart => exact ⟨0, xs ++ [markT, markT], rfl, by omega, by rw [List.length_append, ← HN.out]; rfl, rfl, HR0.out, World.ownsRow_nil _ _ _ _, hZ0, H60.out, H80.out, HWB.out⟩
      case round =>
        clear HR0 H60 H80 HWB
        obtain ⟨k, ys, rfl, hk, hyl, hys, hr, hown, hZr, h6, h8, hB⟩ := hrel
        by_cases hlt : k < n
        · have hlt' : (k : Int) < (n : Int) := by omega
          have hki : k < ys.length := by omega
          have hkb : k + 1 ≤ 2513169434843 := by omega
          have e1 : (k : Int) < ((n + 2 : Nat) : Int) := by omega
          have e2 : (k : Int) < (n : Int) + 2 := by omega
          have HO := hide hown
          have HRR := hide hr
          have H6 := hide h6
          have H8 := hide h8
          have HB := hide hB
          have HYS := hide hys
          have hsr := hB.size
          clear hown hr h6 h8 hB hys
          go_upto_region 18 with (go_at_call 7; refine (wk7 _).mono ?_; rintro e w4 ⟨rfl, hB4⟩; obtain ⟨⟨a0, a1, a2, a3, a4, d0, d1, d2, d3, d4⟩, ⟨f0, f1, f2, f3, f4⟩, R, O, BB⟩ := chainAt (row_keep HRR.out hB4) hki ((2, 2, 0, ⟨#[226, 128]⟩, ⟨#[226, 128]⟩) : (Int × Int × Int × ByteArray × ByteArray)); dsimp only at d0 d1 d2 d3 d4 R O BB; replace R := hide R; replace O := hide O; replace BB := hide BB)
          have hB9 := BB.out _ _ (by omega) (bseq HB.out hB4)
          have hO5 := own5 (ownsRow_bel HO.out hB4) hZX k (.int .i64 2) (.int .i64 2) (.int .i64 0) (.string ⟨#[226, 128]⟩) (.string ⟨#[226, 128]⟩)
          have h6v := (O.out _ (by omega)).trans (row_keep H6.out hB4)
          have h8v := (O.out _ (by omega)).trans (row_keep H8.out hB4)
          have hRv := R.out
          have hsv : Z0 ≤ ((((((w4.setCell ⟨w.heap.size + 1, k * 5, none⟩ (.int .i64 2)).setCell ⟨w.heap.size + 1, k * 5 + 1, none⟩ (.int .i64 2)).setCell ⟨w.heap.size + 1, k * 5 + 2, none⟩ (.int .i64 0)).setCell ⟨w.heap.size + 1, k * 5 + 3, none⟩ (.string ⟨#[226, 128]⟩)).setCell ⟨w.heap.size + 1, k * 5 + 4, none⟩ (.string ⟨#[226, 128]⟩)) : World).heap.size := by simp only [World.size_setCell]; have := hB4.size; omega
          clear R O BB d0 d1 d2 d3 d4 f0 f1 f2 f3 f4
          generalize ((((((w4.setCell ⟨w.heap.size + 1, k * 5, none⟩ (.int .i64 2)).setCell ⟨w.heap.size + 1, k * 5 + 1, none⟩ (.int .i64 2)).setCell ⟨w.heap.size + 1, k * 5 + 2, none⟩ (.int .i64 0)).setCell ⟨w.heap.size + 1, k * 5 + 3, none⟩ (.string ⟨#[226, 128]⟩)).setCell ⟨w.heap.size + 1, k * 5 + 4, none⟩ (.string ⟨#[226, 128]⟩)) : World) = V at *
          by_cases hodd : k % 2 = 1
          · have ho1 : (((k : Int) % 2) == 1) = true := by simp; omega
            have ho3 : IntKind.i64.wrap ((k : Int).tmod 2) = (k : Int) % 2 := by rw [Int.tmod_eq_emod_of_nonneg (by omega), IntKind.wrap_i64]; omega
            have hal : altT k = (2, 2, 1, ⟨#[169, 13]⟩, ⟨#[169, 13]⟩) := by unfold altT; rw [if_pos hodd]; rfl
            have HAL := hide hal
            have HRv := hide hRv
            have hki2 : k < (ys.set k (2, 2, 0, ⟨#[226, 128]⟩, ⟨#[226, 128]⟩)).length := by rw [List.length_set]; exact hki
            clear hal hodd hRv
            go_upto_region 20 with (go_at_call 7; refine (wk8 _).mono ?_; rintro e w5 ⟨rfl, hB5⟩; obtain ⟨⟨a0, a1, a2, a3, a4, d0, d1, d2, d3, d4⟩, ⟨f0, f1, f2, f3, f4⟩, R, O, BB⟩ := chainAt (row_keep HRv.out hB5) hki2 ((2, 2, 1, ⟨#[169, 13]⟩, ⟨#[169, 13]⟩) : (Int × Int × Int × ByteArray × ByteArray)); dsimp only at d0 d1 d2 d3 d4 R O BB; replace R := hide R; replace O := hide O; replace BB := hide BB)
            have hBw := BB.out _ _ (by omega) (bseq hB9 hB5)
            have hOw := own5 (ownsRow_bel hO5 hB5) hZX k (.int .i64 2) (.int .i64 2) (.int .i64 1) (.string ⟨#[169, 13]⟩) (.string ⟨#[169, 13]⟩)
            have h6w := (O.out _ (by omega)).trans (row_keep h6v hB5)
            have h8w := (O.out _ (by omega)).trans (row_keep h8v hB5)
            have hRw := R.out
            have hsw : Z0 ≤ ((((((w5.setCell ⟨w.heap.size + 1, k * 5, none⟩ (.int .i64 2)).setCell ⟨w.heap.size + 1, k * 5 + 1, none⟩ (.int .i64 2)).setCell ⟨w.heap.size + 1, k * 5 + 2, none⟩ (.int .i64 1)).setCell ⟨w.heap.size + 1, k * 5 + 3, none⟩ (.string ⟨#[169, 13]⟩)).setCell ⟨w.heap.size + 1, k * 5 + 4, none⟩ (.string ⟨#[169, 13]⟩)) : World).heap.size := by simp only [World.size_setCell]; have := hB5.size; omega
            clear R O BB d0 d1 d2 d3 d4 f0 f1 f2 f3 f4 hO5 h6v h8v hB9
            generalize ((((((w5.setCell ⟨w.heap.size + 1, k * 5, none⟩ (.int .i64 2)).setCell ⟨w.heap.size + 1, k * 5 + 1, none⟩ (.int .i64 2)).setCell ⟨w.heap.size + 1, k * 5 + 2, none⟩ (.int .i64 1)).setCell ⟨w.heap.size + 1, k * 5 + 3, none⟩ (.string ⟨#[169, 13]⟩)).setCell ⟨w.heap.size + 1, k * 5 + 4, none⟩ (.string ⟨#[169, 13]⟩)) : World) = V2 at *
            obtain ⟨z0, z1, z2, z3, z4⟩ := cells_at hRw (List.getElem?_set_self hki2)
            dsimp only at z0 z1 z2 z3 z4
            have HOV := hide hOw
            have HRV := hide hRw
            have H6V := hide h6w
            have H8V := hide h8w
            have HBV := hide hBw
            clear hOw hRw h6w h8w hBw
            go_wp2_with (at_builtin; refine wpList_append_own _ rfl _ _ 31 rfl Z0 24 i0 (.agg #[.int .i64 0, .int .i64 0, .int .i64 0, .string ⟨#[]⟩, .string ⟨#[]⟩]) 5 56 Try.underlying31 hi hz0 hz1 hz2 rfl (by omega) _ _ _ rfl (HOV.out.alloc (.cells #[.int .i64 2, .int .i64 2, .int .i64 1, .string ⟨#[169, 13]⟩, .string ⟨#[169, 13]⟩] 24)) ⟨V2.heap.size, 0, none⟩ 1 1 (tC (2, 2, 1, ⟨#[169, 13]⟩, ⟨#[169, 13]⟩)) rfl rfl (row_cells V2 (2, 2, 1, ⟨#[169, 13]⟩, ⟨#[169, 13]⟩)) (tC_one _) (by unfold maxLen; omega) (by omega) (by simp only [World.size_alloc]; omega) ?_; intro v1 w9 ho9 hg9 _)
            have hBa := HBV.out.alloc HBV.out.size (.cells #[.int .i64 2, .int .i64 2, .int .i64 1, .string ⟨#[169, 13]⟩, .string ⟨#[169, 13]⟩] 24)
            have hs9 := hg9.size
            rw [World.size_alloc] at hs9
            go_roundw
            case rel =>
              refine ⟨k + 1, _, by go_num, by omega, by simp only [List.length_set]; exact hyl, ?_, (hg9.block _ (by rw [World.size_alloc]; omega) ?_).trans ((Below.heap_alloc _ _ _ (by omega)).trans HRV.out), ?_, by omega, (hg9.block _ (by rw [World.size_alloc]; omega) ?_).trans ((Below.heap_alloc _ _ _ (by omega)).trans H6V.out), (hg9.block _ (by rw [World.size_alloc]; omega) ?_).trans ((Below.heap_alloc _ _ _ (by omega)).trans H8V.out), hBa.grown hg9 hBa.size (fun j e => by have := (HOV.out.lt j e).1; omega)⟩
              · rw [take_set_snoc hki2, List.take_set_of_le (Nat.le_refl _), HYS.out, alt_snoc, HAL.out]
              · intro e; have := (HOV.out.lt _ e.symm).1; omega
              · rw [alt_snoc, HAL.out, tCs_snoc]; exact ho9
              · intro e; have := (HOV.out.lt _ e.symm).1; omega
              · intro e; have := (HOV.out.lt _ e.symm).1; omega
            case measure => simp [intOf]; omega
          · have ho1 : (((k : Int) % 2) == 1) = false := by simp; omega
            have ho3 : IntKind.i64.wrap ((k : Int).tmod 2) = (k : Int) % 2 := by rw [Int.tmod_eq_emod_of_nonneg (by omega), IntKind.wrap_i64]; omega
            have hal : altT k = (2, 2, 0, ⟨#[226, 128]⟩, ⟨#[226, 128]⟩) := by unfold altT; rw [if_neg hodd]; rfl
            have HAL := hide hal
            clear hal hodd
            obtain ⟨z0, z1, z2, z3, z4⟩ := cells_at hRv (List.getElem?_set_self hki)
            dsimp only at z0 z1 z2 z3 z4
            have HOV := hide hO5
            have HRV := hide hRv
            have H6V := hide h6v
            have H8V := hide h8v
            have HBV := hide hB9
            clear hO5 hRv h6v h8v hB9
            go_wp2_with (at_builtin; refine wpList_append_own _ rfl _ _ 31 rfl Z0 24 i0 (.agg #[.int .i64 0, .int .i64 0, .int .i64 0, .string ⟨#[]⟩, .string ⟨#[]⟩]) 5 56 Try.underlying31 hi hz0 hz1 hz2 rfl (by omega) _ _ _ rfl (HOV.out.alloc (.cells #[.int .i64 2, .int .i64 2, .int .i64 0, .string ⟨#[226, 128]⟩, .string ⟨#[226, 128]⟩] 24)) ⟨V.heap.size, 0, none⟩ 1 1 (tC (2, 2, 0, ⟨#[226, 128]⟩, ⟨#[226, 128]⟩)) rfl rfl (row_cells V (2, 2, 0, ⟨#[226, 128]⟩, ⟨#[226, 128]⟩)) (tC_one _) (by unfold maxLen; omega) (by omega) (by simp only [World.size_alloc]; omega) ?_; intro v1 w9 ho9 hg9 _)
            have hBa := HBV.out.alloc HBV.out.size (.cells #[.int .i64 2, .int .i64 2, .int .i64 0, .string ⟨#[226, 128]⟩, .string ⟨#[226, 128]⟩] 24)
            have hs9 := hg9.size
            rw [World.size_alloc] at hs9
            go_roundw
            case rel =>
              refine ⟨k + 1, _, by go_num, by omega, by simp only [List.length_set]; exact hyl, ?_, (hg9.block _ (by rw [World.size_alloc]; omega) ?_).trans ((Below.heap_alloc _ _ _ (by omega)).trans HRV.out), ?_, by omega, (hg9.block _ (by rw [World.size_alloc]; omega) ?_).trans ((Below.heap_alloc _ _ _ (by omega)).trans H6V.out), (hg9.block _ (by rw [World.size_alloc]; omega) ?_).trans ((Below.heap_alloc _ _ _ (by omega)).trans H8V.out), hBa.grown hg9 hBa.size (fun j e => by have := (HOV.out.lt j e).1; omega)⟩
              · rw [take_set_snoc hki, HYS.out, alt_snoc, HAL.out]
              · intro e; have := (HOV.out.lt _ e.symm).1; omega
              · rw [alt_snoc, HAL.out, tCs_snoc]; exact ho9
              · intro e; have := (HOV.out.lt _ e.symm).1; omega
              · intro e; have := (HOV.out.lt _ e.symm).1; omega
            case measure => simp [intOf]; omega
        · have hkn : k = n := by omega
          subst hkn
          have hsl : SlT wr (some ⟨w.heap.size + 1, 0, none⟩) ((List.range k).map altT) := by
            have := slt_of_row (m := k) hr
            rwa [hys] at this
          have htl : ((List.range k).map altT).length = k := by simp
          have htb : ∀ x ∈ (List.range k).map altT, x.1 ≤ 9223372036854775807 := by
            intro x hx
            obtain ⟨j, _, rfl⟩ := List.mem_map.1 hx
            unfold altT
            split <;> decide
          obtain ⟨a2, cap2, rfl, hsl2⟩ := slt_own hown htl
          have ks1 := fun (W : World) (h : SlT W (some ⟨w.heap.size + 1, 0, none⟩) ((List.range k).map altT)) => sum_any (some ⟨w.heap.size + 1, 0, none⟩) (k + 2) _ W h htb (by rw [htl]; omega)
          have ks2 := fun (W : World) (h : SlT W a2 ((List.range k).map altT)) => refSum_any a2 cap2 _ W h htb (by rw [htl]; omega)
          rw [htl] at ks1 ks2
          generalize sumV zT ((List.range k).map altT) = sv at *
          obtain ⟨⟨ub, uc, ul, uh, ut⟩, E2⟩ := sv
          unfold tv at ks1 ks2
          dsimp only at ks1 ks2
          have heqU := fun w => eql_ty ub uc ul uh ut ub uc ul uh ut w
          rw [show sameT ub uc ul uh ut ub uc ul uh ut = true from decide_eq_true ⟨rfl, rfl, rfl, rfl, rfl⟩] at heqU
          have KT1 := hide ks1
          have KT2 := hide ks2
          have HEQU := hide heqU
          have HSL := hide hsl
          have HSL2 := hide hsl2
          have HTL := hide htl
          have HO := hide hown
          have H6 := hide h6
          have H8 := hide h8
          have HB := hide hB
          have hge : (k : Int) ≤ (k : Int) := by omega
          have hle2 : (k : Int) ≤ (k : Int) + 2 := by omega
          clear ks1 ks2 heqU hsl hsl2 hown h6 h8 hB hr hys htb htl hlt hk
          go_upto_region 22 with (go_at_call 26; refine (KT1.out _ HSL.out).mono ?_; rintro e w4 ⟨rfl, hB4⟩; obtain ⟨⟨d0, d1, d2, d3, d4⟩, ⟨f0, f1, f2, f3, f4⟩, R, O, BB⟩ := chain5 (row_keep H6.out hB4) (.int .i64 ub) (.int .i64 uc) (.int .i64 ul) (.string uh) (.string ut); unfold set5 at R O BB; replace R := hide R; replace O := hide O; replace BB := hide BB)
          have hBv := BB.out _ _ (by omega) (bseq HB.out hB4)
          have hOv := own5b (ownsRow_bel HO.out hB4) hZ6 (.int .i64 ub) (.int .i64 uc) (.int .i64 ul) (.string uh) (.string ut)
          have h6v := R.out
          have h8v := (O.out B8 (by omega)).trans (row_keep H8.out hB4)
          clear R O BB d0 d1 d2 d3 d4 f0 f1 f2 f3 f4 HO H6 H8 HB HSL HSL2
          generalize ((((((w4.setCell ⟨B6, 0, none⟩ (.int .i64 ub)).setCell ⟨B6, 1, none⟩ (.int .i64 uc)).setCell ⟨B6, 2, none⟩ (.int .i64 ul)).setCell ⟨B6, 3, none⟩ (.string uh)).setCell ⟨B6, 4, none⟩ (.string ut)) : World) = V at *
          have hslV : SlT V a2 ((List.range k).map altT) := by
            obtain ⟨a3, cap3, he, hh⟩ := slt_own hOv HTL.out
            cases he
            exact hh
          have HSLV := hide hslV
          have H6V := hide h6v
          have H8V := hide h8v
          have HBV := hide hBv
          clear hslV h6v h8v hBv hOv
          go_upto_region 23 with (go_at_call 27; refine (KT2.out _ HSLV.out).mono ?_; rintro e w5 ⟨rfl, hB5⟩; obtain ⟨⟨d0, d1, d2, d3, d4⟩, ⟨f0, f1, f2, f3, f4⟩, R, O, BB⟩ := chain5 (row_keep H8V.out hB5) (.int .i64 ub) (.int .i64 uc) (.int .i64 ul) (.string uh) (.string ut); unfold set5 at R O BB; replace R := hide R; replace O := hide O; replace BB := hide BB)
          have hBx := BB.out _ _ (by omega) (bseq HBV.out hB5)
          have h8x := R.out
          have h6x := (O.out B6 (by omega)).trans (row_keep H6V.out hB5)
          clear R O BB d0 d1 d2 d3 d4 f0 f1 f2 f3 f4
          generalize ((((((w5.setCell ⟨B8, 0, none⟩ (.int .i64 ub)).setCell ⟨B8, 1, none⟩ (.int .i64 uc)).setCell ⟨B8, 2, none⟩ (.int .i64 ul)).setCell ⟨B8, 3, none⟩ (.string uh)).setCell ⟨B8, 4, none⟩ (.string ut)) : World) = V3 at *
          obtain ⟨x0, x1, x2, x3, x4⟩ := box_at h6x
          obtain ⟨y0, y1, y2, y3, y4⟩ := box_at h8x
          have HBX := hide hBx
          have heqU := HEQU.out
          have hg := Try.noGuard24
          have qE2 : (E2 == E2) = true := by simp
          clear hBx h8x h6x
          go_wp2_with (go_at_call 11; refine (works_any _).mono ?_; rintro e w6 ⟨rfl, hB6w⟩)
          go_ret
          exact ⟨rfl, bseq HBX.out hB6w⟩
end tallySums
end Go.Proofs.Ytojbclifafmllaa
