/- The road of KindsAlike: alike is an equivalence; a text is alike to what it is folded. -/
import Derived.Test.YtdjkbldbihpocaaKAlM
import Derived.Test.YtdjkbldbihpocaaKAwk
import Derived.Test.YtdjkbldbihpocaaUAwake
import Derived.Lib.AppendStr
import Derived.Lib.ConvBytes
import Derived.WalkKit
namespace Go.Proofs.Ytdjkbldbihpocaa
open Go.RowKit
set_option linter.unusedVariables false

theorem addr_addK (g j : Nat) : (⟨g, 0, none⟩ : Addr).add j = ⟨g, j, none⟩ := by
  simp [Addr.add]
  intro h; exact h.symm
theorem Try.info8k : (Try.prog.info? 5).map (fun i => (i.zero, i.size, i.bytes)) = some (some (.int .u8 0), 1, 1) := by kernel_rfl
/-- 'string(out)' of a row of the call's own. -/
theorem run_string_ownK (w : World) (base : Nat) (v : Value) (l : List UInt8) (h : w.ownsRow base 5 1 v l.length (Lib.byteCells l)) : (convert 34 9 v).run Try.prog w = .ok (.string ⟨l.toArray⟩) w := by
  rcases h.2 with ⟨rfl, h0⟩ | ⟨g, cap, cur, rfl, _, hg, hn, _, hs, hc⟩
  · have hl : l = [] := List.eq_nil_of_length_eq_zero h0
    subst hl
    rw [run_convert_bytes_string w 34 9 5 none 0 0 Try.underlying34 Try.underlying5 Try.underlying9]
    rfl
  · refine run_convert_bytes_back (P := Try.prog) w 34 9 5 ⟨g, 0, none⟩ cap l Try.underlying34 Try.underlying5 Try.underlying9 (fun j hj => ?_)
    have h1 : (Lib.byteCells l)[j]? = some (.int .u8 (l[j].toNat : Int)) := by unfold Lib.byteCells; rw [List.getElem?_map, List.getElem?_eq_getElem hj]; rfl
    rw [← hc, List.getElem?_take, if_pos (by omega)] at h1
    rw [addr_addK g j]
    simp only [World.cell?, hg]
    simpa using h1


theorem ownsRow_belowF {W W' : World} {base : Nat} {e : TypeId} {size : Nat} {v : Value} {k : Nat} {xs : List Value} (h : W.ownsRow base e size v k xs) (hb : Below W.heap.size W W') : W'.ownsRow base e size v k xs := by
  refine ⟨h.1, ?_⟩
  rcases h.2 with h2 | ⟨g, cap, cur, hv, hg, hh, r⟩
  · exact .inl h2
  · exact .inr ⟨g, cap, cur, hv, hg, (hb.block g (Array.getElem?_eq_some_iff.1 hh).1).trans hh, r⟩
theorem one_sluK (w : World) (z : Int) : SlU (w.alloc (.cells #[.int .i32 z] 21)) (some ⟨w.heap.size, 0, none⟩) [z] := by
  refine .inr ⟨w.heap.size, 0, rfl, by simp, fun i x hx => ?_⟩
  cases i with
  | zero =>
    simp only [List.getElem?_cons_zero, Option.some.injEq] at hx
    subst hx
    exact cell_one_new w (.int .i32 z) 21 0 _ rfl
  | succ i => simp at hx
theorem encode1 (z : Int) (w : World) : Calls Try.prog 17 #[.slice (some ⟨w.heap.size, 0, none⟩) 1 1] (w.alloc (.cells #[.int .i32 z] 21)) fun e w' => e = .returned (.string ⟨(Lib.encodeRune z).toArray⟩) ∧ w' = w.alloc (.cells #[.int .i32 z] 21) := by
  have := encode_any (some ⟨w.heap.size, 0, none⟩) 1 [z] _ (one_sluK w z)
  have e : runesBytes [z] = ⟨(Lib.encodeRune z).toArray⟩ := by
    unfold runesBytes
    rw [List.foldl_cons, List.foldl_nil, encode_list]
    exact ByteArray.empty_append
  rw [e] at this
  exact this
set_option maxHeartbeats 2000000 in
theorem folded_any (s : ByteArray) (w : World) (hs : s.size ≤ 140737488351232) :
    Calls Try.prog 6 #[.string s] w fun e w' => e = .returned (.string ⟨(fdV (bl s)).toArray⟩) ∧ Below w.heap.size w w' := by
  obtain ⟨i0, hi, hz0, hz1, hz2⟩ := info_parts Try.info8k
  generalize hR : fdV (bl s) = R
  have HR := hide hR
  clear hR
  go_enter Try.func6, Try.ntmps6
  go_wp2_with (fail)
  go_loopw [0, 3] (fun q v wr => ∃ (t : ByteArray) (acc : List UInt8), q = .string t ∧ t.size ≤ s.size ∧ acc ++ fdV (bl t) = R ∧ acc.length + t.size ≤ s.size ∧ wr.ownsRow w.heap.size 5 1 v acc.length (Lib.byteCells acc) ∧ Below w.heap.size w wr) (fun q _ _ => strSize q)
  case atStart => exact ⟨s, [], rfl, Nat.le_refl _, HR.out, by simp, World.ownsRow_nil _ _ _ _, Below.refl _ _⟩
  case round =>
    obtain ⟨t, acc, rfl, hts, hacc, hlen, hrow, hB⟩ := hrel
    have hsw := hB.size
    by_cases ht : t.size = 0
    · have htI : (t.size : Int) ≤ 0 := by omega
      rw [bl_nil ht, fdV_nil, List.append_nil] at hacc
      subst hacc
      have hcv := run_string_ownK _ _ _ _ hrow
      go_wp2_with (fail)
      go_ret
      exact ⟨rfl, hB⟩
    · have htp : 0 < t.size := by omega
      have hne := bl_ne htp
      have htI : (0 : Int) < (t.size : Int) := by omega
      have kf := fun w' => first_any t w' (by omega)
      have e1 : firstV (bl t) = ((rune (bl t) : Int), (cw (bl t) : Int), decide (W (bl t) ≠ 0)) := by unfold firstV; rw [if_neg hne]
      rw [e1] at kf
      have hc1 := cw_pos (bl t)
      have hc2 := cw_len _ hne
      rw [bl_len] at hc2
      have hcI : (1 : Int) ≤ (cw (bl t) : Int) := by omega
      have hcI2 : (cw (bl t) : Int) ≤ (t.size : Int) := by omega
      have hdr : bl (t.extract (cw (bl t)) t.size) = (bl t).drop (cw (bl t)) := bl_from t _
      have hsz : (t.extract (cw (bl t)) t.size).size = t.size - cw (bl t) := by rw [ByteArray.size_extract]; omega
      rw [fdV_cons hne] at hacc
      have h4 := fd1_cw hne
      by_cases hw : W (bl t) = 0
      · have hd : decide (W (bl t) ≠ 0) = false := by simp [hw]
        rw [hd] at kf
        have hc := cw_0 hw
        have ef : fd1 (bl t) = (bl t).take 1 := by unfold fd1; rw [if_neg (by rw [hw]; simp)]
        have hb1 : bl (t.extract 0 1) = (bl t).take 1 := bl_to t 1
        have hs1 : (t.extract 0 1).size = 1 := by rw [ByteArray.size_extract]; omega
        rw [hc] at kf hcI hcI2 hdr hsz hacc
        have KF := hide kf
        have HROW := hide hrow
        have HAC := hide hacc
        have HDR := hide hdr
        have HSZ := hide hsz
        have HS1 := hide hs1
        have HB1 := hide hb1
        have HEF := hide ef
        have HB := hide hB
        generalize rune (bl t) = r at *
        clear kf hrow hacc hdr hsz hs1 hb1 ef hB hd hc1 hc2 hc e1 hne hw h4
        go_wp2_with (first | (go_at_call 16; refine (KF.out _).mono ?_; rintro e w1 ⟨rfl, hB1⟩; have HO1 := hide (ownsRow_belowF HROW.out hB1); have hw1 := hB1.size) | (at_builtin; refine Lib.wpList_append_own_string _ rfl _ _ 34 9 rfl w.heap.size 5 i0 Try.underlying34 Try.underlying9 hi hz0 hz1 hz2 _ acc.length (Lib.byteCells acc) rfl HO1.out (t.extract 0 1) rfl (by simp only [maxLen]; have := HS1.out; omega) (by have := HS1.out; omega) (by omega) ?_; intro v' w4 hown' hgrow' _))
        go_roundw
        case rel =>
          refine ⟨t.extract 1 t.size, acc ++ (bl t).take 1, rfl, by have := HSZ.out; omega, ?_, ?_, ?_, ?_⟩
          · rw [HDR.out, List.append_assoc, ← HEF.out]; exact HAC.out
          · rw [List.length_append, List.length_take, HSZ.out, bl_len]; omega
          · have e2 : Lib.byteCells (acc ++ (bl t).take 1) = Lib.byteCells acc ++ Lib.strCells (t.extract 0 1) := by
              rw [Lib.byteCells_append, ← HB1.out]; rfl
            have e3 : (acc ++ (bl t).take 1).length = acc.length + (t.extract 0 1).size := by rw [List.length_append, ← HB1.out, bl_len]
            rw [e2, e3]; exact hown'
          · exact (bseq HB.out hB1).grown hgrow' (by omega) (fun j e => (HO1.out.lt j e).1)
        case measure => have := HSZ.out; simp [strSize]; omega
      · have hd : decide (W (bl t) ≠ 0) = true := by simp [hw]
        rw [hd] at kf
        have ef : fd1 (bl t) = Lib.encodeRune (foldK (rune (bl t) : Nat)) := by unfold fd1; rw [if_pos hw]
        rw [ef] at hacc h4
        have kfo := fun w' => fold_any (rune (bl t) : Nat) w'
        generalize rune (bl t) = r at *
        generalize foldK (r : Nat) = z at *
        obtain ⟨U, hU⟩ : ∃ U : ByteArray, U = ⟨(Lib.encodeRune z).toArray⟩ := ⟨_, rfl⟩
        have hUb : bl U = Lib.encodeRune z := by rw [hU]; rfl
        have hUs : U.size = (Lib.encodeRune z).length := by rw [← bl_len, hUb]
        have ke := fun w' => encode1 z w'
        rw [← hU] at ke
        have KF := hide kf
        have KFO := hide kfo
        have KE := hide ke
        have HROW := hide hrow
        have HAC := hide hacc
        have HDR := hide hdr
        have HSZ := hide hsz
        have HUB := hide hUb
        have HUS := hide (show U.size ≤ cw (bl t) by omega)
        have HB := hide hB
        generalize cw (bl t) = c at *
        clear kf kfo ke hrow hacc hdr hsz hUb hUs hU ef hB hd e1 hne hw h4
        have HC2 := hide hc2
        go_wp2_with (first | (go_at_call 16; refine (KF.out _).mono ?_; rintro e w1 ⟨rfl, hB1⟩; have HO1 := hide (ownsRow_belowF HROW.out hB1); have hw1 := hB1.size) | (go_at_call 8; refine (KFO.out _).mono ?_; rintro e w2 ⟨rfl, hw2⟩; subst hw2) | (go_at_call 17; refine (KE.out _).mono ?_; rintro e w3 ⟨rfl, hw3⟩; subst hw3; have HO3 := hide (HO1.out.alloc (.cells #[.int .i32 z] 21)); have HB3 := hide ((bseq HB.out hB1).alloc (bseq HB.out hB1).size (.cells #[.int .i32 z] 21)); have hw3s := (bseq HB.out hB1).size) | (at_builtin; refine Lib.wpList_append_own_string _ rfl _ _ 34 9 rfl w.heap.size 5 i0 Try.underlying34 Try.underlying9 hi hz0 hz1 hz2 _ acc.length (Lib.byteCells acc) rfl HO3.out U rfl (by simp only [maxLen]; have := HUS.out; omega) (by have := HUS.out; omega) (by have := HB3.out.size; omega) ?_; intro v' w4 hown' hgrow' _))
        go_roundw
        case rel =>
          refine ⟨t.extract c t.size, acc ++ Lib.encodeRune z, rfl, by have := HSZ.out; omega, ?_, ?_, ?_, ?_⟩
          · rw [HDR.out, List.append_assoc]; exact HAC.out
          · rw [List.length_append, HSZ.out, ← HUB.out, bl_len]; have := HUS.out; omega
          · have e2 : Lib.byteCells (acc ++ Lib.encodeRune z) = Lib.byteCells acc ++ Lib.strCells U := by
              rw [Lib.byteCells_append, ← HUB.out]; rfl
            have e3 : (acc ++ Lib.encodeRune z).length = acc.length + U.size := by rw [List.length_append, ← HUB.out, bl_len]
            rw [e2, e3]; exact hown'
          · exact HB3.out.grown hgrow' HB3.out.size (fun j e => (HO3.out.lt j e).1)
        case measure => have := HSZ.out; simp [strSize]; omega
end Go.Proofs.Ytdjkbldbihpocaa
