/- What the document's All answers: the lines of a text, as a row of its own. -/
import Derived.Test.YtmhbhpjpnmggkaaDoorLREnd
import Derived.Test.YtmhbhpjpnmggkaaDoorLM2
import Derived.OwnWalk
import Derived.Maps.AppendAt
import Derived.Deep.RegionHeld3
namespace Go.Proofs.YtmhbhpjpnmggkaaDoor
open Go.RowKit Go.Shelf
set_option linter.unusedVariables false

theorem Tryd.infoL : (Tryd.prog.info? 71).map (fun i => (i.zero, i.size, i.bytes)) = some (some (.agg #[.int .i64 0, .int .i64 0, .int .i64 0]), 3, 24) := by kernel_rfl
/-- A line as three cells. -/
def lnC (x : Nat × Nat × Nat) : List Value := [.int .i64 (x.1 : Int), .int .i64 (x.2.1 : Int), .int .i64 (x.2.2 : Int)]
theorem lnC_len (xs : List (Nat × Nat × Nat)) : (xs.flatMap lnC).length = xs.length * 3 := by
  induction xs with
  | nil => rfl
  | cons x xs ih => simp [List.flatMap_cons, ih, lnC]; omega

theorem ownsRow_below' {W W' : World} {base : Nat} {e : TypeId} {size : Nat} {v : Value} {k : Nat} {xs : List Value} (h : W.ownsRow base e size v k xs) (hb : Below W.heap.size W W') : W'.ownsRow base e size v k xs := by
  refine ⟨h.1, ?_⟩
  rcases h.2 with h2 | ⟨g, cap, cur, hv, hg, hh, r⟩
  · exact .inl h2
  · exact .inr ⟨g, cap, cur, hv, hg, (hb.block g (Array.getElem?_eq_some_iff.1 hh).1).trans hh, r⟩
theorem cell3_new (W : World) (t : TypeId) (a b c : Value) : ∀ j u, [a, b, c][j]? = some u → (W.alloc (.cells #[a, b, c] t)).cell? ((⟨W.heap.size, 0, none⟩ : Addr).add j) = some u := by
  intro j u hj
  match j, hj with
  | 0, hj => simp at hj; subst hj; simp [Addr.add]
  | 1, hj => simp at hj; subst hj; simp [Addr.add]
  | 2, hj => simp at hj; subst hj; simp [Addr.add]
  | n + 3, hj => simp at hj
theorem flat_snoc (xs : List (Nat × Nat × Nat)) (x : Nat × Nat × Nat) : (xs ++ [x]).flatMap lnC = xs.flatMap lnC ++ [.int .i64 (x.1 : Int), .int .i64 (x.2.1 : Int), .int .i64 (x.2.2 : Int)] := by
  rw [List.flatMap_append]; simp [lnC]

set_option maxHeartbeats 4000000 in
theorem rall_any (s : ByteArray) (w : World) (hs : s.size ≤ 1099511627776) :
    Calls Tryd.prog 35 #[.string s] w fun e w' => ∃ v, e = .returned v ∧ w'.ownsRow w.heap.size 71 3 v (Ls (bl s)).length ((Ls (bl s)).flatMap lnC) ∧ Below w.heap.size w w' := by
  obtain ⟨i0, hi, hz0, hz1, hz2⟩ := info_parts Tryd.infoL
  have kr := fun n w' => rend_any s n w' (by omega)
  have KR := hide kr
  clear kr
  have hsI : (s.size : Int) ≤ 1099511627776 := by omega
  have HS := hide hs
  clear hs
  go_enter Tryd.func35, Tryd.ntmps35
  go_wp2
  go_loopw [3, 4, 5] (fun v f q w' => ∃ i : Nat, q = .int .i64 (i : Int) ∧ f = .int .i64 (((sofar (bl s) i).1 : Nat) : Int) ∧ i ≤ s.size ∧ w'.ownsRow w.heap.size 71 3 v (sofar (bl s) i).2.length ((sofar (bl s) i).2.flatMap lnC) ∧ Below w.heap.size w w') (fun _ _ q _ => (s.size - intOf q).toNat)
  case atStart => exact ⟨0, rfl, rfl, by omega, World.ownsRow_nil _ _ _ _, Below.refl _ _⟩
  case round =>
    obtain ⟨i, rfl, rfl, hin, hrow, hB⟩ := hrel
    have hfr := (sofar_inv (bl s) i).2.1
    have hlen := sofar_len (bl s) i
    rw [bl_len] at hfr
    generalize hso : sofar (bl s) i = so at *
    obtain ⟨fr, out⟩ := so
    simp only at hrow hfr hlen
    have hlenI : Hid (out.length ≤ 1099511627776) := show _ ≤ _ by have := HS.out; omega
    have HSO := hide hso
    have HB := hide hB
    have HR := hide hrow
    clear hso hB hrow
    by_cases hlt : i < s.size
    · have hltI : (i : Int) < (s.size : Int) := by omega
      have ke := fun w' => KR.out (i : Int) w'
      have hev : endV (bl s) (i : Int) = ((endW (bl s) i : Int), decide (endW (bl s) i ≠ 0)) := by unfold endV; rw [bl_len, if_pos ⟨by omega, hltI⟩, Int.toNat_natCast]
      rw [hev] at ke
      have hend := @endW_end (bl s) i
      have hsk := @sofar_no (bl s) i
      have hsy := @sofar_end (bl s) i
      rw [bl_len] at hend
      by_cases he : endW (bl s) i = 0
      · have hd : decide (endW (bl s) i ≠ 0) = false := by simp [he]
        rw [hd] at ke
        have hnx := hsk he
        have KE := hide ke
        have HNX := hide hnx
        clear ke hev hend hsk hsy hd hnx he
        go_wp2_with (go_at_call 53; refine (KE.out _).mono ?_; rintro e w2 ⟨m, rfl, hm, hB2⟩)
        go_roundw
        case rel => exact ⟨i + 1, by go_num, by rw [HNX.out, HSO.out], by omega, by rw [HNX.out, HSO.out]; exact ownsRow_below' HR.out hB2, bseq HB.out hB2⟩
        case measure => simp [intOf]; omega
      · have hd : decide (endW (bl s) i ≠ 0) = true := by simp [he]
        rw [hd] at ke
        have hend' := hend he
        have hnx : sofar (bl s) (i + endW (bl s) i) = (i + endW (bl s) i, out ++ [(fr, i, endW (bl s) i)]) := by rw [hsy he]; unfold stp; rw [HSO.out]
        generalize endW (bl s) i = en at *
        have hendI : (i : Int) + (en : Int) ≤ (s.size : Int) := by omega
        have hen0 : 0 < en := by omega
        have KE := hide ke
        have HNX := hide hnx
        clear ke hev hend hsk hsy hd hnx he
        go_wp2_with (first | (go_at_call 53; refine (KE.out _).mono ?_; rintro e w2 ⟨m, rfl, hm, hB2⟩; obtain rfl := hm (by first | exact rfl | trivial); have hr2 := ownsRow_below' HR.out hB2) | (at_builtin; refine wpList_append_own_at _ rfl _ _ 66 rfl w.heap.size 71 i0 (.agg #[.int .i64 0, .int .i64 0, .int .i64 0]) 3 24 Tryd.underlying66 hi hz0 hz1 hz2 rfl (by decide) _ _ _ rfl (hr2.alloc _) ⟨w2.heap.size, 0, none⟩ 1 1 [.int .i64 (fr : Int), .int .i64 (i : Int), .int .i64 (en : Int)] rfl rfl (cell3_new _ _ _ _ _) (by simp [Value.oneCell']) (by have := hlenI.out; unfold maxLen; omega) (by have := hlenI.out; omega) (by have := HB.out.size; have := hB2.size; simp; omega) ?_; intro v' w3 hown' hgrow _ _))
        go_roundw
        case rel =>
          refine ⟨i + en, by go_num, ?_, by omega, ?_, ?_⟩
          · rw [HNX.out]; go_num
          · rw [HNX.out]
            simp only
            rw [flat_snoc, List.length_append, List.length_singleton]
            exact hown'
          · refine ((bseq HB.out hB2).alloc (by have := HB.out.size; have := hB2.size; omega) _).grown hgrow (by have := HB.out.size; have := hB2.size; simp; omega) (fun k e => ?_)
            exact (hr2.lt k e).1
        case measure => simp [intOf]; omega
    · have hltI : (s.size : Int) ≤ (i : Int) := by omega
      have hie : i = s.size := by omega
      go_wp2_with (at_builtin; refine wpList_append_own_at _ rfl _ _ 66 rfl w.heap.size 71 i0 (.agg #[.int .i64 0, .int .i64 0, .int .i64 0]) 3 24 Tryd.underlying66 hi hz0 hz1 hz2 rfl (by decide) _ _ _ rfl (HR.out.alloc _) ⟨_, 0, none⟩ 1 1 [.int .i64 (fr : Int), .int .i64 (s.size : Int), .int .i64 0] rfl rfl (cell3_new _ _ _ _ _) (by simp [Value.oneCell']) (by have := hlenI.out; unfold maxLen; omega) (by have := hlenI.out; omega) (by have := HB.out.size; simp; omega) ?_; intro v' w3 hown' hgrow _ _)
      go_ret
      have hLs : Ls (bl s) = out ++ [(fr, s.size, 0)] := by
        unfold Ls
        rw [bl_len, ← hie, HSO.out]
      refine ⟨v', rfl, ?_, ?_⟩
      · rw [hLs, flat_snoc, List.length_append, List.length_singleton]
        exact hown'
      · refine (HB.out.alloc HB.out.size _).grown hgrow (by have := HB.out.size; simp; omega) (fun k e => ?_)
        exact (HR.out.lt k e).1
end Go.Proofs.YtmhbhpjpnmggkaaDoor
