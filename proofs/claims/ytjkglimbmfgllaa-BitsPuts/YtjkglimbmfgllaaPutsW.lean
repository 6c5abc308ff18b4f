/- The road of BitsPuts: for all bytes and every number it returns true and writes nothing that was there. -/
import Derived.Test.YtjkglimbmfgllaaPutsH
import Derived.Test.YtjkglimbmfgllaaRefP
import Derived.Test.YtjkglimbmfgllaaWorks
namespace Go.Proofs.Ytjkglimbmfgllaa.bitsPuts
open Go.RowKit Go.Proofs.Ytjkglimbmfgllaa
set_option linter.unusedVariables false

theorem StA.slr {B : Nat} {bs : List Nat} {v : Nat} {W : World} {S : List Nat} {va : Value} (hx : ∀ x ∈ bs, x < 256) (hm : ∀ s ∈ S, bs.length + s ≤ maxLen) (h : StA B bs v W S va) : ∃ a c, va = .slice a S.length c ∧ SlR W a (S.map (row bs v)) := by
  obtain ⟨gs, h1, h2, h3, h4, h5⟩ := h
  have ht : Ties W B (List.zipWith (cellOf bs.length) gs S) (S.map (row bs v)) := by
    refine ⟨by simp [h1], fun i r hr => ?_⟩
    rw [List.getElem?_map] at hr
    obtain ⟨s, hs, rfl⟩ := Option.map_eq_some_iff.1 hr
    have hi : i < S.length := (List.getElem?_eq_some_iff.1 hs).1
    have hg : gs[i]? = some (gs[i]'(by omega)) := List.getElem?_eq_getElem (by omega)
    refine ⟨some ⟨gs[i]'(by omega), 0, none⟩, bs.length + s, ?_, (h4 i _ s hg hs).piece B (row_lt hx v s), by rw [row_length]; exact hm s (List.mem_of_getElem? hs)⟩
    rw [List.getElem?_zipWith, hg, hs, row_length]
    rfl
  have hl : (List.zipWith (cellOf bs.length) gs S).length = S.length := by simp [h1]
  have h6 := slr_of_owns (by rw [hl]; exact h5) ht
  rw [List.length_map] at h6
  exact h6

theorem StW.slr {B : Nat} {bs : List Nat} {v : Nat} {W : World} {S : List Nat} {vw : Value} (h : StW B bs v W S vw) : ∃ a c, vw = .slice a S.length c ∧ SlR W a (S.map (row bs v)) := by
  obtain ⟨ds, h0, h1, h2⟩ := h
  have h6 := slr_of_owns h1 h2
  rw [List.length_map] at h6
  exact h6

/-- Apart, of what was put. -/
theorem apart_put {B : Nat} {bs : List Nat} {v : Nat} {W : World} {S : List Nat} {a : Option Addr} {c : Nat} (hB : B ≤ W.heap.size) (h0 : 0 < S.length) (hS : S.length ≤ 8) (hm : ∀ s ∈ S, s ≤ 8) (hl : bs.length ≤ 140737488351232) (h : StA B bs v W S (.slice a S.length c)) :
    Calls Try.prog 15 #[.slice a S.length c] W fun e w' => e = .returned (.bool true) ∧ Below B W w' := by
  obtain ⟨gs, h1, h2, h3, h4, h5⟩ := h
  rcases h5.2 with ⟨_, hn⟩ | ⟨g, cap, cur, hv, hbg, hg, hn, _, hs, hc⟩
  · omega
  cases hv
  have hgs : ∀ j, j < S.length → gs[j]? = some (gs.getD j 0) := fun j hj => by rw [List.getD_eq_getElem?_getD, List.getElem?_eq_getElem (by omega)]; rfl
  have hss : ∀ j, j < S.length → S[j]? = some (S.getD j 0) := fun j hj => by rw [List.getD_eq_getElem?_getD, List.getElem?_eq_getElem hj]; rfl
  have hb : ∀ j, j < S.length → S.getD j 0 ≤ 8 := fun j hj => hm _ (List.mem_of_getElem? (hss j hj))
  have hO : ∀ j, j < S.length → OwnB W (gs.getD j 0) (row bs v (S.getD j 0)) := fun j hj => h4 j _ _ (hgs j hj) (hss j hj)
  refine apart_true g 0 S.length c B (fun j => gs.getD j 0) (fun j => bs.length + S.getD j 0) (fun j => row bs v (S.getD j 0)) W (by omega) (Array.getElem?_eq_some_iff.1 hg).1 ?_ (fun j _ => row_length _ _ _) (fun j hj => by have := hb j hj; omega) (fun j hj => hO j hj) (fun j hj => h3 _ (List.mem_of_getElem? (hgs j hj))) hB ?_ ?_
  · intro j hj
    have e : (List.zipWith (cellOf bs.length) gs S)[j]? = some (cellOf bs.length (gs.getD j 0) (S.getD j 0)) := by rw [List.getElem?_zipWith, hgs j hj, hss j hj]
    rw [← hc, List.getElem?_take, if_pos (by omega)] at e
    simp only [Nat.zero_add, World.cell?, hg]
    simpa [cellOf] using e
  · intro j hj e
    have h6 := hO j hj
    unfold OwnB at h6
    rw [show g = gs.getD j 0 from e] at hg
    rw [hg] at h6
    simp at h6
  · intro i hi j hj hne e
    have h6 := hgs i hi
    have h7 := hgs j hj
    rw [show gs.getD j 0 = gs.getD i 0 from e] at h7
    exact hne ((List.getElem?_inj (by omega : j < gs.length) h2).1 (h7.trans h6.symm))

/-- What holds from round to round. -/
def St (w : World) (bs : List Nat) (v : Nat) (S : List Nat) (va vw : Value) (W : World) : Prop :=
  StA (w.heap.size + 1) bs v W S va ∧ StW (w.heap.size + 1) bs v W S vw ∧ Dis va vw ∧ OwnB W w.heap.size (bs ++ marks bs.length) ∧ Below w.heap.size w W

set_option maxHeartbeats 8000000 in
theorem walk (a0 : Option Addr) (cap0 : Nat) (bs : List Nat) (v : Nat) (w : World) (hg : Sl w a0 bs) (hl : bs.length ≤ 140737488351232) (hv : v < 18446744073709551616) :
    Calls Try.prog 3 #[.slice a0 bs.length cap0, .int .u64 v] w fun e w' => e = .returned (.bool true) ∧ Below w.heap.size w w' := by
  obtain ⟨i1, hj, hy0, hy1, hy2⟩ := info_parts Try.info22
  have hx0 := hg.lt
  go_enter Try.func3, Try.ntmps3
  go_wp2_with (go_at_call 9; refine (spare_any a0 cap0 bs w hg (by omega)).mono ?_; rintro e w0 ⟨rfl, hO0, hB0⟩)
  have HG := hide hg
  have HX0 := hide hx0
  clear hg hx0
  go_loopw [6, 7, 8] (fun va vw s wr => ∃ S : List Nat, (s = .int .i64 1 ∧ S = [] ∨ s = .int .i64 2 ∧ S = [1, 1] ∨ s = .int .i64 4 ∧ S = [1, 1, 2, 2] ∨ s = .int .i64 8 ∧ S = [1, 1, 2, 2, 4, 4] ∨ s = .int .i64 16 ∧ S = [1, 1, 2, 2, 4, 4, 8, 8]) ∧ St w bs v S va vw wr) (fun _ _ s _ => 16 - (intOf s).toNat)
  case atStart => exact ⟨[], .inl ⟨rfl, rfl⟩, ⟨[], rfl, List.nodup_nil, by simp, by simp, World.ownsRow_nil _ _ _ _⟩, ⟨[], rfl, World.ownsRow_nil _ _ _ _, Ties.nil _ _⟩, (fun q h _ => by cases h), hO0, hB0⟩
  case round =>
    clear hO0 hB0
    obtain ⟨S, hS, hA, hW, hD, hI, hB⟩ := hrel
    have HA := hide hA
    have HW := hide hW
    have HD := hide hD
    have HI := hide hI
    have HB := hide hB
    have hsz := hI.lt
    clear hA hW hD hI hB
    rcases hS with ⟨rfl, hS⟩ | ⟨rfl, hS⟩ | ⟨rfl, hS⟩ | ⟨rfl, hS⟩ | ⟨rfl, hS⟩
    · have hSl : S.length ≤ 8 := by subst hS; decide
      have HS := hide hS
      clear hS
      obtain ⟨gs, hgs, hoa0⟩ := ofA HA.out
      obtain ⟨ds, hds, how0, htw0⟩ := HW.out
      have HGS := hide hgs
      have HDS := hide hds
      have HOA := hide hoa0
      have HOW := hide how0
      have HTW := hide htw0
      have hdl : ds.length ≤ 8 := by omega
      clear hgs hds hoa0 how0 htw0
      go_wp2_with (first
        | (go_at_call 10; refine (putD1 (some ⟨w.heap.size, 0, none⟩) (bs.length + 80) v bs wr (HI.out.head HX0.out) (by omega) hv).mono ?_; rintro e w1 ⟨rfl, hB1, hO1⟩)
        | (go_at_call 10; refine (putD1 (some ⟨w.heap.size, 0, none⟩) (bs.length + 80) v bs w1 ((HI.out.below hB1 hsz).head HX0.out) (by omega) hv).mono ?_; rintro e w2 ⟨rfl, hB2, hO2⟩; have hsz2 := (bseq hB1 hB2).size)
        | (at_builtin; refine wpList_append_own_at _ rfl _ _ 25 rfl (w.heap.size + 1) 22 i1 (.slice none 0 0) 1 24 Try.underlying25 hj hy0 hy1 hy2 rfl (by omega) _ _ _ rfl ((ownsRow_below HOA.out (bseq hB1 hB2)).alloc _) _ 2 2 [cellOf bs.length wr.heap.size 1, cellOf bs.length w1.heap.size 1] rfl rfl (cell_two_new _ _ _ _) (by simp [Value.oneCell', cellOf]) (by unfold maxLen; omega) (by omega) (by simp; omega) ?_; intro v3 w3 hown3 hgrow3 _ hat3)
        | (go_at_call 12; refine (cutD1 v _ hv).mono ?_; rintro e w' ⟨rfl, hw'⟩; replace hw' := hw'.symm; subst hw'))
      have hA2 : Below w2.heap.size w2 (w2.alloc (.cells #[cellOf bs.length wr.heap.size 1, cellOf bs.length w1.heap.size 1] 22)) := (Below.refl _ _).alloc (Nat.le_refl _) _
      have hAa := bseq (bseq hB1 hB2) hA2
      have HA3 := hide (StA.push HA.out (by omega) hB1 hO1 hB2 hO2 HGS.out HOA.out hown3 hgrow3)
      have hW2 : StW (w.heap.size + 1) bs v (w2.alloc (.cells #[cellOf bs.length wr.heap.size 1, cellOf bs.length w1.heap.size 1] 22)) S _ := HW.out.below hAa
      have HW3 := hide (hW2.beside (ownsRow_below HOA.out hAa) hgrow3 HD.out)
      have HD3 := hide (HD.out.next hat3 HOW.out (by have := hAa.size; exact this))
      have HI3 : Hid (OwnB w3 w.heap.size (bs ++ marks bs.length)) := ownB_beside (HI.out.below hAa hsz) (ownsRow_below HOA.out hAa) hgrow3
      have HB3 : Hid (Below w.heap.size w w3) := (bseq HB.out hAa).grown hgrow3 (by have := hAa.size; omega) (fun j e => by have := (HOA.out.lt j e).1; omega)
      clear hW2 hA2 hAa hown3 hgrow3 hat3 hO1 hO2 hB1 hB2 HA HW HD HI HB HOA HGS HOW HTW HDS hdl
      obtain ⟨ds, hds, how0, htw0⟩ := HW3.out
      obtain ⟨gs, hgs, hoa0⟩ := ofA HA3.out
      have HDS := hide hds
      have HOW := hide how0
      have HTW := hide htw0
      have hdl : ds.length ≤ 8 := by omega
      have hsz3 := HI3.out.lt
      clear hds how0 htw0 hgs hoa0
      have rp := refPut_any a0 cap0 bs (v % 256) 1 w3 (HG.out.below HB3.out) (by omega) (by omega) (by omega) (by omega)
      rw [show leB 1 (v % 256) = leB 1 v from leB_mod 1 v] at rp
      have RP := hide rp
      clear rp
      go_wp2_with (first
        | (go_at_call 11; refine (unhide RP).mono ?_; rintro e w4 ⟨g4, c4, rfl, hO4, hB4⟩; have hsz4 := hB4.size)
        | (at_builtin; refine wpList_append_own_at _ rfl _ _ 25 rfl (w.heap.size + 1) 22 i1 (.slice none 0 0) 1 24 Try.underlying25 hj hy0 hy1 hy2 rfl (by omega) _ _ _ rfl ((ownsRow_below HOW.out hB4).alloc _) _ 2 2 [.slice (some ⟨g4, 0, none⟩) (bs.length + 1) c4, .slice (some ⟨g4, 0, none⟩) (bs.length + 1) c4] rfl rfl (cell_two_new _ _ _ _) (by simp [Value.oneCell']) (by unfold maxLen; omega) (by omega) (by simp; omega) ?_; intro v5 w5 hown5 hgrow5 _ hat5))
      have hA4 : Below w4.heap.size w4 (w4.alloc (.cells #[.slice (some ⟨g4, 0, none⟩) (bs.length + 1) c4, .slice (some ⟨g4, 0, none⟩) (bs.length + 1) c4] 22)) := (Below.refl _ _).alloc (Nat.le_refl _) _
      have hA5 := bseq hB4 hA4
      have HW5 := hide (StW.push HX0.out (by unfold maxLen; omega) HDS.out HOW.out HTW.out hB4 hO4 hown5 hgrow5)
      have HA5 := hide ((HA3.out.below hA5).beside (ownsRow_below HOW.out hA5) hgrow5 HD3.out)
      have HD5 : Hid (Dis v3 v5) := by
        obtain ⟨gs, hgs, hoa0⟩ := ofA HA3.out
        exact (HD3.out.symm.next hat5 hoa0 hA5.size).symm
      have HI5 : Hid (OwnB w5 w.heap.size (bs ++ marks bs.length)) := ownB_beside (HI3.out.below hA5 hsz3) (ownsRow_below HOW.out hA5) hgrow5
      have HB5 : Hid (Below w.heap.size w w5) := (bseq HB3.out hA5).grown hgrow5 (by have := hA5.size; omega) (fun j e => by have := (HOW.out.lt j e).1; omega)
      clear hA4 hA5 hown5 hgrow5 hat5 hO4 hB4
      go_wp2
      go_roundw
      case rel => exact ⟨S ++ [1, 1], .inr (.inl ⟨rfl, by rw [HS.out]; rfl⟩), HA5.out, HW5.out, HD5.out, HI5.out, HB5.out⟩
      case measure => simp [intOf]
    · have hSl : S.length ≤ 8 := by subst hS; decide
      have HS := hide hS
      clear hS
      obtain ⟨gs, hgs, hoa0⟩ := ofA HA.out
      obtain ⟨ds, hds, how0, htw0⟩ := HW.out
      have HGS := hide hgs
      have HDS := hide hds
      have HOA := hide hoa0
      have HOW := hide how0
      have HTW := hide htw0
      have hdl : ds.length ≤ 8 := by omega
      clear hgs hds hoa0 how0 htw0
      go_wp2_with (first
        | (go_at_call 10; refine (putD2 (some ⟨w.heap.size, 0, none⟩) (bs.length + 80) v bs wr (HI.out.head HX0.out) (by omega) hv).mono ?_; rintro e w1 ⟨rfl, hB1, hO1⟩)
        | (go_at_call 10; refine (putD2 (some ⟨w.heap.size, 0, none⟩) (bs.length + 80) v bs w1 ((HI.out.below hB1 hsz).head HX0.out) (by omega) hv).mono ?_; rintro e w2 ⟨rfl, hB2, hO2⟩; have hsz2 := (bseq hB1 hB2).size)
        | (at_builtin; refine wpList_append_own_at _ rfl _ _ 25 rfl (w.heap.size + 1) 22 i1 (.slice none 0 0) 1 24 Try.underlying25 hj hy0 hy1 hy2 rfl (by omega) _ _ _ rfl ((ownsRow_below HOA.out (bseq hB1 hB2)).alloc _) _ 2 2 [cellOf bs.length wr.heap.size 2, cellOf bs.length w1.heap.size 2] rfl rfl (cell_two_new _ _ _ _) (by simp [Value.oneCell', cellOf]) (by unfold maxLen; omega) (by omega) (by simp; omega) ?_; intro v3 w3 hown3 hgrow3 _ hat3)
        | (go_at_call 12; refine (cutD2 v _ hv).mono ?_; rintro e w' ⟨rfl, hw'⟩; replace hw' := hw'.symm; subst hw'))
      have hA2 : Below w2.heap.size w2 (w2.alloc (.cells #[cellOf bs.length wr.heap.size 2, cellOf bs.length w1.heap.size 2] 22)) := (Below.refl _ _).alloc (Nat.le_refl _) _
      have hAa := bseq (bseq hB1 hB2) hA2
      have HA3 := hide (StA.push HA.out (by omega) hB1 hO1 hB2 hO2 HGS.out HOA.out hown3 hgrow3)
      have hW2 : StW (w.heap.size + 1) bs v (w2.alloc (.cells #[cellOf bs.length wr.heap.size 2, cellOf bs.length w1.heap.size 2] 22)) S _ := HW.out.below hAa
      have HW3 := hide (hW2.beside (ownsRow_below HOA.out hAa) hgrow3 HD.out)
      have HD3 := hide (HD.out.next hat3 HOW.out (by have := hAa.size; exact this))
      have HI3 : Hid (OwnB w3 w.heap.size (bs ++ marks bs.length)) := ownB_beside (HI.out.below hAa hsz) (ownsRow_below HOA.out hAa) hgrow3
      have HB3 : Hid (Below w.heap.size w w3) := (bseq HB.out hAa).grown hgrow3 (by have := hAa.size; omega) (fun j e => by have := (HOA.out.lt j e).1; omega)
      clear hW2 hA2 hAa hown3 hgrow3 hat3 hO1 hO2 hB1 hB2 HA HW HD HI HB HOA HGS HOW HTW HDS hdl
      obtain ⟨ds, hds, how0, htw0⟩ := HW3.out
      obtain ⟨gs, hgs, hoa0⟩ := ofA HA3.out
      have HDS := hide hds
      have HOW := hide how0
      have HTW := hide htw0
      have hdl : ds.length ≤ 8 := by omega
      have hsz3 := HI3.out.lt
      clear hds how0 htw0 hgs hoa0
      have rp := refPut_any a0 cap0 bs (v % 65536) 2 w3 (HG.out.below HB3.out) (by omega) (by omega) (by omega) (by omega)
      rw [show leB 2 (v % 65536) = leB 2 v from leB_mod 2 v] at rp
      have RP := hide rp
      clear rp
      go_wp2_with (first
        | (go_at_call 11; refine (unhide RP).mono ?_; rintro e w4 ⟨g4, c4, rfl, hO4, hB4⟩; have hsz4 := hB4.size)
        | (at_builtin; refine wpList_append_own_at _ rfl _ _ 25 rfl (w.heap.size + 1) 22 i1 (.slice none 0 0) 1 24 Try.underlying25 hj hy0 hy1 hy2 rfl (by omega) _ _ _ rfl ((ownsRow_below HOW.out hB4).alloc _) _ 2 2 [.slice (some ⟨g4, 0, none⟩) (bs.length + 2) c4, .slice (some ⟨g4, 0, none⟩) (bs.length + 2) c4] rfl rfl (cell_two_new _ _ _ _) (by simp [Value.oneCell']) (by unfold maxLen; omega) (by omega) (by simp; omega) ?_; intro v5 w5 hown5 hgrow5 _ hat5))
      have hA4 : Below w4.heap.size w4 (w4.alloc (.cells #[.slice (some ⟨g4, 0, none⟩) (bs.length + 2) c4, .slice (some ⟨g4, 0, none⟩) (bs.length + 2) c4] 22)) := (Below.refl _ _).alloc (Nat.le_refl _) _
      have hA5 := bseq hB4 hA4
      have HW5 := hide (StW.push HX0.out (by unfold maxLen; omega) HDS.out HOW.out HTW.out hB4 hO4 hown5 hgrow5)
      have HA5 := hide ((HA3.out.below hA5).beside (ownsRow_below HOW.out hA5) hgrow5 HD3.out)
      have HD5 : Hid (Dis v3 v5) := by
        obtain ⟨gs, hgs, hoa0⟩ := ofA HA3.out
        exact (HD3.out.symm.next hat5 hoa0 hA5.size).symm
      have HI5 : Hid (OwnB w5 w.heap.size (bs ++ marks bs.length)) := ownB_beside (HI3.out.below hA5 hsz3) (ownsRow_below HOW.out hA5) hgrow5
      have HB5 : Hid (Below w.heap.size w w5) := (bseq HB3.out hA5).grown hgrow5 (by have := hA5.size; omega) (fun j e => by have := (HOW.out.lt j e).1; omega)
      clear hA4 hA5 hown5 hgrow5 hat5 hO4 hB4
      go_wp2
      go_roundw
      case rel => exact ⟨S ++ [2, 2], .inr (.inr (.inl ⟨rfl, by rw [HS.out]; rfl⟩)), HA5.out, HW5.out, HD5.out, HI5.out, HB5.out⟩
      case measure => simp [intOf]
    · have hSl : S.length ≤ 8 := by subst hS; decide
      have HS := hide hS
      clear hS
      obtain ⟨gs, hgs, hoa0⟩ := ofA HA.out
      obtain ⟨ds, hds, how0, htw0⟩ := HW.out
      have HGS := hide hgs
      have HDS := hide hds
      have HOA := hide hoa0
      have HOW := hide how0
      have HTW := hide htw0
      have hdl : ds.length ≤ 8 := by omega
      clear hgs hds hoa0 how0 htw0
      go_wp2_with (first
        | (go_at_call 10; refine (putD4 (some ⟨w.heap.size, 0, none⟩) (bs.length + 80) v bs wr (HI.out.head HX0.out) (by omega) hv).mono ?_; rintro e w1 ⟨rfl, hB1, hO1⟩)
        | (go_at_call 10; refine (putD4 (some ⟨w.heap.size, 0, none⟩) (bs.length + 80) v bs w1 ((HI.out.below hB1 hsz).head HX0.out) (by omega) hv).mono ?_; rintro e w2 ⟨rfl, hB2, hO2⟩; have hsz2 := (bseq hB1 hB2).size)
        | (at_builtin; refine wpList_append_own_at _ rfl _ _ 25 rfl (w.heap.size + 1) 22 i1 (.slice none 0 0) 1 24 Try.underlying25 hj hy0 hy1 hy2 rfl (by omega) _ _ _ rfl ((ownsRow_below HOA.out (bseq hB1 hB2)).alloc _) _ 2 2 [cellOf bs.length wr.heap.size 4, cellOf bs.length w1.heap.size 4] rfl rfl (cell_two_new _ _ _ _) (by simp [Value.oneCell', cellOf]) (by unfold maxLen; omega) (by omega) (by simp; omega) ?_; intro v3 w3 hown3 hgrow3 _ hat3)
        | (go_at_call 12; refine (cutD4 v _ hv).mono ?_; rintro e w' ⟨rfl, hw'⟩; replace hw' := hw'.symm; subst hw'))
      have hA2 : Below w2.heap.size w2 (w2.alloc (.cells #[cellOf bs.length wr.heap.size 4, cellOf bs.length w1.heap.size 4] 22)) := (Below.refl _ _).alloc (Nat.le_refl _) _
      have hAa := bseq (bseq hB1 hB2) hA2
      have HA3 := hide (StA.push HA.out (by omega) hB1 hO1 hB2 hO2 HGS.out HOA.out hown3 hgrow3)
      have hW2 : StW (w.heap.size + 1) bs v (w2.alloc (.cells #[cellOf bs.length wr.heap.size 4, cellOf bs.length w1.heap.size 4] 22)) S _ := HW.out.below hAa
      have HW3 := hide (hW2.beside (ownsRow_below HOA.out hAa) hgrow3 HD.out)
      have HD3 := hide (HD.out.next hat3 HOW.out (by have := hAa.size; exact this))
      have HI3 : Hid (OwnB w3 w.heap.size (bs ++ marks bs.length)) := ownB_beside (HI.out.below hAa hsz) (ownsRow_below HOA.out hAa) hgrow3
      have HB3 : Hid (Below w.heap.size w w3) := (bseq HB.out hAa).grown hgrow3 (by have := hAa.size; omega) (fun j e => by have := (HOA.out.lt j e).1; omega)
      clear hW2 hA2 hAa hown3 hgrow3 hat3 hO1 hO2 hB1 hB2 HA HW HD HI HB HOA HGS HOW HTW HDS hdl
      obtain ⟨ds, hds, how0, htw0⟩ := HW3.out
      obtain ⟨gs, hgs, hoa0⟩ := ofA HA3.out
      have HDS := hide hds
      have HOW := hide how0
      have HTW := hide htw0
      have hdl : ds.length ≤ 8 := by omega
      have hsz3 := HI3.out.lt
      clear hds how0 htw0 hgs hoa0
      have rp := refPut_any a0 cap0 bs (v % 4294967296) 4 w3 (HG.out.below HB3.out) (by omega) (by omega) (by omega) (by omega)
      rw [show leB 4 (v % 4294967296) = leB 4 v from leB_mod 4 v] at rp
      have RP := hide rp
      clear rp
      go_wp2_with (first
        | (go_at_call 11; refine (unhide RP).mono ?_; rintro e w4 ⟨g4, c4, rfl, hO4, hB4⟩; have hsz4 := hB4.size)
        | (at_builtin; refine wpList_append_own_at _ rfl _ _ 25 rfl (w.heap.size + 1) 22 i1 (.slice none 0 0) 1 24 Try.underlying25 hj hy0 hy1 hy2 rfl (by omega) _ _ _ rfl ((ownsRow_below HOW.out hB4).alloc _) _ 2 2 [.slice (some ⟨g4, 0, none⟩) (bs.length + 4) c4, .slice (some ⟨g4, 0, none⟩) (bs.length + 4) c4] rfl rfl (cell_two_new _ _ _ _) (by simp [Value.oneCell']) (by unfold maxLen; omega) (by omega) (by simp; omega) ?_; intro v5 w5 hown5 hgrow5 _ hat5))
      have hA4 : Below w4.heap.size w4 (w4.alloc (.cells #[.slice (some ⟨g4, 0, none⟩) (bs.length + 4) c4, .slice (some ⟨g4, 0, none⟩) (bs.length + 4) c4] 22)) := (Below.refl _ _).alloc (Nat.le_refl _) _
      have hA5 := bseq hB4 hA4
      have HW5 := hide (StW.push HX0.out (by unfold maxLen; omega) HDS.out HOW.out HTW.out hB4 hO4 hown5 hgrow5)
      have HA5 := hide ((HA3.out.below hA5).beside (ownsRow_below HOW.out hA5) hgrow5 HD3.out)
      have HD5 : Hid (Dis v3 v5) := by
        obtain ⟨gs, hgs, hoa0⟩ := ofA HA3.out
        exact (HD3.out.symm.next hat5 hoa0 hA5.size).symm
      have HI5 : Hid (OwnB w5 w.heap.size (bs ++ marks bs.length)) := ownB_beside (HI3.out.below hA5 hsz3) (ownsRow_below HOW.out hA5) hgrow5
      have HB5 : Hid (Below w.heap.size w w5) := (bseq HB3.out hA5).grown hgrow5 (by have := hA5.size; omega) (fun j e => by have := (HOW.out.lt j e).1; omega)
      clear hA4 hA5 hown5 hgrow5 hat5 hO4 hB4
      go_wp2
      go_roundw
      case rel => exact ⟨S ++ [4, 4], .inr (.inr (.inr (.inl ⟨rfl, by rw [HS.out]; rfl⟩))), HA5.out, HW5.out, HD5.out, HI5.out, HB5.out⟩
      case measure => simp [intOf]
    · have hSl : S.length ≤ 8 := by subst hS; decide
      have HS := hide hS
      clear hS
      obtain ⟨gs, hgs, hoa0⟩ := ofA HA.out
      obtain ⟨ds, hds, how0, htw0⟩ := HW.out
      have HGS := hide hgs
      have HDS := hide hds
      have HOA := hide hoa0
      have HOW := hide how0
      have HTW := hide htw0
      have hdl : ds.length ≤ 8 := by omega
      clear hgs hds hoa0 how0 htw0
      go_wp2_with (first
        | (go_at_call 10; refine (putD8 (some ⟨w.heap.size, 0, none⟩) (bs.length + 80) v bs wr (HI.out.head HX0.out) (by omega) hv).mono ?_; rintro e w1 ⟨rfl, hB1, hO1⟩)
        | (go_at_call 10; refine (putD8 (some ⟨w.heap.size, 0, none⟩) (bs.length + 80) v bs w1 ((HI.out.below hB1 hsz).head HX0.out) (by omega) hv).mono ?_; rintro e w2 ⟨rfl, hB2, hO2⟩; have hsz2 := (bseq hB1 hB2).size)
        | (at_builtin; refine wpList_append_own_at _ rfl _ _ 25 rfl (w.heap.size + 1) 22 i1 (.slice none 0 0) 1 24 Try.underlying25 hj hy0 hy1 hy2 rfl (by omega) _ _ _ rfl ((ownsRow_below HOA.out (bseq hB1 hB2)).alloc _) _ 2 2 [cellOf bs.length wr.heap.size 8, cellOf bs.length w1.heap.size 8] rfl rfl (cell_two_new _ _ _ _) (by simp [Value.oneCell', cellOf]) (by unfold maxLen; omega) (by omega) (by simp; omega) ?_; intro v3 w3 hown3 hgrow3 _ hat3)
        | (go_at_call 12; refine (cutD8 v _ hv).mono ?_; rintro e w' ⟨rfl, hw'⟩; replace hw' := hw'.symm; subst hw'))
      have hA2 : Below w2.heap.size w2 (w2.alloc (.cells #[cellOf bs.length wr.heap.size 8, cellOf bs.length w1.heap.size 8] 22)) := (Below.refl _ _).alloc (Nat.le_refl _) _
      have hAa := bseq (bseq hB1 hB2) hA2
      have HA3 := hide (StA.push HA.out (by omega) hB1 hO1 hB2 hO2 HGS.out HOA.out hown3 hgrow3)
      have hW2 : StW (w.heap.size + 1) bs v (w2.alloc (.cells #[cellOf bs.length wr.heap.size 8, cellOf bs.length w1.heap.size 8] 22)) S _ := HW.out.below hAa
      have HW3 := hide (hW2.beside (ownsRow_below HOA.out hAa) hgrow3 HD.out)
      have HD3 := hide (HD.out.next hat3 HOW.out (by have := hAa.size; exact this))
      have HI3 : Hid (OwnB w3 w.heap.size (bs ++ marks bs.length)) := ownB_beside (HI.out.below hAa hsz) (ownsRow_below HOA.out hAa) hgrow3
      have HB3 : Hid (Below w.heap.size w w3) := (bseq HB.out hAa).grown hgrow3 (by have := hAa.size; omega) (fun j e => by have := (HOA.out.lt j e).1; omega)
      clear hW2 hA2 hAa hown3 hgrow3 hat3 hO1 hO2 hB1 hB2 HA HW HD HI HB HOA HGS HOW HTW HDS hdl
      obtain ⟨ds, hds, how0, htw0⟩ := HW3.out
      obtain ⟨gs, hgs, hoa0⟩ := ofA HA3.out
      have HDS := hide hds
      have HOW := hide how0
      have HTW := hide htw0
      have hdl : ds.length ≤ 8 := by omega
      have hsz3 := HI3.out.lt
      clear hds how0 htw0 hgs hoa0
      have rp := refPut_any a0 cap0 bs (v % 18446744073709551616) 8 w3 (HG.out.below HB3.out) (by omega) (by omega) (by omega) (by omega)
      rw [show leB 8 (v % 18446744073709551616) = leB 8 v from leB_mod 8 v] at rp
      have RP := hide rp
      clear rp
      go_wp2_with (first
        | (go_at_call 11; refine (unhide RP).mono ?_; rintro e w4 ⟨g4, c4, rfl, hO4, hB4⟩; have hsz4 := hB4.size)
        | (at_builtin; refine wpList_append_own_at _ rfl _ _ 25 rfl (w.heap.size + 1) 22 i1 (.slice none 0 0) 1 24 Try.underlying25 hj hy0 hy1 hy2 rfl (by omega) _ _ _ rfl ((ownsRow_below HOW.out hB4).alloc _) _ 2 2 [.slice (some ⟨g4, 0, none⟩) (bs.length + 8) c4, .slice (some ⟨g4, 0, none⟩) (bs.length + 8) c4] rfl rfl (cell_two_new _ _ _ _) (by simp [Value.oneCell']) (by unfold maxLen; omega) (by omega) (by simp; omega) ?_; intro v5 w5 hown5 hgrow5 _ hat5))
      have hA4 : Below w4.heap.size w4 (w4.alloc (.cells #[.slice (some ⟨g4, 0, none⟩) (bs.length + 8) c4, .slice (some ⟨g4, 0, none⟩) (bs.length + 8) c4] 22)) := (Below.refl _ _).alloc (Nat.le_refl _) _
      have hA5 := bseq hB4 hA4
      have HW5 := hide (StW.push HX0.out (by unfold maxLen; omega) HDS.out HOW.out HTW.out hB4 hO4 hown5 hgrow5)
      have HA5 := hide ((HA3.out.below hA5).beside (ownsRow_below HOW.out hA5) hgrow5 HD3.out)
      have HD5 : Hid (Dis v3 v5) := by
        obtain ⟨gs, hgs, hoa0⟩ := ofA HA3.out
        exact (HD3.out.symm.next hat5 hoa0 hA5.size).symm
      have HI5 : Hid (OwnB w5 w.heap.size (bs ++ marks bs.length)) := ownB_beside (HI3.out.below hA5 hsz3) (ownsRow_below HOW.out hA5) hgrow5
      have HB5 : Hid (Below w.heap.size w w5) := (bseq HB3.out hA5).grown hgrow5 (by have := hA5.size; omega) (fun j e => by have := (HOW.out.lt j e).1; omega)
      clear hA4 hA5 hown5 hgrow5 hat5 hO4 hB4
      go_wp2
      go_roundw
      case rel => exact ⟨S ++ [8, 8], .inr (.inr (.inr (.inr ⟨rfl, by rw [HS.out]; rfl⟩))), HA5.out, HW5.out, HD5.out, HI5.out, HB5.out⟩
      case measure => simp [intOf]
    · have hSl : S.length = 8 := by subst hS; rfl
      have hS8 : ∀ s ∈ S, s ≤ 8 := by subst hS; decide
      clear hS
      obtain ⟨a1, c1, rfl, hs1⟩ := HA.out.slr HX0.out (fun s hs => by have := hS8 s hs; unfold maxLen; omega)
      obtain ⟨a2, c2, rfl, hs2⟩ := HW.out.slr
      have ap := fun (n : Nat) => apart_put (W := wr.drewN n) (by simp; omega) (by omega) (by omega) hS8 hl (HA.out.below (below_drewN (Below.refl _ _) n))
      have er := eqRows_true a1 a2 c1 c2 (S.map (row bs v)) wr hs1 hs2 (by simp; omega)
      rw [List.length_map] at er
      have AP := hide ap
      have ER := hide er
      clear ap er hs1 hs2
      have HIm : Hid (∀ m, OwnB (wr.drewN m) w.heap.size (bs ++ marks bs.length)) := fun m => HI.out.of_block rfl
      have HBm : Hid (∀ m, Below w.heap.size w (wr.drewN m)) := fun m => below_drewN HB.out m
      have HM : Hid (w.heap.size ≤ w.heap.size + 1) := Nat.le_succ _
      have hl47 : bs.length ≤ 140737488355328 := by omega
      rw [hSl] at *
      go_wp2_with (first
        | (go_at_call 13; refine (unhide ER).mono ?_; rintro e w1 ⟨rfl, n1, rfl⟩)
        | (go_at_call 14; refine (kept_true w.heap.size a0 cap0 bs (wr.drewN n1) (HIm.out n1) (HG.out.below (HBm.out n1)) hl47).mono ?_; rintro e w2 ⟨rfl, n2, rfl⟩)
        | (go_at_call 15; refine (unhide AP _).mono ?_; rintro e w3 ⟨rfl, hB3⟩)
        | (go_at_call 14; refine (kept_true w.heap.size a0 cap0 bs w3 ((HIm.out _).below hB3 (Nat.lt_succ_self _)) (HG.out.below ((HBm.out _).trans (hB3.mono HM.out))) hl47).mono ?_; rintro e w4 ⟨rfl, n4, rfl⟩)
        | (go_at_call 16; refine (works_any _).mono ?_; rintro e w5 ⟨rfl, hB5⟩))
      go_ret
      exact ⟨rfl, bseq (below_drewN ((HBm.out _).trans (hB3.mono HM.out)) _) hB5⟩

end Go.Proofs.Ytjkglimbmfgllaa.bitsPuts
