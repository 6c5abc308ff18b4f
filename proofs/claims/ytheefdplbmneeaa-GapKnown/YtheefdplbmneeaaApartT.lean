/- Apart answers true for lists of bytes that lie in blocks of their own, full (of whatever type), or that are nil, and writes none but these. -/
import Derived.Test.YtheefdplbmneeaaApart
namespace Go.Proofs.Ytheefdplbmneeaa
open Go.RowKit
set_option linter.unusedVariables false

/-- A block of type t holds these bytes. -/
def OwnT (t : TypeId) (w : World) (g : Nat) (bs : List Nat) : Prop := w.heap[g]? = some (.cells (bs.map B8).toArray t (0, 0))
section
variable {t : TypeId}
theorem OwnT.lt {w : World} {g : Nat} {bs : List Nat} (h : OwnT t w g bs) : g < w.heap.size := (Array.getElem?_eq_some_iff.1 h).1
theorem OwnT.frozen {w : World} {g : Nat} {bs : List Nat} (h : OwnT t w g bs) (i : Nat) : w.frozen? ⟨g, i, none⟩ = false := by simp [World.frozen?, show w.heap[g]? = _ from h]
theorem OwnT.cell {w : World} {g : Nat} {bs : List Nat} (h : OwnT t w g bs) (i x : Nat) (hx : bs[i]? = some x) : w.cell? ⟨g, i, none⟩ = some (.int .u8 (x : Int)) := by
  simp [World.cell?, show w.heap[g]? = _ from h, hx, B8]
theorem OwnT.of_block {w w' : World} {g : Nat} {bs : List Nat} (h : OwnT t w g bs) (e : w'.heap[g]? = w.heap[g]?) : OwnT t w' g bs := e.trans h
theorem OwnT.below {B : Nat} {w w' : World} {g : Nat} {bs : List Nat} (h : OwnT t w g bs) (hb : Below B w w') (hg : g < B) : OwnT t w' g bs := h.of_block (hb.block g hg)
theorem OwnT.set {w : World} {g : Nat} {bs : List Nat} (h : OwnT t w g bs) (i x : Nat) : OwnT t (w.setCell ⟨g, i, none⟩ (.int .u8 (x : Int))) g (bs.set i x) := by
  unfold OwnT at *
  simp only [World.setCell, Array.getElem?_modify, h]
  simp [B8, List.map_set]
theorem OwnT.other {w : World} {g g' i : Nat} {bs : List Nat} {v : Value} (h : OwnT t w g bs) (hne : g ≠ g') : OwnT t (w.setCell ⟨g', i, none⟩ v) g bs := by
  unfold OwnT at *
  simp only [World.setCell, Array.getElem?_modify, h]
  rw [if_neg (fun e => hne e.symm)]
/-- Block G j holds the bytes R j, for each of the first n that is no nil. -/
def OwnsT (t : TypeId) (A : Nat → Option Addr) (W : World) (n : Nat) (G : Nat → Nat) (R : Nat → List Nat) : Prop := ∀ j, j < n → A j = some ⟨G j, 0, none⟩ → OwnT t W (G j) (R j)
variable {A : Nat → Option Addr}
theorem OwnsT.step {W : World} {n i o : Nat} {G : Nat → Nat} {R : Nat → List Nat} {v : Value} {r : List Nat} (h : OwnsT t A W n G R) (hi : i < n) (hinj : ∀ j, j < n → j ≠ i → G j ≠ G i) (hr : OwnT t (W.setCell ⟨G i, o, none⟩ v) (G i) r) :
    OwnsT t A (W.setCell ⟨G i, o, none⟩ v) n G (fun j => if j = i then r else R j) := by
  intro j hj ha
  by_cases e : j = i
  · subst e; simpa using hr
  · simp only [if_neg e]; exact (h j hj ha).other (hinj j hj e)
theorem OwnsT.congr {W : World} {n : Nat} {G : Nat → Nat} {R R' : Nat → List Nat} (h : OwnsT t A W n G R) (e : ∀ j, j < n → R j = R' j) : OwnsT t A W n G R' := fun j hj ha => by rw [← e j hj]; exact h j hj ha
theorem ownT_at {w : World} {g : Nat} {bs : List Nat} (h : OwnT t w g bs) (o : Obj) (j : Nat) (u : Value) (hu : (bs.map B8)[j]? = some u) : (w.alloc o).cell? ((⟨g, 0, none⟩ : Addr).add j) = some u := by
  rw [List.getElem?_map] at hu
  obtain ⟨x, hx, rfl⟩ := Option.map_eq_some_iff.1 hu
  have h2 : OwnT t (w.alloc o) g bs := h.of_block (heap_alloc_old w o h.lt)
  rw [Addr.add_lit, Nat.zero_add]
  exact h2.cell j x hx
end
theorem markT_sum (i l q : Nat) (w : World) (hi : i ≤ 1000000000000) (hk : l + q ≤ 1000000000000000) :
    Calls Try.prog 43 #[.int .i64 i, .int .i64 ((l : Int) + (q : Int))] w fun e w' => e = .returned (.int .u8 ((markOf i (l + q) : Nat) : Int)) ∧ w' = w := by
  have h := mark_any i (l + q) w hi hk
  rw [show ((l + q : Nat) : Int) = (l : Int) + (q : Int) by omega] at h
  exact h
set_option maxRecDepth 100000 in
set_option maxHeartbeats 4000000 in
theorem apart_gen (t : TypeId) (A : Nat → Option Addr) (b off n cap base : Nat) (G L : Nat → Nat) (R : Nat → List Nat) (w : World) (hn : n ≤ 1000000) (hb : b < w.heap.size)
    (hcell : ∀ j, j < n → w.cell? ⟨b, off + j, none⟩ = some (.slice (A j) (L j) (L j))) (hA : ∀ j, j < n → A j = some ⟨G j, 0, none⟩ ∨ A j = none ∧ L j = 0) (hL : ∀ j, j < n → (R j).length = L j) (hlen : ∀ j, j < n → L j ≤ 140737488351300)
    (hO : OwnsT t A w n G R) (hbase : ∀ j, j < n → base ≤ G j) (hle : base ≤ w.heap.size) (hbG : ∀ j, j < n → b ≠ G j) (hinj : ∀ i, i < n → ∀ j, j < n → j ≠ i → G j ≠ G i) :
    Calls Try.prog 29 #[.slice (some ⟨b, off, none⟩) n cap] w fun e w' => e = .returned (.bool true) ∧ Below base w w' := by
  obtain ⟨i0, hi, hz0, hz1, hz2⟩ := info_parts Try.info5
  obtain ⟨i1, hj, hy0, hy1, hy2⟩ := info_parts Try.info22
  have HC := hide hcell
  have HA := hide hA
  clear hA
  have HL := hide hL
  have HLN := hide hlen
  have HBS := hide hbase
  have HBG := hide hbG
  have HIN := hide hinj
  clear hcell hL hlen hbase hbG hinj
  go_enter Try.func29, Try.ntmps29
  go_wp2
  go_loopw [3] (fun i wr => ∃ k : Nat, k ≤ n ∧ i = .int .i64 k ∧ OwnsT t A wr n G (fun j => if j < k then marksOf j (L j) else R j) ∧ Below base w wr ∧ wr.heap[b]? = w.heap[b]? ∧ wr.heap.size = w.heap.size) (fun i _ => n - (intOf i).toNat)
  case atStart => exact ⟨0, by omega, rfl, hO.congr (fun j _ => by simp), Below.refl _ _, rfl, rfl⟩
  case round =>
    clear hO
    obtain ⟨i, hin, rfl, hO1, hB1, hb1, hs1⟩ := hrel
    have HO1 := hide hO1
    have HB1 := hide hB1
    have Hb1 := hide hb1
    have Hs1 := hide hs1
    clear hO1 hB1 hb1 hs1
    by_cases hlt : i < n
    · have hii : (i : Int) < (n : Int) := by omega
      have hLi := HLN.out i hlt
      have HRi : Hid ((R i).length = L i) := HL.out i hlt
      have HCi := hide (HC.out i hlt)
      have HIi := hide (HIN.out i hlt)
      have HBi := hide (HBS.out i hlt)
      have HGi := hide (HBG.out i hlt)
      have HAi := hide (HA.out i hlt)
      generalize hLe : L i = li at HRi HCi hLi HAi
      have HLe := hide hLe
      clear hLe
      go_wp2
      go_loopw [4] (fun k wr => ∃ q : Nat, q ≤ li ∧ k = .int .i64 q ∧ OwnsT t A wr n G (fun j => if j = i then mixed (marksOf i li) (R i) q else if j < i then marksOf j (L j) else R j) ∧ Below base w wr ∧ wr.heap[b]? = w.heap[b]? ∧ wr.heap.size = w.heap.size) (fun k _ => li - (intOf k).toNat)
      case atStart =>
        refine ⟨0, by omega, rfl, HO1.out.congr (fun j _ => ?_), HB1.out, Hb1.out, Hs1.out⟩
        by_cases e : j = i
        · subst e; simp [mixed_zero]
        · simp [e]
      case round =>
        obtain ⟨q, hq, rfl, hO2, hB2, hb2, hs2⟩ := hrel
        have hc : wr.cell? ⟨b, off + i, none⟩ = some (.slice (A i) li li) := (World.cell?_of_block (a := ⟨b, off + i, none⟩) hb2).trans HCi.out
        have HO2 := hide hO2
        have HB2 := hide hB2
        have Hb2 := hide hb2
        have Hs2 := hide hs2
        clear hO2 hB2 hb2 hs2
        by_cases hql : q < li
        · have hqi : (q : Int) < (li : Int) := by omega
          have hAi : A i = some ⟨G i, 0, none⟩ := HAi.out.resolve_right (fun h => by omega)
          have ho : OwnT t wr (G i) (mixed (marksOf i li) (R i) q) := by have h := HO2.out i hlt hAi; simpa using h
          rw [hAi] at hc
          clear hAi
          obtain ⟨x, hx⟩ : ∃ x, (R i)[q]? = some x := ⟨_, List.getElem?_eq_getElem (by rw [HRi.out]; exact hql)⟩
          have hcx := ho.cell q x (by rw [mixed_get _ _ _ (by rw [marksOf_length]; omega)]; exact hx)
          have hf := ho.frozen q
          have HO3 := hide ho
          have hqm : q ≤ 1000000000000000 := by omega
          have him : i ≤ 1000000000000 := by omega
          clear ho hx
          generalize hGe : G i = gi at *
          go_wp2
          go_region_with (go_at_call 43; refine (mark_any i q _ him hqm).mono ?_; rintro e w' ⟨rfl, rfl⟩)
          all_goals
            go_wp2
            go_roundw
            case rel =>
              subst hGe
              refine ⟨q + 1, by omega, by go_num, ?_, (HB2.out.setCell HBi.out _).drew, (block_other HGi.out).trans Hb2.out, ?_⟩
              · have hs := OwnT.set HO3.out q (markOf i q)
                rw [mixed_set _ _ q (markOf i q) (marksOf_get hql) (by rw [HRi.out]; exact hql)] at hs
                exact (OwnsT.step HO2.out hlt HIi.out hs).congr (fun j _ => by by_cases e : j = i <;> simp [e])
              · simpa using Hs2.out
            case measure => simp [intOf]; omega
        · have hqi : (li : Int) ≤ (q : Int) := by omega
          have hqe : q = li := by omega
          have HQ := hide hqe
          clear hqe
          go_wp2
          go_roundw
          case rel =>
            refine ⟨i + 1, by omega, by go_num, HO2.out.congr (fun j _ => ?_), HB2.out, Hb2.out, Hs2.out⟩
            by_cases e : j = i
            · subst e
              rw [if_pos rfl, if_pos (by omega), HQ.out, mixed_all _ _ _ (by rw [marksOf_length]; omega) (by rw [HRi.out]; omega), HLe.out]
            · rw [if_neg e]
              by_cases e2 : j < i
              · rw [if_pos e2, if_pos (by omega)]
              · rw [if_neg e2, if_neg (by omega)]
          case measure => simp [intOf]; omega
    · have hii : (n : Int) ≤ (i : Int) := by omega
      have hie : i = n := by omega
      have HO2 : Hid (OwnsT t A wr n G (fun j => marksOf j (L j))) := HO1.out.congr (fun j hj => by rw [if_pos (by omega)])
      clear HO1 hie HL
      go_wp2
      generalize hw1 : wr = w1 at *
      have HH : Hid (w1.heap.size = w.heap.size) := Hs1
      go_loopw [5, 6] (fun v i wr => ∃ (k : Nat) (cs : List Value), k ≤ n ∧ i = .int .i64 k ∧ cs.length = k ∧ wr.ownsRow w1.heap.size 22 1 v cs.length cs ∧ Ties wr w1.heap.size cs ((List.range k).map fun j => marksOf j (L j + 70)) ∧ Below w1.heap.size w1 wr)
        (fun _ i _ => n - (intOf i).toNat)
      case atStart => exact ⟨0, [], by omega, rfl, rfl, World.ownsRow_nil _ _ _ _, Ties.nil _ _, Below.refl _ _⟩
      case round =>
        obtain ⟨k, cs, hk, rfl, hcs, hown, ht, hB⟩ := hrel
        have HCS := hide hcs
        have HT := hide ht
        have HB := hide hB
        have HO := hide hown
        have hsz := hB.size
        clear hcs ht hB hown
        by_cases hkn : k < n
        · have hki : (k : Int) < (n : Int) := by omega
          have hLk := HLN.out k hkn
          have hbw : b < w1.heap.size := by rw [HH.out]; exact hb
          have hcw : w1.cell? ⟨b, off + k, none⟩ = some (.slice (A k) (L k) (L k)) := (World.cell?_of_block (a := ⟨b, off + k, none⟩) Hb1.out).trans (HC.out k hkn)
          have hcr : wr.cell? ⟨b, off + k, none⟩ = some (.slice (A k) (L k) (L k)) := (HB.out.cell (p := ⟨b, off + k, none⟩) hbw).trans hcw
          have hok : A k = some ⟨G k, 0, none⟩ → OwnT t wr (G k) (marksOf k (L k)) := fun ha => (HO2.out k hkn ha).below HB.out (HO2.out k hkn ha).lt
          have HAk := hide (HA.out k hkn)
          have HOK := hide hok
          have HCR := hide hcr
          clear hcw hok
          generalize hLe : L k = lk at hLk hcr HOK HCR HAk
          have HLe := hide hLe
          clear hLe
          generalize hGe : G k = gk at hcr HOK HCR HAk
          clear hGe
          generalize hAe : A k = ak at hcr HOK HCR HAk
          clear hAe
          go_wp2
          generalize hwo : wr = wo at *
          clear hcr
          go_loopw [7, 8] (fun g x wr => ∃ (q : Nat), q ≤ 70 ∧ x = .int .i64 q ∧ (q = 0 ∧ g = .slice ak lk lk ∨ 0 < q ∧ wr.ownsRow wo.heap.size 5 1 g (lk + q) ((marksOf k (lk + q)).map B8)) ∧ Below wo.heap.size wo wr)
            (fun _ x _ => 70 - (intOf x).toNat)
          case atStart => exact ⟨0, by omega, rfl, .inl ⟨rfl, rfl⟩, Below.refl _ _⟩
          case round =>
            obtain ⟨q, hq, rfl, hg, hB2⟩ := hrel
            have HB2 := hide hB2
            have hsz2 := hB2.size
            have hc2 : wr.cell? ⟨b, off + k, none⟩ = some (.slice ak lk lk) := (hB2.cell (p := ⟨b, off + k, none⟩) (by show b < wo.heap.size; omega)).trans HCR.out
            have HOW : Hid (ak = some ⟨gk, 0, none⟩ → OwnT t wr gk (marksOf k lk)) := fun ha => (HOK.out ha).below hB2 (HOK.out ha).lt
            clear hB2
            by_cases hq70 : q < 70
            · have hqi : (q : Int) < 70 := by omega
              by_cases hq0 : q = 0
              · obtain rfl := (hg.resolve_right (fun h => by omega)).2
                have HQ0 := hide hq0
                clear hq0 hg
                go_wp2_with (first | (go_at_call 43; refine (markT_sum k lk q _ (by omega) (by omega)).mono ?_; rintro e w' ⟨rfl, hw'⟩; replace hw' := hw'.symm; subst hw') | (at_builtin; go_loud (refine wpList_append_grows _ rfl _ _ 22 rfl 5 i0 (.int .u8 0) 1 1 Try.underlying22 hi hz0 hz1 hz2 rfl (by omega) ak lk lk ((marksOf k lk).map B8) rfl (fun h => HAk.out.elim (fun e => by rw [h] at e; cases e) (fun e => ⟨e.2, e.2⟩)) (by simp [marksOf_length]) (fun b' hb' j u hu => HAk.out.elim (fun e => by rw [hb'] at e; cases e; exact ownT_at (HOW.out hb') _ j u hu) (fun e => by rw [hb'] at e; cases e.1)) ⟨wr.heap.size, 0, none⟩ 1 1 [.int .u8 ((markOf k (lk + q) : Nat) : Int)] rfl rfl (cell_one_new _ _ _) (by simp [Value.oneCell']) (by omega) (by unfold maxLen; omega) (by omega) ?_); intro v3 w3 hown3 hgrow3))
                have HO3 := hide hown3
                have HB3 : Hid (Below wo.heap.size wo w3) := (HB2.out.alloc (by omega) _).grown hgrow3 (by simp; omega) (fun j e => by cases e)
                clear hown3 hgrow3
                go_wp2
                go_roundw
                case rel =>
                  refine ⟨q + 1, by omega, by go_num, .inr ⟨by omega, ?_⟩, HB3.out⟩
                  have e := HQ0.out
                  subst e
                  have h := ownsRow_base (base' := wo.heap.size) HO3.out (by simp; omega)
                  rw [marksOf_succ]
                  simpa [B8] using h
                case measure => simp [intOf]; omega
              · have hg2 := (hg.resolve_left (fun h => hq0 h.1)).2
                have HG := hide hg2
                clear hg hg2 hq0
                go_wp2_with (first | (go_at_call 43; refine (markT_sum k lk q _ (by omega) (by omega)).mono ?_; rintro e w' ⟨rfl, hw'⟩; replace hw' := hw'.symm; subst hw') | (at_builtin; refine wpList_append_own _ rfl _ _ 22 rfl wo.heap.size 5 i0 (.int .u8 0) 1 1 Try.underlying22 hi hz0 hz1 hz2 rfl (by omega) _ _ _ rfl (HG.out.alloc _) ⟨wr.heap.size, 0, none⟩ 1 1 [.int .u8 ((markOf k (lk + q) : Nat) : Int)] rfl rfl (cell_one_new _ _ _) (by simp [Value.oneCell']) (by unfold maxLen; omega) (by omega) (by simp; omega) ?_; intro v3 w3 hown3 hgrow3 _))
                have HO3 := hide hown3
                have HB3 : Hid (Below wo.heap.size wo w3) := (HB2.out.alloc (by omega) _).grown hgrow3 (by simp; omega) (fun j e => (HG.out.lt j e).1)
                clear hown3 hgrow3
                go_wp2
                go_roundw
                case rel =>
                  refine ⟨q + 1, by omega, by go_num, .inr ⟨by omega, ?_⟩, HB3.out⟩
                  have h := HO3.out
                  rw [← Nat.add_assoc, marksOf_succ]
                  simpa [B8] using h
                case measure => simp [intOf]; omega
            · have hq7 : q = 70 := by omega
              have hqi : (70 : Int) ≤ (q : Int) := by omega
              have hg2 := (hg.resolve_left (fun h => by omega)).2
              obtain ⟨g3, c3, hg3⟩ := owns_cut hg2 (by omega)
              subst hg3
              have HG := hide hg2
              have HQ7 := hide hq7
              have HOC := hide (ownsRow_below HO.out HB2.out)
              clear hg hg2 hq7 hq70
              have hcsn := HCS.out
              go_wp2_with (at_builtin; refine wpList_append_own _ rfl _ _ 33 rfl w1.heap.size 22 i1 (.slice none 0 0) 1 24 Try.underlying33 hj hy0 hy1 hy2 rfl (by omega) _ _ _ rfl (HOC.out.alloc _) ⟨wr.heap.size, 0, none⟩ 1 1 [.slice (some ⟨g3, 0, none⟩) (lk + q) c3] rfl rfl (cell_one_new _ _ _) (by simp [Value.oneCell']) (by unfold maxLen; omega) (by omega) (by simp; omega) ?_; intro v3 w3 hown3 hgrow3 _)
              have hA : Below wr.heap.size wr (wr.alloc (.cells #[.slice (some ⟨g3, 0, none⟩) (lk + q) c3] 22)) := (Below.refl _ _).alloc (Nat.le_refl _) _
              have hpc : Piece wr w1.heap.size (some ⟨g3, 0, none⟩) (marksOf k (lk + q)) := by
                have h := HG.out
                have e : (marksOf k (lk + q)).length = lk + q := marksOf_length _ _
                have hx := marksOf_lt k (lk + q)
                generalize marksOf k (lk + q) = ms at h e hx ⊢
                rw [← e] at h
                exact piece_of_owns h hx
              have hT2 := ((HT.out.below HB2.out).snoc c3 hpc (by rw [marksOf_length]; unfold maxLen; omega)).below hA
              rw [marksOf_length] at hT2
              have HT3 := hide (hT2.grown (HOC.out.alloc _) hgrow3)
              have HO3 := hide hown3
              have HB3 : Hid (Below w1.heap.size w1 w3) := ((bseq HB.out HB2.out).alloc (by omega) _).grown hgrow3 (by simp; omega) (fun j e => (HOC.out.lt j e).1)
              clear hA hpc hT2 hown3 hgrow3
              go_wp2
              go_roundw
              case rel =>
                refine ⟨k + 1, cs ++ [.slice (some ⟨g3, 0, none⟩) (lk + q) c3], by omega, by go_num, by simp [HCS.out], by simpa using HO3.out, ?_, HB3.out⟩
                have h := HT3.out
                rw [List.range_succ, List.map_append, List.map_singleton, HLe.out]
                rw [HQ7.out] at h ⊢
                exact h
              case measure => simp [intOf]; omega
        · have hki : (n : Int) ≤ (k : Int) := by omega
          have hkn2 : k = n := by omega
          subst hkn2
          obtain ⟨a2, c2, hv2, hs2⟩ := slr_of_owns HO.out HT.out
          rw [List.length_map, List.length_range] at hv2
          subst hv2
          have HS2 := hide hs2
          have HOG : Hid (OwnsT t A wr k G (fun j => marksOf j (L j))) := fun j hj ha => (HO2.out j hj ha).below HB.out (HO2.out j hj ha).lt
          have hbw : b < w1.heap.size := by rw [HH.out]; exact hb
          have HCR : Hid (∀ j, j < k → wr.cell? ⟨b, off + j, none⟩ = some (.slice (A j) (L j) (L j))) := fun j hj => (HB.out.cell (p := ⟨b, off + j, none⟩) hbw).trans ((World.cell?_of_block (a := ⟨b, off + j, none⟩) Hb1.out).trans (HC.out j hj))
          have HBE : Hid (Below base w wr) := HB1.out.trans (HB.out.mono (by rw [HH.out]; exact hle))
          clear hs2 HT HO HB HO2 HCS
          go_wp2
          generalize hwo : wr = w2 at *
          go_loopw [9] (fun i wr => ∃ j m : Nat, j ≤ k ∧ i = .int .i64 j ∧ wr = w2.drewN m) (fun i _ => k - (intOf i).toNat)
          case atStart => exact ⟨0, 0, by omega, rfl, rfl⟩
          case round =>
            obtain ⟨j, m, hj2, rfl, hwr⟩ := hrel
            by_cases hjk : j < k
            · have hji : (j : Int) < (k : Int) := by omega
              obtain ⟨b3, o3, rfl, hb3, hs3⟩ : ∃ b off, a2 = some ⟨b, off, none⟩ ∧ b < w2.heap.size ∧ ∀ (i : Nat) (r : List Nat), ((List.range k).map fun j => marksOf j (L j + 70))[i]? = some r → ∃ ai cap, w2.cell? ⟨b, off + i, none⟩ = some (.slice ai r.length cap) ∧ Sl w2 ai r ∧ r.length ≤ maxLen := by
                rcases HS2.out with h | h
                · have := congrArg List.length h; simp at this; omega
                · exact h
              obtain ⟨a4, c4, hc4, hs4, _⟩ := hs3 j (marksOf j (L j + 70)) (by rw [List.getElem?_map, List.getElem?_range hjk]; rfl)
              rw [marksOf_length] at hc4
              have hcl := HCR.out j hjk
              have hol : A j = some ⟨G j, 0, none⟩ → OwnT t w2 (G j) (marksOf j (L j)) := HOG.out j hjk
              have haj := HA.out j hjk
              have hLj := HLN.out j hjk
              generalize hLe : L j = lj at hcl hol hLj hc4 hs4 haj
              clear hLe
              generalize hGe : G j = gj at hcl hol haj
              clear hGe
              generalize hAe : A j = aj at hcl hol haj
              clear hAe
              have HAJ := hide haj
              clear haj
              obtain ⟨b5, o5, rfl, hb5, hs5⟩ : ∃ b off, a4 = some ⟨b, off, none⟩ ∧ b < w2.heap.size ∧ Seg w2 b off (marksOf j (lj + 70)) := by
                rcases hs4 with h | h
                · have := congrArg List.length h; rw [marksOf_length] at this; simp at this
                · exact h
              have HS5 := hide hs5
              have HOL := hide hol
              have HCL := hide hcl
              have HC4 := hide hc4
              have HWR := hide hwr
              have hc4r : wr.cell? ⟨b3, o3 + j, none⟩ = some (.slice (some ⟨b5, o5, none⟩) (lj + 70) c4) := by rw [hwr]; exact hc4
              clear hs3 hs4 hs5 hol hcl hc4 hwr
              go_wp2
              go_loopw [10] (fun x wr => ∃ q m : Nat, q ≤ lj + 70 ∧ x = .int .i64 q ∧ wr = w2.drewN m) (fun x _ => lj + 70 - (intOf x).toNat)
              case atStart => exact ⟨0, m, by omega, rfl, HWR.out⟩
              case round =>
                clear hc4r HWR
                obtain ⟨q, m, hq, rfl, hwr⟩ := hrel
                have hc4r : wr.cell? ⟨b3, o3 + j, none⟩ = some (.slice (some ⟨b5, o5, none⟩) (lj + 70) c4) := by rw [hwr]; exact HC4.out
                have hclr : wr.cell? ⟨b, off + j, none⟩ = some (.slice aj lj lj) := by rw [hwr]; exact HCL.out
                have HWR := hide hwr
                by_cases hql : q < lj + 70
                · have hqi : (q : Int) < (lj : Int) + 70 := by omega
                  have hcm : wr.cell? ⟨b5, o5 + q, none⟩ = some (.int .u8 ((markOf j q : Nat) : Int)) := by rw [hwr]; exact (HS5.out q _ (marksOf_get hql)).1
                  have hne : (((markOf j q : Nat) : Int) != ((markOf j q : Nat) : Int)) = false := by simp
                  have hqm : q ≤ 1000000000000000 := by omega
                  have hjm : j ≤ 1000000000000 := by omega
                  by_cases hq2 : q < lj
                  · have haj : aj = some ⟨gj, 0, none⟩ := HAJ.out.resolve_right (fun h => by omega)
                    have hcg : wr.cell? ⟨gj, q, none⟩ = some (.int .u8 ((markOf j q : Nat) : Int)) := by rw [hwr]; exact (HOL.out haj).cell q _ (marksOf_get hq2)
                    rw [haj] at hclr
                    clear haj
                    have hq3 : (q : Int) < (lj : Int) := by omega
                    have MK := hide (fun W => mark_any j q W hjm hqm)
                    clear hwr
                    generalize markOf j q = mk at *
                    go_wp2
                    go_quiet ((go_at_call 43; refine Calls.quiet_of_same (unhide MK _)))
                    go_wp2
                    go_roundw
                    case rel => exact ⟨q + 1, m + nq, by omega, by go_num, by rw [HWR.out, World.drewN_drewN]⟩
                    case measure => simp [intOf]; omega
                  · have hq3 : decide ((q : Int) < (lj : Int)) = false := decide_eq_false (by omega)
                    have MK := hide (fun W => mark_any j q W hjm hqm)
                    clear hwr
                    generalize markOf j q = mk at *
                    go_wp2
                    go_quiet ((go_at_call 43; refine Calls.quiet_of_same (unhide MK _)))
                    go_wp2
                    go_roundw
                    case rel => exact ⟨q + 1, m + nq, by omega, by go_num, by rw [HWR.out, World.drewN_drewN]⟩
                    case measure => simp [intOf]; omega
                · have hqi : (lj : Int) + 70 ≤ (q : Int) := by omega
                  clear hwr
                  go_wp2
                  go_roundw
                  case rel => exact ⟨j + 1, m, by omega, by go_num, HWR.out⟩
                  case measure => simp [intOf]; omega
            · have hji : (k : Int) ≤ (j : Int) := by omega
              have HWR := hide hwr
              clear hwr
              go_wp2
              go_ret
              refine ⟨rfl, ?_⟩
              rw [HWR.out]
              exact below_drewN HBE.out m

end Go.Proofs.Ytheefdplbmneeaa
