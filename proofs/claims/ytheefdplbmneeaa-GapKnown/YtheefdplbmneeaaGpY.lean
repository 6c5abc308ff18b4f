/- The statements' own clean(). -/
import Derived.Test.YtheefdplbmneeaaGpW
namespace Go.Proofs.Ytheefdplbmneeaa
open Go.RowKit
set_option linter.unusedVariables false
set_option linter.unusedSimpArgs false

theorem blk_gap {S : ByteArray} {p i : Nat} (hp : p ≤ S.size) (hs : S.size ≤ 252) (h1 : p ≤ i) (h2 : i < p + (252 - S.size)) : (blk S p)[4 + i]? = some 0 := by
  unfold blk blkC
  rw [List.getElem?_append_right (by simp [leB_length]), List.length_append, leB_length, leB_length, show 4 + i - (2 + 2) = i by omega]
  exact gD_gap _ _ _ (by rw [tx_len]; exact hp) (by rw [tx_len]; exact hs) h1 (by rw [tx_len]; exact h2)
theorem OwnI.cell {w : World} {g : Nat} {bs : List Nat} (h : OwnI w g bs) (i x : Nat) (hx : bs[i]? = some x) : w.cell? ⟨g, i, none⟩ = some (.int .u8 (x : Int)) := by
  simp [World.cell?, show w.heap[g]? = _ from h, hx, B8]
set_option maxHeartbeats 1000000 in
theorem clean_any {w : World} {g p : Nat} {S : ByteArray} (h : GapL w g S p) : Calls Try.prog 22 #[.pointer (some ⟨g, 0, none⟩)] w fun e w' => e = .returned (.bool true) ∧ Below w.heap.size w w' := by
  have hp := h.1
  have hs := h.2.1
  obtain ⟨z, hz⟩ : ∃ z, z = 252 - S.size := ⟨_, rfl⟩
  have K1 := hide (block_any h)
  have H := hide h
  have kr : ∀ W, GapL W g S p → Calls Try.prog 21 #[.pointer (some ⟨g, 0, none⟩)] W fun e w' => e = .returned (.int .i64 (z : Int)) ∧ Below W.heap.size W w' := fun W hW => by rw [hz]; exact room_b hW
  have ko : ∀ W G, OwnI W G (blk S p) → Calls Try.prog 26 #[.slice (some ⟨G, 0, none⟩) 256 256] W fun e w' => ∃ g, e = .returned (.tuple #[.pointer (some ⟨g, 0, none⟩), .int .i64 0]) ∧ GapL w' g S p ∧ W.heap.size ≤ g ∧ Below W.heap.size W w' := fun W G hG => open_yes G 0 256 S p hp hs (hG.sl (blk_lt _ _)) (by decide)
  have hgap : ∀ i, p ≤ i → i < p + z → (blk S p)[4 + i]? = some 0 := fun i h1 h2 => blk_gap hp hs h1 (by omega)
  have KR := hide kr
  have KO := hide ko
  have HG := hide hgap
  have hpI : (p : Int) ≤ 252 := by omega
  have hzI : (z : Int) ≤ 252 := by omega
  have hpzI : (p : Int) + (z : Int) ≤ 252 := by omega
  clear h kr ko hgap hz hp hs
  go_enter Try.func22, Try.ntmps22
  go_wp2_with (first
    | (go_at_call 24; refine (K1.out).mono ?_; rintro e W1 ⟨G, rfl, ho1, hn1, hb1⟩; have O1 := hide ho1; have H1 := hide (H.out.below hb1); have B1 := hide hb1; clear ho1 hn1 hb1)
    | (go_at_call 15; refine (at_any H1.out).mono ?_; rintro e W2 ⟨rfl, rfl⟩))
  go_loopw [4] (fun iv wr => ∃ k : Nat, p ≤ k ∧ k ≤ p + z ∧ iv = .int .i64 (k : Int) ∧ GapL wr g S p ∧ OwnI wr G (blk S p) ∧ Below w.heap.size w wr) (fun iv _ => (252 - intOf iv).toNat)
  case atStart => exact ⟨p, Nat.le_refl _, Nat.le_add_right _ _, rfl, H1.out, O1.out, B1.out⟩
  case round =>
    obtain ⟨k, hk1, hk2, rfl, hh, ho, hb⟩ := hrel
    have H2 := hide hh
    have O2 := hide ho
    have B2 := hide hb
    clear hh ho hb
    by_cases hlt : k < p + z
    · have hltI : (k : Int) < (p : Int) + (z : Int) := by omega
      have hx := HG.out k hk1 hlt
      have HX := hide hx
      have wr4 : IntKind.i64.wrap ((4 : Int) + (k : Int)) = ((4 + k : Nat) : Int) := by rw [IntKind.wrap_i64]; omega
      clear hx
      go_wp2_with (first
        | (go_at_call 15; refine (at_any H2.out).mono ?_; rintro e W3 ⟨rfl, rfl⟩)
        | (go_at_call 21; refine (KR.out _ H2.out).mono ?_; rintro e W4 ⟨rfl, hb4⟩; have H4 := hide (H2.out.below hb4); have O4 := hide (O2.out.below hb4 O2.out.lt); have B4 := hide (bseq B2.out hb4); have c4 := O4.out.cell _ _ HX.out; clear hb4))
      go_roundw
      case rel => exact ⟨k + 1, by omega, by omega, by go_num, H4.out, O4.out, B4.out⟩
      case measure => simp [intOf]; omega
    · have hltI : ¬ ((k : Int) < (p : Int) + (z : Int)) := by omega
      clear hlt hk1 hk2
      go_wp2_with (first
        | (go_at_call 15; refine (at_any H2.out).mono ?_; rintro e W3 ⟨rfl, rfl⟩)
        | (go_at_call 21; refine (KR.out _ H2.out).mono ?_; rintro e W4 ⟨rfl, hb4⟩; have H4 := hide (H2.out.below hb4); have O4 := hide (O2.out.below hb4 O2.out.lt); have B4 := hide (bseq B2.out hb4); clear hb4)
        | (go_at_call 26; refine (KO.out _ _ O4.out).mono ?_; rintro e W5 ⟨q, rfl, hg5, hn5, hb5⟩; have G5 := hide hg5; have H5 := hide (H4.out.below hb5); have B5 := hide (bseq B4.out hb5); clear hg5 hn5 hb5 KO; have K6 := hide (text_b G5.out))
        | (go_at_call 19; refine (K6.out).mono ?_; rintro e W6 ⟨rfl, hb6⟩; have G6 := hide (G5.out.below hb6); have H6 := hide (H5.out.below hb6); have B6 := hide (bseq B5.out hb6); clear hb6 K6; have K7 := hide (text_b H6.out))
        | (go_at_call 19; refine (K7.out).mono ?_; rintro e W7 ⟨rfl, hb7⟩; have G7 := hide (G6.out.below hb7); have H7 := hide (H6.out.below hb7); have B7 := hide (bseq B6.out hb7); clear hb7 K7; have K8 := hide (at_any G7.out); have K9 := hide (at_any H7.out))
        | (go_at_call 15; refine (K8.out).mono ?_; rintro e W8 ⟨rfl, rfl⟩; clear K8)
        | (go_at_call 15; refine (K9.out).mono ?_; rintro e W9 ⟨rfl, rfl⟩; clear K9))
      go_ret
      exact ⟨rfl, B7.out⟩
end Go.Proofs.Ytheefdplbmneeaa
