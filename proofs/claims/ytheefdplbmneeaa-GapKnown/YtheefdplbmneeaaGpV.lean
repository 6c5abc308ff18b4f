/- GapOpens. -/
import Derived.Test.YtheefdplbmneeaaGpU
import Derived.Test.YtheefdplbmneeaaApartT
namespace Go.Proofs.Ytheefdplbmneeaa
open Go.RowKit
set_option linter.unusedVariables false
set_option linter.unusedSimpArgs false

theorem pair_apartI (W : World) (g1 g2 base : Nat) (sb : List Nat) (hl : sb.length = 256) (h1 : OwnI W g1 sb) (h2 : OwnI W g2 sb) (hb1 : base ≤ g1) (hb2 : base ≤ g2) (hne : g1 ≠ g2) (hbw : base ≤ W.heap.size) :
    Calls Try.prog 29 #[.slice (some ⟨W.heap.size, 0, none⟩) 2 2] (W.alloc (.cells #[.slice (some ⟨g1, 0, none⟩) 256 256, .slice (some ⟨g2, 0, none⟩) 256 256] 22)) fun r w' => r = .returned (.bool true) ∧ Below base W w' := by
  have hB : Below W.heap.size W (W.alloc (.cells #[.slice (some ⟨g1, 0, none⟩) 256 256, .slice (some ⟨g2, 0, none⟩) 256 256] 22)) := (Below.refl _ W).alloc (Nat.le_refl _) _
  have l1 := h1.lt
  have l2 := h2.lt
  refine (apart_gen 69 (fun j => some ⟨if j = 0 then g1 else g2, 0, none⟩) W.heap.size 0 2 2 base (fun j => if j = 0 then g1 else g2) (fun _ => 256) (fun _ => sb) _ (by omega) (by simp) (fun j hj => ?_) (fun j hj => .inl rfl) (fun j hj => hl) (fun j hj => by omega) (fun j hj _ => ?_) (fun j hj => ?_) (by simp; omega) (fun j hj => ?_) (fun i hi j hj hij => ?_)).mono ?_
  · obtain rfl | rfl : j = 0 ∨ j = 1 := by omega
    · simp
    · simp
  · obtain rfl | rfl : j = 0 ∨ j = 1 := by omega
    · exact (hB.block _ l1).trans h1
    · exact (hB.block _ l2).trans h2
  · split <;> assumption
  · split <;> omega
  · obtain rfl | rfl : i = 0 ∨ i = 1 := by omega
    · obtain rfl : j = 1 := by omega
      simpa using hne.symm
    · obtain rfl : j = 0 := by omega
      simpa using hne
  · rintro r w' ⟨rfl, hb⟩
    exact ⟨rfl, (hB.mono hbw).trans hb⟩
theorem kept_b (g : Nat) (a : Option Addr) (c : Nat) (bs : List Nat) (w : World) (hO : OwnB w g (bs ++ marks bs.length)) (ha : Sl w a bs) (hl : bs.length ≤ 140737488351232) :
    Calls Try.prog 28 #[.slice (some ⟨g, 0, none⟩) bs.length (bs.length + 80), .slice a bs.length c] w fun e w' => e = .returned (.bool true) ∧ Below w.heap.size w w' :=
  (kept_true g a c bs w hO ha (by omega)).mono fun e w' ⟨h3, n, h4⟩ => ⟨h3, by rw [h4]; exact below_drewN (Below.refl _ _) n⟩
theorem eq_in {W : World} {P p : Nat} {a : Option Addr} {c : Nat} {S : ByteArray} (h1 : OwnI W P (blk S p)) (h2 : Sl W a (blk S p)) (hp : p ≤ S.size) (hs : S.size ≤ 252) : Calls Try.prog 23 #[.slice (some ⟨P, 0, none⟩) 256 256, .slice a 256 c] W fun e w' => e = .returned (.bool true) ∧ Below W.heap.size W w' := eq_with h1 h2 hp hs
section
variable {w : World}
set_option maxRecDepth 100000 in
set_option maxHeartbeats 2000000 in
/-- What is refused. -/
theorem opens_no (a : Option Addr) (cap : Nat) (bs : List Nat) (hg : Sl w a bs) (hl : bs.length ≤ 140737488351232) (hc : bs.length ≤ cap) (hno : ¬ isBlk bs) : Calls Try.prog 7 #[.slice a bs.length cap] w fun e w' => e = .returned (.bool true) ∧ Below w.heap.size w w' := by
  have hbt := hg.lt
  obtain ⟨n, hn⟩ : ∃ n, n = bs.length := ⟨_, rfl⟩
  have k1 := spare_any a cap bs w hg (by omega)
  have k2 : ∀ W I, OwnB W I (bs ++ marks n) → Calls Try.prog 26 #[.slice (some ⟨I, 0, none⟩) n (n + 80)] W fun e w' => e = .returned (.tuple #[.pointer none, .int .i64 160]) ∧ Below W.heap.size W w' := fun W I hI => open_no I 0 n (n + 80) bs hn.symm (hI.head hbt) (by omega) hno
  have k3 : ∀ W, Sl W a bs → Calls Try.prog 27 #[.slice a n cap] W fun e w' => e = .returned (.tuple #[.pointer none, .int .i64 160]) ∧ Below W.heap.size W w' := fun W hW => by
    by_cases h0 : n = 256
    · obtain ⟨b0, off, rfl, hs⟩ : ∃ b off, a = some ⟨b, off, none⟩ ∧ Sl W (some ⟨b, off, none⟩) bs := by
        rcases hW with h | ⟨b, off, e, hlt, hs⟩
        · rw [h] at hn; simp at hn; omega
        · exact ⟨b, off, e, .inr ⟨b, off, rfl, hlt, hs⟩⟩
      rw [h0]
      refine (ropen_any b0 off cap bs hs (by omega) (by omega)).mono ?_
      rintro e w' ⟨⟨h1, _⟩ | ⟨_, h2⟩, h3⟩
      · exact absurd h1 hno
      · exact ⟨h2, h3⟩
    · exact (ropen_len a n cap h0).mono fun e w' ⟨h2, h3⟩ => ⟨h2, by rw [h3]; exact Below.refl _ _⟩
  have k4 : ∀ W I, OwnB W I (bs ++ marks n) → Sl W a bs → Calls Try.prog 28 #[.slice (some ⟨I, 0, none⟩) n (n + 80), .slice a n cap] W fun e w' => e = .returned (.bool true) ∧ Below W.heap.size W w' := fun W I h1 h2 => by rw [hn] at h1 ⊢; exact kept_b I a cap bs W h1 h2 hl
  rw [← hn] at k1 ⊢
  have K1 := hide k1
  have K2 := hide k2
  have K3 := hide k3
  have K4 := hide k4
  have HG := hide hg
  clear k1 k2 k3 k4 hg hn hl hc hno hbt
  go_enter Try.func7, Try.ntmps7
  go_wp2_with (first
    | (go_at_call 25; refine (K1.out).mono ?_; rintro e W1 ⟨rfl, ho1, hb1⟩; have O1 := hide ho1; have B1 := hide hb1; clear ho1 hb1)
    | (go_at_call 26; refine (K2.out _ _ O1.out).mono ?_; rintro e W2 ⟨rfl, hb2⟩; have O2 := hide (O1.out.below hb2 O1.out.lt); have B2 := hide (bseq B1.out hb2); clear hb2)
    | (go_at_call 27; refine (K3.out _ (HG.out.below B2.out)).mono ?_; rintro e W3 ⟨rfl, hb3⟩; have O3 := hide (O2.out.below hb3 O2.out.lt); have B3 := hide (bseq B2.out hb3); clear hb3)
    | (go_at_call 28; refine (K4.out _ _ O3.out (HG.out.below B3.out)).mono ?_; rintro e W4 ⟨rfl, hb4⟩; have B4 := hide (bseq B3.out hb4); clear hb4)
    | (go_at_call 10; refine (works_any _).mono ?_; rintro e W5 ⟨rfl, hb5⟩; have B5 := hide (bseq B4.out hb5); clear hb5))
  go_ret
  exact ⟨rfl, B5.out⟩
set_option maxRecDepth 100000 in
set_option maxHeartbeats 4000000 in
/-- What is opened. -/
theorem opens_yes (b off cap : Nat) (S : ByteArray) (p : Nat) (hp : p ≤ S.size) (hs : S.size ≤ 252) (hg : Sl w (some ⟨b, off, none⟩) (blk S p)) (hc : 256 ≤ cap) : Calls Try.prog 7 #[.slice (some ⟨b, off, none⟩) 256 cap] w fun e w' => e = .returned (.bool true) ∧ Below w.heap.size w w' := by
  have hl := blk_len hp hs
  have k1 := spare_any (some ⟨b, off, none⟩) cap (blk S p) w hg (by omega)
  have k2 : ∀ W I, OwnB W I (blk S p ++ marks 256) → Calls Try.prog 26 #[.slice (some ⟨I, 0, none⟩) 256 336] W fun e w' => ∃ g, e = .returned (.tuple #[.pointer (some ⟨g, 0, none⟩), .int .i64 0]) ∧ GapL w' g S p ∧ W.heap.size ≤ g ∧ Below W.heap.size W w' := fun W I hI => open_yes I 0 336 S p hp hs (hI.head (blk_lt S p)) (by omega)
  have k3 : ∀ W, Sl W (some ⟨b, off, none⟩) (blk S p) → Calls Try.prog 27 #[.slice (some ⟨b, off, none⟩) 256 cap] W fun e w' => ∃ r, e = .returned (.tuple #[.pointer (some ⟨r, 0, none⟩), .int .i64 0]) ∧ RefG w' r S p ∧ W.heap.size ≤ r ∧ Below W.heap.size W w' := fun W hW => by
    refine (ropen_any b off cap (blk S p) hW hl hc).mono ?_
    rintro e w' ⟨⟨_, r, h1, h2, h3⟩ | ⟨h1, _⟩, h4⟩
    · rw [bS_blk hp hs, bF_blk hp hs] at h2
      exact ⟨r, h1, h2, h3, h4⟩
    · exact absurd ⟨S, p, hp, hs, rfl⟩ h1
  have k4 : ∀ W I, OwnB W I (blk S p ++ marks 256) → Sl W (some ⟨b, off, none⟩) (blk S p) → Calls Try.prog 28 #[.slice (some ⟨I, 0, none⟩) 256 336, .slice (some ⟨b, off, none⟩) 256 cap] W fun e w' => e = .returned (.bool true) ∧ Below W.heap.size W w' := fun W I h1 h2 => by
    have k := kept_b I (some ⟨b, off, none⟩) cap (blk S p) W (by rw [hl]; exact h1) h2 (by omega)
    rw [hl] at k
    exact k
  rw [hl] at k1
  have K1 := hide k1
  have K2 := hide k2
  have K3 := hide k3
  have K4 := hide k4
  have HG := hide hg
  have HP := hide hp
  have HS := hide hs
  have HL := hide hl
  clear k1 k2 k3 k4 hg hl hc hp hs
  go_enter Try.func7, Try.ntmps7
  go_wp2_with (first
    | (go_at_call 25; refine (K1.out).mono ?_; rintro e W1 ⟨rfl, ho1, hb1⟩; have O1 := hide ho1; have B1 := hide hb1; clear ho1 hb1)
    | (go_at_call 26; refine (K2.out _ _ O1.out).mono ?_; rintro e W2 ⟨g, rfl, hg2, hn2, hb2⟩; have G2 := hide hg2; have O2 := hide (O1.out.below hb2 O1.out.lt); have B2 := hide (bseq B1.out hb2); clear hb2 hg2 hn2)
    | (go_at_call 27; refine (K3.out _ (HG.out.below B2.out)).mono ?_; rintro e W3 ⟨r, rfl, hr3, hn3, hb3⟩; have R3 := hide hr3; have G3 := hide (G2.out.below hb3); have O3 := hide (O2.out.below hb3 O2.out.lt); have B3 := hide (bseq B2.out hb3); clear hb3 hr3 hn3)
    | (go_at_call 28; refine (K4.out _ _ O3.out (HG.out.below B3.out)).mono ?_; rintro e W4 ⟨rfl, hb4⟩; have R4 := hide (R3.out.below hb4); have G4 := hide (G3.out.below hb4); have O4 := hide (O3.out.below hb4 O3.out.lt); have B4 := hide (bseq B3.out hb4); clear hb4))
  obtain ⟨I, hI⟩ : ∃ I, I = w.heap.size := ⟨_, rfl⟩
  rw [← hI] at O4 ⊢
  have HI := hide hI
  clear hI K1 K2 K3 K4 G2 G3 R3 O1 O2 O3 B1 B2 B3
  go_loopw [8] (fun iv wr => ∃ (k : Nat) (L : List Nat), k ≤ 256 ∧ L.length = 336 ∧ iv = .int .i64 (k : Int) ∧ OwnB wr I L ∧ GapL wr g S p ∧ RefG wr r S p ∧ Below w.heap.size w wr) (fun iv _ => (256 - intOf iv).toNat)
  case atStart => exact ⟨0, _, by omega, by rw [List.length_append, HL.out, marks_length], rfl, O4.out, G4.out, R4.out, B4.out⟩
  case round =>
    obtain ⟨k, L, hk, hLl, rfl, ho, hg, hr, hb⟩ := hrel
    have O5 := hide ho
    have G5 := hide hg
    have R5 := hide hr
    have B5 := hide hb
    have HLL := hide hLl
    clear ho hg hr hb hLl
    by_cases hlt : k < 256
    · have hltI : (k : Int) < 256 := by omega
      obtain ⟨x, hx⟩ : ∃ x, L[k]? = some x := ⟨_, List.getElem?_eq_getElem (by rw [HLL.out]; omega)⟩
      have cx := O5.out.cell k x hx
      have fx := O5.out.frozen k
      have NG : I ≠ g := fun e => by
        have h1 : wr.heap[g]? = _ := G5.out.2.2
        have h2 : wr.heap[I]? = _ := O5.out
        rw [e, h1] at h2
        simp at h2
      have NR : I ≠ r := fun e => by
        have h1 : wr.heap[r]? = _ := R5.out
        have h2 : wr.heap[I]? = _ := O5.out
        rw [e, h1] at h2
        simp at h2
      have kk := Ke.set (X := fun i => i = I) wr I k (.int .u8 51) rfl
      have O6 := hide (O5.out.set k 51)
      have G6 := hide (G5.out.keep kk (fun e => NG e.symm))
      have R6 := hide (R5.out.keep kk (fun e => NR e.symm))
      have B6 := hide (B5.out.trans (kk.below (B := w.heap.size) B5.out.size (fun i hi => by have := HI.out; omega)))
      clear hx NG NR kk
      go_wp2_with (fail)
      go_roundw
      case rel => exact ⟨k + 1, L.set k 51, by omega, by rw [List.length_set, HLL.out], by go_num, O6.out, G6.out, R6.out, B6.out⟩
      case measure => simp [intOf]; omega
    · obtain rfl : k = 256 := by omega
      clear hlt hk
      have KT := hide (tells_any G5.out R5.out)
      go_wp2_with (first
        | (go_at_call 14; refine (KT.out).mono ?_; rintro e W6 ⟨rfl, hb6⟩; have G6 := hide (G5.out.below hb6); have R6 := hide (R5.out.below hb6); have B6 := hide (bseq B5.out hb6); clear hb6 KT; have KB1 := hide (block_any G6.out))
        | (go_at_call 24; refine (KB1.out).mono ?_; rintro e W7 ⟨P, rfl, ho7, hn7, hb7⟩; have O7 := hide ho7; have N7 := hide hn7; have G7 := hide (G6.out.below hb7); have R7 := hide (R6.out.below hb7); have B67 := hide hb7; have B7 := hide (bseq B6.out hb7); clear ho7 hn7 hb7 KB1; have KB2 := hide (block_any G7.out))
        | (go_at_call 24; refine (KB2.out).mono ?_; rintro e W8 ⟨Q, rfl, ho8, hn8, hb8⟩; have O8 := hide ho8; have P8 := hide (O7.out.below hb8 O7.out.lt); have NPQ : Hid (P ≠ Q) := (by have := O7.out.lt; show P ≠ Q; omega); have N8 := hide (Nat.le_trans B67.out.size hn8); have B68 := hide (bseq B67.out hb8); have B8 := hide (bseq B7.out hb8); clear ho8 hn8 hb8 KB2; have KQ1 := hide (eq_in P8.out (HG.out.below B8.out) HP.out HS.out (c := cap)))
        | (go_at_call 23; refine (KQ1.out).mono ?_; rintro e W9 ⟨rfl, hb9⟩; have O9 := hide (O8.out.below hb9 O8.out.lt); have P9 := hide (P8.out.below hb9 P8.out.lt); have B69 := hide (bseq B68.out hb9); have B9 := hide (bseq B8.out hb9); clear hb9 KQ1; have KQ2 := hide (eq_in O9.out (HG.out.below B9.out) HP.out HS.out (c := cap)))
        | (go_at_call 23; refine (KQ2.out).mono ?_; rintro e WA ⟨rfl, hbA⟩; have OA := hide (O9.out.below hbA O9.out.lt); have PA := hide (P9.out.below hbA P9.out.lt); have B6A := hide (bseq B69.out hbA); have BA := hide (bseq B9.out hbA); clear hbA KQ2; have KP := hide (pair_apartI WA P Q W6.heap.size _ HL.out PA.out OA.out N7.out N8.out NPQ.out B6A.out.size))
        | (go_at_call 29; refine (KP.out).mono ?_; rintro e WB ⟨rfl, hbB⟩; have B6B := hide (B6A.out.trans hbB); have GB := hide (G6.out.below B6B.out); have RB := hide (R6.out.below B6B.out); have BB := hide (bseq B6.out B6B.out); clear hbB KP; have KT2 := hide (tells_any GB.out RB.out))
        | (go_at_call 14; refine (KT2.out).mono ?_; rintro e WC ⟨rfl, hbC⟩; have BC := hide (bseq BB.out hbC); clear hbC KT2)
        | (go_at_call 10; refine (works_any _).mono ?_; rintro e WD ⟨rfl, hbD⟩; have BD := hide (bseq BC.out hbD); clear hbD))
      go_ret
      exact ⟨rfl, BD.out⟩
theorem opens_walk (a : Option Addr) (cap : Nat) (bs : List Nat) (w : World) (hg : Sl w a bs) (hl : bs.length ≤ 140737488351232) (hc : bs.length ≤ cap) : Calls Try.prog 7 #[.slice a bs.length cap] w fun e w' => e = .returned (.bool true) ∧ Below w.heap.size w w' := by
  by_cases hi : isBlk bs
  · obtain ⟨S, p, hp, hs, rfl⟩ := hi
    have hl := blk_len hp hs
    obtain ⟨b0, off, rfl, hs2⟩ : ∃ b off, a = some ⟨b, off, none⟩ ∧ Sl w (some ⟨b, off, none⟩) (blk S p) := by
      rcases hg with h | ⟨b, off, e, hlt, hs⟩
      · rw [h] at hl; simp at hl
      · exact ⟨b, off, e, .inr ⟨b, off, rfl, hlt, hs⟩⟩
    rw [hl] at hc ⊢
    exact opens_yes b0 off cap S p hp hs hs2 hc
  · exact opens_no a cap bs hg hl hc hi
end
end Go.Proofs.Ytheefdplbmneeaa
