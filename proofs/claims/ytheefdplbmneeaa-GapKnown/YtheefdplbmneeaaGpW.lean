/- The statements' own works(). -/
import Derived.Test.YtheefdplbmneeaaGpJ
namespace Go.Proofs.Ytheefdplbmneeaa
open Go.RowKit
set_option linter.unusedVariables false
set_option linter.unusedSimpArgs false

def sAbc : ByteArray := { data := #[97, 98, 99] }
def sXy : ByteArray := { data := #[120, 121] }
def sAxybc : ByteArray := { data := #[97, 120, 121, 98, 99] }
def sYbc : ByteArray := { data := #[121, 98, 99] }
theorem ab_ins : sAbc.extract 0 1 ++ sXy ++ sAbc.extract 1 sAbc.size = sAxybc := by
  apply tx_inj
  rw [tx_ins sAbc sXy 1 (by decide)]
  decide
theorem ab_del : sAxybc.extract 0 0 ++ sAxybc.extract 2 sAxybc.size = sYbc := by
  apply tx_inj
  rw [tx_del sAxybc 0 2 (by decide)]
  decide
theorem in_bel {w W W' : World} {g : Nat} (h : Below w.heap.size w W) (k : Ke (fun i => i = g) W W') (hg : w.heap.size ≤ g) : Below w.heap.size w W' :=
  h.trans (k.below h.size (fun i hi => by omega))
theorem works_any (w : World) : Calls Try.prog 10 #[] w fun e w' => e = .returned (.bool true) ∧ Below w.heap.size w w' := by
  have km : Calls Try.prog 11 #[.string { data := #[97, 98, 99] }] w fun e w' => ∃ g, e = .returned (.tuple #[.pointer (some ⟨g, 0, none⟩), .int .i64 0]) ∧ GapL w' g sAbc 3 ∧ w.heap.size ≤ g ∧ Below w.heap.size w w' := make_yes sAbc (by decide)
  have ki : ∀ W g, GapL W g sAbc 3 → Calls Try.prog 17 #[.pointer (some ⟨g, 0, none⟩), .int .i64 1, .string { data := #[120, 121] }] W fun e w' => e = .returned (.int .i64 0) ∧ GapL w' g sAxybc 3 ∧ Ke (fun k => k = g) W w' := fun W g h => by
    have k := insert_yes h 1 (by decide) sXy (by decide)
    rw [ab_ins] at k
    exact k
  have kt : ∀ W g, GapL W g sAxybc 3 → Calls Try.prog 19 #[.pointer (some ⟨g, 0, none⟩)] W fun e w' => e = .returned (.string { data := #[97, 120, 121, 98, 99] }) ∧ Below W.heap.size W w' := fun W g h => text_b h
  have kt2 : ∀ W g, GapL W g sYbc 0 → Calls Try.prog 19 #[.pointer (some ⟨g, 0, none⟩)] W fun e w' => e = .returned (.string { data := #[121, 98, 99] }) ∧ Below W.heap.size W w' := fun W g h => text_b h
  have ka : ∀ W g, GapL W g sAxybc 3 → Calls Try.prog 15 #[.pointer (some ⟨g, 0, none⟩)] W fun e w' => e = .returned (.int .i64 3) ∧ w' = W := fun W g h => at_any h
  have ka2 : ∀ W g, GapL W g sYbc 0 → Calls Try.prog 15 #[.pointer (some ⟨g, 0, none⟩)] W fun e w' => e = .returned (.int .i64 0) ∧ w' = W := fun W g h => at_any h
  have kd : ∀ W g, GapL W g sAxybc 3 → Calls Try.prog 18 #[.pointer (some ⟨g, 0, none⟩), .int .i64 0, .int .i64 2] W fun e w' => e = .returned (.int .i64 0) ∧ GapL w' g sYbc 0 ∧ Ke (fun k => k = g) W w' := fun W g h => by
    have k := delete_yes h 0 2 (by decide) (by decide)
    rw [ab_del] at k
    exact k
  have ko : ∀ W G, OwnI W G (blk sAxybc 3) → Calls Try.prog 26 #[.slice (some ⟨G, 0, none⟩) 256 256] W fun e w' => ∃ g, e = .returned (.tuple #[.pointer (some ⟨g, 0, none⟩), .int .i64 0]) ∧ GapL w' g sAxybc 3 ∧ W.heap.size ≤ g ∧ Below W.heap.size W w' := fun W G h => open_yes G 0 256 sAxybc 3 (by decide) (by decide) (h.sl (blk_lt _ _)) (by decide)
  have hcl : ∀ W G, OwnI W G (blk sAxybc 3) → W.cell? ⟨G, 0, none⟩ = some (.int .u8 3) ∧ W.cell? ⟨G, 4, none⟩ = some (.int .u8 97) ∧ W.cell? ⟨G, 255, none⟩ = some (.int .u8 99) := fun W G h => by
    have h0 : (blk sAxybc 3)[0]? = some 3 := by decide
    have h4 : (blk sAxybc 3)[4]? = some 97 := by decide
    have h5 : (blk sAxybc 3)[255]? = some 99 := by decide
    refine ⟨?_, ?_, ?_⟩
    all_goals
      simp only [World.cell?, show W.heap[G]? = _ from h]
      simp [h0, h4, h5, B8]
  have KM := hide km
  have KI := hide ki
  have KT := hide kt
  have KT2 := hide kt2
  have KA := hide ka
  have KA2 := hide ka2
  have KD := hide kd
  have KO := hide ko
  have CL := hide hcl
  clear km ki kt kt2 ka ka2 kd ko hcl
  go_enter Try.func10, Try.ntmps10
  go_upto_region 5 with (first
    | (go_at_call 11; refine (KM.out).mono ?_; rintro e W1 ⟨g, rfl, hg1, hn1, hb1⟩; have G1 := hide hg1; have N1 := hide hn1; have B1 := hide hb1; clear hg1 hn1 hb1)
    | (go_at_call 17; refine (KI.out _ _ G1.out).mono ?_; rintro e W2 ⟨rfl, hg2, hk2⟩; have G2 := hide hg2; have B2 := hide (in_bel B1.out hk2 N1.out); clear hg2 hk2)
    | (go_at_call 19; refine (KT.out _ _ G2.out).mono ?_; rintro e W3 ⟨rfl, hb3⟩; have G3 := hide (G2.out.below hb3); have B3 := hide (bseq B2.out hb3); clear hb3)
    | (go_at_call 15; refine (KA.out _ _ G3.out).mono ?_; rintro e W4 ⟨rfl, rfl⟩)
    | (go_at_call 24; refine (block_any G3.out).mono ?_; rintro e W5 ⟨G, rfl, ho5, hn5, hb5⟩; have O5 := hide ho5; have B5 := hide (bseq B3.out hb5); clear ho5 hn5 hb5))
  go_wp2_with (first
    | (go_at_call 26; refine (KO.out _ _ O5.out).mono ?_; rintro e W6 ⟨h, rfl, hg6, hn6, hb6⟩; have G6 := hide hg6; have B6 := hide (bseq B5.out hb6); have N6 := hide (Nat.le_trans B5.out.size hn6); obtain ⟨c0, c4, c5⟩ := CL.out W6 G (O5.out.below hb6 O5.out.lt); clear hg6 hn6 hb6)
    | (go_at_call 18; refine (KD.out _ _ G6.out).mono ?_; rintro e W7 ⟨rfl, hg7, hk7⟩; have G7 := hide hg7; have B7 := hide (in_bel B6.out hk7 N6.out); clear hg7 hk7)
    | (go_at_call 19; refine (KT2.out _ _ G7.out).mono ?_; rintro e W8 ⟨rfl, hb8⟩; have G8 := hide (G7.out.below hb8); have B8 := hide (bseq B7.out hb8); clear hb8)
    | (go_at_call 15; refine (KA2.out _ _ G8.out).mono ?_; rintro e W9 ⟨rfl, rfl⟩))
  go_ret
  exact ⟨rfl, B8.out⟩
end Go.Proofs.Ytheefdplbmneeaa
