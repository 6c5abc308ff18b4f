/- Package scan: Print, walked. -/
import Derived.Test.YtaljllbfedfpoaaGreatDoorSPrn
namespace Go.Proofs.YtaljllbfedfpoaaGreatDoor
open Go.RowKit Go.Shelf
set_option linter.unusedVariables false

theorem tok_cells {W : World} {a : Option Addr} {xs : List TkI} {k : Nat} {x : TkI} (h : SlK W a xs) (hx : xs[k]? = some x) : ∃ b off, a = some ⟨b, off, none⟩ ∧ W.cell? ⟨b, off + k * 4, none⟩ = some (.int .i64 x.1) ∧ W.cell? ⟨b, off + k * 4 + 1, none⟩ = some (.int .i64 x.2.1) ∧ W.cell? ⟨b, off + k * 4 + 2, none⟩ = some (.string x.2.2.1) ∧ W.cell? ⟨b, off + k * 4 + 3, none⟩ = some (.int .i64 x.2.2.2) := by
  rcases h with h | ⟨b, off, ha, hb, hc⟩
  · rw [h] at hx; simp at hx
  · exact ⟨b, off, ha, hc k x hx⟩
theorem four_at {y : World} {b : Nat} {t : TypeId} {c0 c1 c2 c3 : Value} (h : y.heap[b]? = some (.cells #[c0, c1, c2, c3] t (0, 0))) : (y.cell? ⟨b, 0, none⟩ = some c0 ∧ y.cell? ⟨b, 1, none⟩ = some c1) ∧ y.cell? ⟨b, 2, none⟩ = some c2 ∧ y.cell? ⟨b, 3, none⟩ = some c3 :=
  ⟨⟨celS h 0 _ rfl, celS h 1 _ rfl⟩, celS h 2 _ rfl, celS h 3 _ rfl⟩
theorem Bd8.lt {B b : Nat} {l : List UInt8} {w : World} (h : Bd8 B b l w) : b < w.heap.size := by
  rcases h with ⟨_, v, hb, _⟩ | ⟨_, v, hb, _⟩
  · exact (Array.getElem?_eq_some_iff.1 hb).1
  · exact (Array.getElem?_eq_some_iff.1 hb).1
set_option maxRecDepth 100000 in
set_option maxHeartbeats 8000000 in
theorem print_any (a : Option Addr) (cap : Nat) (xs : List TkI) (w : World) (hx : SlK w a xs) (hL : LaidW w) (hZ : LaidZ w) (hl : xs.length ≤ 9223372036854775807)
    (hb : ∀ x ∈ xs, x.2.2.1.size ≤ 17592186044416 ∧ -9223372036854775808 ≤ x.2.2.2 ∧ x.2.2.2 ≤ 9223372036854775807) :
    Calls Tryz.prog 20 #[.slice a xs.length cap] w fun e w' => e = .returned (.tuple #[.string ⟨(prV xs).1.toArray⟩, .int .i64 (prV xs).2]) ∧ Below w.heap.size w w' := by
  have HX := hide hx
  have HBD := hide hb
  have HL := hide hL
  have HZ := hide hZ
  clear hx hb hL hZ
  go_enter Tryz.func20, Tryz.ntmps20
  go_wp2_with (fail)
  go_loopw [11] (fun i wr => ∃ k : Nat, i = .int .i64 k ∧ k ≤ xs.length ∧ (xs.take k).all mayI = true ∧ Below w.heap.size w wr) (fun i _ => xs.length - (intOf i).toNat)
  case atStart => exact ⟨0, rfl, Nat.zero_le _, rfl, Below.refl _ _⟩
  case round =>
    obtain ⟨k, rfl, hk, hall, hB⟩ := hrel
    have HALL := hide hall
    have HB := hide hB
    clear hall hB
    by_cases hlt : k < xs.length
    · have hxk : xs[k]? = some xs[k] := List.getElem?_eq_getElem hlt
      obtain ⟨b0, off, rfl, v0, v1, v2, v3⟩ := tok_cells (HX.out.below HB.out) hxk
      obtain ⟨hb1, hb2, hb3⟩ := HBD.out _ (List.getElem_mem hlt)
      have hall2 : (xs.take (k + 1)).all mayI = mayI xs[k] := by
        rw [List.take_succ_eq_append_getElem hlt, List.all_append, HALL.out]
        simp
      have hno : mayI xs[k] = false → prV xs = ([], 70) := by
        intro h
        unfold prV
        rw [if_neg]
        intro h2
        have := List.all_eq_true.1 h2 _ (List.getElem_mem hlt)
        rw [h] at this
        exact absurd this (by decide)
      generalize xs[k] = x at *
      obtain ⟨k', a', t', n'⟩ := x
      simp only at v0 v1 v2 v3 hb1 hb2 hb3
      have hltI : (k : Int) < (xs.length : Int) := by omega
      have hbA : Below w.heap.size w (wr.alloc (.cells #[.int .i64 k', .int .i64 a', .string t', .int .i64 n'] 28)) := HB.out.alloc HB.out.size _
      have km := mayBe_any k' a' t' n' _ (by omega) (HL.out.below hbA)
      have HBA := hide hbA
      clear hbA hxk
      cases hm : mayI (k', a', t', n') with
      | true =>
        rw [hm] at km hall2
        have KM := hide km
        have HALL2 := hide hall2
        clear km hall2 hno hm
        go_wp2_with (go_at_call 49; refine (KM.out).mono ?_; rintro e y ⟨rfl, hy⟩)
        go_roundw
        case rel => exact ⟨k + 1, by go_num, by omega, HALL2.out, bseq HBA.out hy⟩
        case measure => simp [intOf]; omega
      | false =>
        rw [hm] at km
        have hv := hno hm
        have KM := hide km
        have HV := hide hv
        clear km hall2 hno hm hv
        go_wp2_with (go_at_call 49; refine (KM.out).mono ?_; rintro e y ⟨rfl, hy⟩)
        go_ret2
        exact ⟨by rw [HV.out]; rfl, bseq HBA.out hy⟩
    · have hge : (xs.length : Int) ≤ (k : Int) := by omega
      have hall := HALL.out
      rw [List.take_of_length_le (by omega)] at hall
      have hv : prV xs = if 16384 < (prJ xs).length then ([], 4) else (prJ xs, 0) := by unfold prV; rw [if_pos hall]
      have HV := hide hv
      generalize wr = W1 at *
      have hbf := bfresh W1
      have HBF := hide hbf
      have hb1 : Below w.heap.size w (W1.alloc (.cells #[.pointer none, .slice none 0 0] 72)) := HB.out.alloc HB.out.size _
      have HB1 := hide hb1
      clear hv hbf hall HALL hb1
      go_wp2_with (fail)
      go_loopw [21] (fun i wr => ∃ j : Nat, i = .int .i64 j ∧ j ≤ xs.length ∧ (prJ (xs.take j)).length ≤ 16384 ∧ Bd8 W1.heap.size W1.heap.size (prJ (xs.take j)) wr ∧ Below w.heap.size w wr ∧ W1.heap.size ≤ wr.heap.size) (fun i _ => xs.length - (intOf i).toNat)
      case atStart => exact ⟨0, rfl, Nat.zero_le _, Nat.zero_le _, HBF.out, HB1.out, by simp⟩
      case round =>
        clear HBF HB1
        obtain ⟨j, rfl, hj, hlen, hBd, hB2, hsz⟩ := hrel
        have HBD2 := hide hBd
        have HB2 := hide hB2
        clear hBd hB2
        by_cases hlt2 : j < xs.length
        · have hxk : xs[j]? = some xs[j] := List.getElem?_eq_getElem hlt2
          obtain ⟨b0, off, rfl, v0, v1, v2, v3⟩ := tok_cells (HX.out.below HB2.out) hxk
          obtain ⟨hb1, hb2, hb3⟩ := HBD.out _ (List.getElem_mem hlt2)
          have hpt := pT_len _ hb1 hb2 hb3
          have hnx := prJ_take hlt2
          have hmo := prJ_mono (xs := xs) (k := j + 1) (by omega)
          generalize xs[j] = x at *
          obtain ⟨k', a', t', n'⟩ := x
          simp only at v0 v1 v2 v3 hb1 hb2 hb3
          have hltI : (j : Int) < (xs.length : Int) := by omega
          have hba0 : Below wr.heap.size wr (wr.alloc (.cells #[.int .i64 k', .int .i64 a', .string t', .int .i64 n'] 28)) := (Below.refl _ _).alloc (Nat.le_refl _) _
          have hbA := bseq HB2.out hba0
          have hBdA := HBD2.out.below hba0
          have hcp : (wr.alloc (.cells #[.int .i64 k', .int .i64 a', .string t', .int .i64 n'] 28)).heap[wr.heap.size]? = some (.cells #[.int .i64 k', .int .i64 a', .string t', .int .i64 n'] 28 (0, 0)) := heap_alloc_new wr _
          have hszA : W1.heap.size ≤ (wr.alloc (.cells #[.int .i64 k', .int .i64 a', .string t', .int .i64 n'] 28)).heap.size := by simp; omega
          have KP := hide (fun W h1 h2 => printed_any k' a' t' n' W h1 h2 hb1 hb2 hb3)
          generalize hacc : prJ (xs.take j) = acc at *
          generalize pT (k', a', t', n') = P at *
          have HBDA := hide hBdA
          have HBA := hide hbA
          have HCP := hide hcp
          have hWw : w.heap.size ≤ W1.heap.size := HB.out.size
          have hnb : some wr.heap.size ≠ some W1.heap.size := fun e => by
            have h9 := Option.some.inj e
            have := HBD2.out.lt
            omega
          have hltI2 := True.intro
          clear hBdA hbA hcp hba0
          by_cases hj0 : j = 0
          · rw [if_pos hj0, List.append_nil] at hnx
            have hjI : (j : Int) ≤ 0 := by omega
            clear hj0
            have hw2 : (acc).length + (⟨P.toArray⟩ : ByteArray).size ≤ 140737488355328 := by
              have : (⟨P.toArray⟩ : ByteArray).size = P.length := by simp [ByteArray.size]
              try simp only [List.length_append, List.length_cons, List.length_nil]
              omega
            obtain ⟨NL, hNL⟩ : ∃ NL, (acc ++ P).length = NL := ⟨_, rfl⟩
            rw [hnx, hNL] at hmo
            clear hxk hltI2
            by_cases hbig : 16384 < NL
            · have hbigI : (16384 : Int) < (NL : Int) := by omega
              have hv2 := HV.out
              rw [if_pos (by omega)] at hv2
              have HV2 := hide hv2
              clear hv2 hnx hacc
              go_wp2_with (first | (go_at_call 50; refine (KP.out _ (HL.out.below HBA.out) (HZ.out.below HBA.out)).mono ?_; rintro e z ⟨rfl, hbz⟩; have HBZ := hide (HBDA.out.below hbz); have HZ2 := hide (bseq HBA.out hbz); have hszZ : W1.heap.size ≤ z.heap.size := Nat.le_trans hszA hbz.size; clear hbz) | (go_at_call 42; refine (bwriteString _ _ acc _ _ HBZ.out hw2 hszZ).mono ?_; rintro e u ⟨⟨ev, rfl⟩, hBu, hbu⟩; rw [show (⟨P.toArray⟩ : ByteArray).data.toList = P from by simp] at hBu; have HBU := hide hBu; have HU := hide (HZ2.out.trans (hbu.mono hWw)); have hszU : W1.heap.size ≤ u.heap.size := Nat.le_trans hszZ hbu.size; have klu := blen _ _ _ _ hBu; rw [hNL] at klu; have KLU := hide klu; clear hBu hbu HBZ klu) | (go_at_call 51; refine (KLU.out).mono ?_; rintro e u2 ⟨rfl, hu2⟩; subst hu2))
              go_ret2
              exact ⟨by rw [HV2.out]; rfl, HU.out⟩
            · have hbigI : (NL : Int) ≤ (16384 : Int) := by omega
              have HNX := hide hnx
              have HNL := hide hNL
              clear hnx hacc
              go_wp2_with (first | (go_at_call 50; refine (KP.out _ (HL.out.below HBA.out) (HZ.out.below HBA.out)).mono ?_; rintro e z ⟨rfl, hbz⟩; have HBZ := hide (HBDA.out.below hbz); have HZ2 := hide (bseq HBA.out hbz); have hszZ : W1.heap.size ≤ z.heap.size := Nat.le_trans hszA hbz.size; clear hbz) | (go_at_call 42; refine (bwriteString _ _ acc _ _ HBZ.out hw2 hszZ).mono ?_; rintro e u ⟨⟨ev, rfl⟩, hBu, hbu⟩; rw [show (⟨P.toArray⟩ : ByteArray).data.toList = P from by simp] at hBu; have HBU := hide hBu; have HU := hide (HZ2.out.trans (hbu.mono hWw)); have hszU : W1.heap.size ≤ u.heap.size := Nat.le_trans hszZ hbu.size; have klu := blen _ _ _ _ hBu; rw [hNL] at klu; have KLU := hide klu; clear hBu hbu HBZ klu) | (go_at_call 51; refine (KLU.out).mono ?_; rintro e u2 ⟨rfl, hu2⟩; subst hu2))
              go_roundw
              case rel => exact ⟨j + 1, by go_num, by omega, by rw [HNX.out, HNL.out]; omega, by rw [HNX.out]; exact HBU.out, HU.out, hszU⟩
              case measure => simp [intOf]; omega
          · rw [if_neg hj0] at hnx
            have hjI : (0 : Int) < (j : Int) := by omega
            have hw1 : acc.length + 1 ≤ 140737488355328 := by omega
            have hw2 : (acc ++ [32]).length + (⟨P.toArray⟩ : ByteArray).size ≤ 140737488355328 := by
              have : (⟨P.toArray⟩ : ByteArray).size = P.length := by simp [ByteArray.size]
              try simp only [List.length_append, List.length_cons, List.length_nil]
              omega
            obtain ⟨NL, hNL⟩ : ∃ NL, (acc ++ [32] ++ P).length = NL := ⟨_, rfl⟩
            rw [hnx, hNL] at hmo
            clear hxk hltI2
            by_cases hbig : 16384 < NL
            · have hbigI : (16384 : Int) < (NL : Int) := by omega
              have hv2 := HV.out
              rw [if_pos (by omega)] at hv2
              have HV2 := hide hv2
              clear hv2 hnx hacc
              go_wp2_with (first | (go_at_call 39; refine (bwriteByteK _ _ acc 32 _ HBDA.out hw1 hszA).mono ?_; rintro e y ⟨rfl, hBy, hby, hoy⟩; have hyc := hoy _ _ HCP.out hnb (by intro c fz h; cases h); obtain ⟨⟨q0, q1⟩, q2, q3⟩ := four_at hyc; have HBY := hide hBy; have HY := hide ((HBA.out).trans (hby.mono hWw)); have hszY : W1.heap.size ≤ y.heap.size := Nat.le_trans hszA hby.size; clear hBy hby hoy hyc HBDA) | (go_at_call 50; refine (KP.out _ (HL.out.below HY.out) (HZ.out.below HY.out)).mono ?_; rintro e z ⟨rfl, hbz⟩; have HBZ := hide (HBY.out.below hbz); have HZ2 := hide (bseq HY.out hbz); have hszZ : W1.heap.size ≤ z.heap.size := Nat.le_trans hszY hbz.size; clear hbz) | (go_at_call 42; refine (bwriteString _ _ (acc ++ [32]) _ _ HBZ.out hw2 hszZ).mono ?_; rintro e u ⟨⟨ev, rfl⟩, hBu, hbu⟩; rw [show (⟨P.toArray⟩ : ByteArray).data.toList = P from by simp] at hBu; have HBU := hide hBu; have HU := hide (HZ2.out.trans (hbu.mono hWw)); have hszU : W1.heap.size ≤ u.heap.size := Nat.le_trans hszZ hbu.size; have klu := blen _ _ _ _ hBu; rw [hNL] at klu; have KLU := hide klu; clear hBu hbu HBZ klu) | (go_at_call 51; refine (KLU.out).mono ?_; rintro e u2 ⟨rfl, hu2⟩; subst hu2))
              go_ret2
              exact ⟨by rw [HV2.out]; rfl, HU.out⟩
            · have hbigI : (NL : Int) ≤ (16384 : Int) := by omega
              have HNX := hide hnx
              have HNL := hide hNL
              clear hnx hacc
              go_wp2_with (first | (go_at_call 39; refine (bwriteByteK _ _ acc 32 _ HBDA.out hw1 hszA).mono ?_; rintro e y ⟨rfl, hBy, hby, hoy⟩; have hyc := hoy _ _ HCP.out hnb (by intro c fz h; cases h); obtain ⟨⟨q0, q1⟩, q2, q3⟩ := four_at hyc; have HBY := hide hBy; have HY := hide ((HBA.out).trans (hby.mono hWw)); have hszY : W1.heap.size ≤ y.heap.size := Nat.le_trans hszA hby.size; clear hBy hby hoy hyc HBDA) | (go_at_call 50; refine (KP.out _ (HL.out.below HY.out) (HZ.out.below HY.out)).mono ?_; rintro e z ⟨rfl, hbz⟩; have HBZ := hide (HBY.out.below hbz); have HZ2 := hide (bseq HY.out hbz); have hszZ : W1.heap.size ≤ z.heap.size := Nat.le_trans hszY hbz.size; clear hbz) | (go_at_call 42; refine (bwriteString _ _ (acc ++ [32]) _ _ HBZ.out hw2 hszZ).mono ?_; rintro e u ⟨⟨ev, rfl⟩, hBu, hbu⟩; rw [show (⟨P.toArray⟩ : ByteArray).data.toList = P from by simp] at hBu; have HBU := hide hBu; have HU := hide (HZ2.out.trans (hbu.mono hWw)); have hszU : W1.heap.size ≤ u.heap.size := Nat.le_trans hszZ hbu.size; have klu := blen _ _ _ _ hBu; rw [hNL] at klu; have KLU := hide klu; clear hBu hbu HBZ klu) | (go_at_call 51; refine (KLU.out).mono ?_; rintro e u2 ⟨rfl, hu2⟩; subst hu2))
              go_roundw
              case rel => exact ⟨j + 1, by go_num, by omega, by rw [HNX.out, HNL.out]; omega, by rw [HNX.out]; exact HBU.out, HU.out, hszU⟩
              case measure => simp [intOf]; omega
        · have hge2 : (xs.length : Int) ≤ (j : Int) := by omega
          have htk : xs.take j = xs := List.take_of_length_le (by omega)
          rw [htk] at HBD2 hlen
          have hv2 := HV.out
          rw [if_neg (by omega)] at hv2
          have HV2 := hide hv2
          clear hv2 htk
          go_wp2_with (go_at_call 44; refine (bstring _ _ _ _ HBD2.out hsz).mono ?_; rintro e z ⟨rfl, hBz, hbz⟩)
          go_ret2
          exact ⟨by rw [HV2.out]; rfl, HB2.out.trans (hbz.mono HB.out.size)⟩
end Go.Proofs.YtaljllbfedfpoaaGreatDoor
