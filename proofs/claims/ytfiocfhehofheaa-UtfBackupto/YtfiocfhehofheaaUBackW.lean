/- The road of UtfBack: runes come back out of their text, a text's runes encoded are the mended text. -/
import Derived.Test.YtfiocfhehofheaaUBackC
import Derived.Deep.RegionHeld3
import Derived.OrdersHeld
namespace Go.Proofs.Ytfiocfhehofheaa.utfBack
open Go.RowKit Go.Shelf Go.Proofs.Ytfiocfhehofheaa
set_option linter.unusedVariables false
attribute [local go_sem] Oper.semAt_some

theorem take_fix (zs : List Int) (k : Nat) (z : Int) (h : zs[k]? = some z) : zs.take (k + 1) = zs.take k ++ [z] := by rw [List.take_add_one, h]; rfl
theorem encL_snoc (zs : List Int) (z : Int) : encL' (zs ++ [z]) = encL' zs ++ Lib.encodeRune z := by unfold encL'; simp
theorem encL_len (zs : List Int) : (encL' zs).length ≤ 4 * zs.length := by
  induction zs with
  | nil => exact Nat.le_refl _
  | cons z zs ih =>
    have := Lib.runeCells_le z
    rw [Lib.runeCells_length] at this
    show (Lib.encodeRune z ++ encL' zs).length ≤ _
    rw [List.length_append, List.length_cons]
    omega

set_option maxRecDepth 100000 in
set_option maxHeartbeats 16000000 in
theorem road (a : Option Addr) (cap : Nat) (zs : List Int) (s : ByteArray) (w : World) (h : SlU w a zs) (hz : ∀ z ∈ zs, -2147483648 ≤ z ∧ z ≤ 2147483647) (hl : zs.length ≤ 1048576) (hs : s.size ≤ 1048576) (hn : a = none → cap = 0) :
    Calls Try.prog 5 #[.slice a zs.length cap, .string s] w fun e w' => e = .returned (.bool true) ∧ Below w.heap.size w w' := by
  obtain ⟨i0, hi, hz0, hz1, hz2⟩ := info_parts Try.info32
  obtain ⟨N, hN⟩ : ∃ N, zs.length = N := ⟨_, rfl⟩
  have HN := hide hN
  have HZ := hide hz
  have HS := hide h
  have HC := hide hn
  rw [hN] at hl ⊢
  clear hN hz h hn
  refine (callsIn_wide (n := 3)).1 ?_
  refine callsIn_of_wp_marks Try.func5 rfl trivial ?_ rfl
  simp only [Try.ntmps5, List.size_toArray, List.length_cons, List.length_nil, Nat.reduceAdd, Nat.reduceSub, Array.replicate_succ, Array.replicate_zero, List.push_toArray, List.append_toArray, List.nil_append, List.cons_append]
  gi_wp2_with (refine ⟨trivial, ?_⟩; gi_at_call 6; refine ((callsIn_wide).2 (awake_any _)).mono ?_; rintro e w1 ⟨rfl, hB1⟩)
  have hBx : Below w.heap.size w ((w.alloc (.cells #[.string s] 9)).alloc (.cells #[.bool false] 4)) := ((Below.refl _ w).alloc (Nat.le_refl _) _).alloc (by simp) _
  have b0 := (Boxed.new w 9 (.string s)).alloc (.cells #[.bool false] 4)
  have b1 := Boxed.new (w.alloc (.cells #[.string s] 9)) 4 (.bool false)
  simp only [World.size_alloc] at b1
  replace b0 := below_boxed_t hB1 b0
  replace b1 := below_boxed_t hB1 b1
  have hB01 := bseq hBx hB1
  have hw1 : w.heap.size + 2 ≤ w1.heap.size := by have := hB1.size; simp at this; omega
  have facts : ∀ X, Below w1.heap.size w1 X → Boxed X w.heap.size 9 (.string s) ∧ Boxed X (w.heap.size + 1) 4 (.bool false) ∧ SlU X a zs ∧ Below w.heap.size w X := fun X hX => ⟨below_boxed_t hX b0, below_boxed_t hX b1, HS.out.below (bseq hB01 hX), bseq hB01 hX⟩
  have F1 := hide facts
  clear facts b0 b1 hB01 hBx hB1 HS
  refine wpIn_wide.2 ?_
  go_loopw [5, 6, 7] (fun v q i wr => ∃ k : Nat, i = .int .i64 (k : Int) ∧ k ≤ N ∧ q = .int .i64 ((encL' (zs.take k)).length : Int) ∧ wr.ownsRow w1.heap.size 21 1 v k (((zs.take k).map fixZ).map R32) ∧ Below w1.heap.size w1 wr) (fun _ _ i _ => N - (intOf i).toNat)
  case atStart => exact ⟨0, rfl, by omega, rfl, World.ownsRow_nil _ _ _ _, Below.refl _ _⟩
  case round =>
    obtain ⟨k, rfl, hk, rfl, hrow, hB⟩ := hrel
    by_cases hlt : k < N
    · have hltC : k < zs.length := by rw [HN.out]; exact hlt
      obtain ⟨z, hzk⟩ : ∃ z, zs[k]? = some z := ⟨_, List.getElem?_eq_getElem hltC⟩
      have hzb := HZ.out z (List.mem_of_getElem? hzk)
      obtain ⟨b, off, rfl, hbl, hcl⟩ : ∃ b off, a = some ⟨b, off, none⟩ ∧ b < wr.heap.size ∧ ∀ (i : Nat) (x : Int), zs[i]? = some x → wr.cell? ⟨b, off + i, none⟩ = some (.int .i32 x) := by
        rcases (F1.out wr hB).2.2.1 with h | h
        · rw [h] at hltC; simp at hltC
        · exact h
      have y0 := hcl k z hzk
      have hlast := fun w' => lasting_any z w' hzb.1 hzb.2
      have htk := take_fix zs k z hzk
      have hltI : (k : Int) < (N : Int) := by omega
      have hb4 := encL_len (zs.take k)
      rw [List.length_take] at hb4
      have hel : ∀ y, Lib.encodeRune y = Lib.encodeRune z → (Utf8.encode y).size = (Lib.encodeRune z).length := fun y hy => by rw [encode_eqB, hy]; rfl
      have hz4 : (Lib.encodeRune z).length ≤ 4 := by
        have := Lib.runeCells_le z
        rw [Lib.runeCells_length] at this
        exact this.2
      have hsn : ((zs.take (k + 1)).map fixZ).map R32 = ((zs.take k).map fixZ).map R32 ++ [.int .i32 (fixZ z)] := by rw [htk]; simp [R32]
      have hse : (encL' (zs.take (k + 1))).length = (encL' (zs.take k)).length + (Lib.encodeRune z).length := by rw [htk, encL_snoc, List.length_append]
      generalize (encL' (zs.take k)).length = E at *
      have HROW := hide hrow
      have HSN := hide hsn
      have HSE := hide hse
      have HB := hide hB
      have hsw := hB.size
      have hEI : (E : Int) ≤ 4194304 := by omega
      have hk0 : k ≤ 1048576 := by omega
      clear hrow hsn hse hB hcl hzk htk hltC hb4 hzb
      by_cases hm : mayB z = true
      · rw [fixZ_may hm] at HSN
        have hsz := hel z rfl
        rw [hm] at hlast
        have KL := hide hlast
        generalize (Lib.encodeRune z).length = L at *
        have hLI : (L : Int) ≤ 4 := by omega
        clear hel hm hlast hz4
        go_wp2_with (first | (go_at_call 19; refine (KL.out _).mono ?_; rintro e w2 ⟨rfl, rfl⟩) | (at_builtin; refine wpList_append_own _ rfl _ _ 32 rfl w1.heap.size 21 i0 (.int .i32 0) 1 4 Try.underlying32 hi hz0 hz1 hz2 rfl (by decide) _ k _ rfl (HROW.out.alloc _) _ 1 1 [.int .i32 z] rfl rfl (cell_one_new _ _ _) (by simp [Value.oneCell']) (by simp only [maxLen]; omega) (by omega) (by simp; omega) ?_; intro v' w4 hown' hgrow' _))
        go_roundw
        case rel => exact ⟨k + 1, by go_num, by omega, by rw [HSE.out]; push_cast; rfl, by rw [HSN.out]; exact hown', (HB.out.alloc hsw _).grown hgrow' (by simp; omega) (fun j e => (HROW.out.lt j e).1)⟩
        case measure => simp [intOf]; omega
      · rw [fixZ_not hm] at HSN
        have hsz := hel 65533 (by rw [enc_bad hm, show (65533 : Int) = ((65533 : Nat) : Int) from rfl, enc_nat]; rfl)
        have hm' : mayB z = false := by simpa using hm
        rw [hm'] at hlast
        have KL := hide hlast
        generalize (Lib.encodeRune z).length = L at *
        have hLI : (L : Int) ≤ 4 := by omega
        clear hel hm hm' hlast hz4
        go_wp2_with (first | (go_at_call 19; refine (KL.out _).mono ?_; rintro e w2 ⟨rfl, rfl⟩) | (at_builtin; refine wpList_append_own _ rfl _ _ 32 rfl w1.heap.size 21 i0 (.int .i32 0) 1 4 Try.underlying32 hi hz0 hz1 hz2 rfl (by decide) _ k _ rfl (HROW.out.alloc _) _ 1 1 [.int .i32 65533] rfl rfl (cell_one_new _ _ _) (by simp [Value.oneCell']) (by simp only [maxLen]; omega) (by omega) (by simp; omega) ?_; intro v' w4 hown' hgrow' _))
        go_roundw
        case rel => exact ⟨k + 1, by go_num, by omega, by rw [HSE.out]; push_cast; rfl, by rw [HSN.out]; exact hown', (HB.out.alloc hsw _).grown hgrow' (by simp; omega) (fun j e => (HROW.out.lt j e).1)⟩
        case measure => simp [intOf]; omega
    · have hkN : k = N := by omega
      subst hkN
      rw [List.take_of_length_le (by rw [HN.out]; exact Nat.le_refl _)] at hrow ⊢
      obtain ⟨av, cv, rfl, hsv⟩ := sluB hrow (by rw [List.length_map]; exact HN.out)
      obtain ⟨T, hT⟩ : ∃ T : ByteArray, T = ⟨(encL' zs).toArray⟩ := ⟨_, rfl⟩
      have hTb : bl T = encL' zs := by rw [hT]; rfl
      have hTs : T.size = (encL' zs).length := by rw [← bl_len, hTb]
      have h4 := encL_len zs
      rw [HN.out] at h4
      have ke := fun a' cap' w' h => encodeB a' k cap' zs HN.out w' h
      rw [← hT] at ke
      have kr : ∀ w', Calls Try.prog 17 #[.string T] w' fun e w'' => (∃ g, e = .returned (.slice (some ⟨g, 0, none⟩) k k) ∧ SlU w'' (some ⟨g, 0, none⟩) (zs.map fixZ)) ∧ Below w'.heap.size w' w'' := fun w' => by
        have := runes_any T w' (by omega)
        rw [hTb, len_encL, HN.out, runes_encL] at this
        refine this.mono ?_
        rintro e w'' ⟨g, rfl, ho, hB⟩
        obtain ⟨a', c', e1, hs⟩ := sluB ho (by rw [List.length_map]; exact HN.out)
        cases e1
        exact ⟨⟨g, rfl, hs⟩, hB⟩
      have km : ∀ w', Calls Try.prog 22 #[.string T] w' fun e w'' => e = .returned (.string T) ∧ Below w'.heap.size w' w'' := fun w' => by
        have := mend_any T w' (by omega)
        rw [hTb, mend_encL, ← hT] at this
        exact this
      have hTl : (T.size : Int) = ((encL' zs).length : Int) := by rw [hTs]
      have hTI : (T.size : Int) ≤ 4194304 := by omega
      obtain ⟨M, hM⟩ : ∃ M : ByteArray, M = ⟨(mendV (bl s)).toArray⟩ := ⟨_, rfl⟩
      have hMb : bl M = mendV (bl s) := by rw [hM]; rfl
      have hMs : M.size = s.size + 2 * (Ws (bl s)).length := by rw [← bl_len M, hMb, mend_len, bl_len]
      have hWl : (Ws (bl s)).length ≤ s.size := by
        have h1 := List.length_filter_le isW (Cs 0 (bl s))
        have h2 := Cs_len_le (bl s)
        rw [bl_len] at h2
        exact Nat.le_trans h1 h2
      have kms := fun w' => mend_any s w' (by omega)
      rw [← hM] at kms
      have kmm : ∀ w', Calls Try.prog 22 #[.string M] w' fun e w'' => e = .returned (.string M) ∧ Below w'.heap.size w' w'' := fun w' => by
        have := mend_any M w' (by omega)
        rw [hMb, show mendV (mendV (bl s)) = mendV (bl s) from mend_encL _, ← hM] at this
        exact this
      have kcm : ∀ w', Calls Try.prog 15 #[.string M] w' fun e w'' => e = .returned (.int .i64 ((Cs 0 (bl s)).length : Nat)) ∧ Below w'.heap.size w' w'' := fun w' => by
        have := count_any M w' (by omega)
        rw [hMb, mend_is, len_encL, runesZ_len] at this
        exact this
      have kcs := fun w' => count_any s w' (by omega)
      have krs : ∀ w', Calls Try.prog 17 #[.string s] w' fun e w'' => (∃ g, e = .returned (.slice (some ⟨g, 0, none⟩) (Cs 0 (bl s)).length (Cs 0 (bl s)).length) ∧ SlU w'' (some ⟨g, 0, none⟩) (runesZ (bl s))) ∧ Below w'.heap.size w' w'' := fun w' => by
        refine (runes_any s w' (by omega)).mono ?_
        rintro e w'' ⟨g, rfl, ho, hB⟩
        obtain ⟨a', c', e1, hs⟩ := sluB ho (runesZ_len _)
        cases e1
        exact ⟨⟨g, rfl, hs⟩, hB⟩
      have kem : ∀ a' cap' w', SlU w' a' (runesZ (bl s)) → Calls Try.prog 20 #[.slice a' (Cs 0 (bl s)).length cap'] w' fun e w'' => e = .returned (.string M) ∧ w'' = w' := fun a' cap' w' h => by
        have := encodeB a' (Cs 0 (bl s)).length cap' _ (runesZ_len (bl s)) w' h
        rw [← mend_is, ← hM] at this
        exact this
      have kcv : ∀ w', ∃ c, (convert 9 32 (.string s)).run Try.prog w' = .ok (.slice (some ⟨w'.heap.size, 0, none⟩) (Cs 0 (bl s)).length c) (w'.drew.alloc (.cells (((runesZ (bl s)).map R32).toArray ++ Array.replicate (c - (runesZ (bl s)).length) (.int .i32 0)) 21)) ∧
          (convert 32 9 (.slice (some ⟨w'.heap.size, 0, none⟩) (Cs 0 (bl s)).length c)).run Try.prog (w'.drew.alloc (.cells (((runesZ (bl s)).map R32).toArray ++ Array.replicate (c - (runesZ (bl s)).length) (.int .i32 0)) 21)) = .ok (.string M) (w'.drew.alloc (.cells (((runesZ (bl s)).map R32).toArray ++ Array.replicate (c - (runesZ (bl s)).length) (.int .i32 0)) 21)) := fun w' => by
        obtain ⟨c, hc⟩ := run_runesB s w' hs
        have h2 := run_encode (w'.drew.alloc (.cells (((runesZ (bl s)).map R32).toArray ++ Array.replicate (c - (runesZ (bl s)).length) (.int .i32 0)) 21)) (some ⟨w'.heap.size, 0, none⟩) c (runesZ (bl s)) (slu_new w'.drew (runesZ (bl s)) _)
        rw [runesZ_len] at hc h2
        rw [runesBytes_eqB, ← mend_is, ← hM] at h2
        exact ⟨c, by rw [runesZ_len]; exact hc, by rw [runesZ_len]; exact h2⟩
      have hMeq : M = s ↔ (Ws (bl s)).length = 0 := by
        rw [← mend_same, ← hMb]
        constructor
        · intro e; rw [e]
        · intro e
          have : M.data.toList = s.data.toList := e
          cases M; cases s
          simpa using this
      have KE := hide ke
      have KR := hide kr
      have KM := hide km
      have KMS := hide kms
      have KMM := hide kmm
      have KCM := hide kcm
      have KCS := hide kcs
      have KRS := hide krs
      have KEM := hide kem
      have KCV := hide kcv
      have HMEQ := hide hMeq
      have HMS := hide hMs
      have HSV := hide hsv
      have HB := hide hB
      have hge : (k : Int) ≤ (k : Int) := by omega
      have hTT : (((encL' zs).length : Int) != (T.size : Int)) = false := by rw [hTl]; simp
      have hTT2 : ((T.size : Int) != ((encL' zs).length : Int)) = false := by rw [hTl]; simp
      generalize (encL' zs).length = ET at *
      have hET : (ET : Int) ≤ 4194304 := by omega
      clear ke kr km kms kmm kcm kcs krs kem kcv hMeq hMs hsv hB hrow hT hTb hTs hM hMb h4 hTl
      have M1 := hide trivial
      go_wp2_with (fail)
      gi_wp2_with (first
        | (refine ⟨trivial, ?_⟩; gi_at_call 21; refine ((callsIn_wide).2 (joinN_any a cap zs k HN.out _ (F1.out _ HB.out).2.2.1 HC.out (by rw [HN.out]; omega))).mono ?_; rintro e w2 ⟨⟨aj, ⟨cj, rfl⟩, hsj⟩, hB2⟩)
        | (refine ⟨trivial, ?_⟩; gi_at_call 20; refine ((callsIn_wide).2 (KE.out _ _ _ hsj)).mono ?_; rintro e w3 ⟨rfl, hw3⟩; subst hw3)
        | (refine ⟨trivial, ?_⟩; gi_at_call 17; refine ((callsIn_wide).2 (KR.out _)).mono ?_; rintro e w4 ⟨⟨gr, rfl, hsr⟩, hB4⟩)
        | (refine ⟨trivial, ?_⟩; gi_at_call 16; refine ((callsIn_wide).2 (same_yes _ _ _ _ (zs.map fixZ) k (by rw [List.length_map]; exact HN.out) _ hsr (HSV.out.below (bseq hB2 hB4)) (by omega))).mono ?_; rintro e w5 ⟨rfl, hB5⟩)
        | (refine ⟨trivial, ?_⟩; gi_at_call 22; clear M1; refine ((callsIn_wide).2 (KM.out _)).mono ?_; rintro e w6 ⟨rfl, hB6⟩; have hBs := bseq HB.out (bseq (bseq (bseq hB2 hB4) hB5) hB6); have cs := (F1.out _ hBs).1.cell)
        | (refine ⟨trivial, ?_⟩; gi_at_call 22; refine ((callsIn_wide).2 (KMS.out _)).mono ?_; rintro e w7 ⟨rfl, hB7⟩; have hBt := bseq hBs hB7; have cs7 := ((F1.out _ hBt).1.alloc (.cells #[.int .i64 0] 3)).cell)
        | (refine ⟨trivial, ?_⟩; gi_at_call 18; refine (uwrong_in s _).mono ?_; rintro e w' ⟨rfl, rfl⟩))
      clear KE KR KM KMS HSV HB hsj hsr cs cs7 HC HZ HN hTT hTT2 hET hTI
      have bn := (Boxed.new w7 3 (.int .i64 0)).alloc (.cells #[.string s] 9)
      have bs := Boxed.new (w7.alloc (.cells #[.int .i64 0] 3)) 9 (.string s)
      have hBn : Below w7.heap.size w7 ((w7.alloc (.cells #[.int .i64 0] 3)).alloc (.cells #[.string s] 9)) := ((Below.refl _ w7).alloc (Nat.le_refl _) _).alloc (by simp) _
      have hszn : ((w7.alloc (.cells #[.int .i64 0] 3)).alloc (.cells #[.string s] 9)).heap.size = w7.heap.size + 2 := by simp
      simp only [World.size_alloc] at bs
      generalize (w7.alloc (.cells #[.int .i64 0] 3)).alloc (.cells #[.string s] 9) = WA at *
      apply rangeX (gf := 31) (lb := #[.pointer (some ⟨w7.heap.size + 1, 0, none⟩)]) (encs := encW) rfl (enters_of Try.func31 (by kernel_rfl) rfl)
        (uwrong_x (fun _ => False) (fun k => k = w7.heap.size + 1) (w7.heap.size + 1) s WA (by omega) rfl (by omega) bs.cell) (Below.refl _ _) (fun k h => by omega) (fun _ => rfl)
        (fun pre X => Boxed X w7.heap.size 3 (.int .i64 (pre.length : Int)) ∧ Below w7.heap.size w7 X)
        (fun c pre X => False)
        (Stab.and (Stab.boxed _ _ (by omega)) (Stab.below (by omega) (Nat.le_refl _)))
        (fun c => Stab.pure (fun _ => False))
        ⟨bn, hBn⟩
      case hassign =>
        intro l' x X K hK
        simp only [encW]
        gi_wp2
        exact hK
      case hbody =>
        rintro l' pre x X ⟨hn, hBX⟩ hpx
        obtain ⟨hpl, hget⟩ := take_of_preT hpx
        have hmem : x ∈ Cs 0 (bl s) := (List.mem_filter.1 (List.mem_of_getElem? hget)).1
        obtain ⟨-, hx2, hx3, -⟩ := Cs_mem (bl s) 0 x hmem
        rw [bl_len] at hx2
        have c0 := (F1.out X (bseq hBt hBX)).1.cell
        have cn := hn.cell
        have fn' := hn.frozen
        have hxI : (x.1 : Int) < (s.size : Int) := by omega
        have hx0 : (0 : Int) ≤ (x.1 : Int) := by omega
        have hplI : (pre.length : Int) ≤ 1048576 := by omega
        have HX := hide (And.intro hn hBX)
        clear hn hBX hget hmem hpx hBn bn bs hx2 hx3
        gi_wp2
        obtain ⟨hn, hBX⟩ := HX.out
        refine ⟨Kp.set _ (fun h => by omega) (by omega), ?_, hBX.setCell (p := ⟨w7.heap.size, 0, none⟩) (Nat.le_refl _) _⟩
        have := hn.set (.int .i64 ((pre.length : Int) + 1))
        simpa using this
      case hstop => rintro D c pre X hD hpre h; exact h.elim
      case hdone =>
        rintro D X hD ⟨hn, hBX⟩ hK
        clear bn hBn bs
        obtain ⟨h0, h1, -, hBw⟩ := F1.out X (bseq hBt hBX)
        have hlD := (Array.getElem?_eq_some_iff.1 hK).1
        have hms := HMS.out
        have hMI : (M.size : Int) = (s.size : Int) + 2 * ((Ws (bl s)).length : Int) := by omega
        obtain ⟨β, hb1, hb2⟩ : ∃ β : Bool, (M.toList == s.toList) = β ∧ (((Ws (bl s)).length : Int) == 0) = β := by
          by_cases hz : (Ws (bl s)).length = 0
          · exact ⟨true, by rw [HMEQ.out.2 hz]; simp, by rw [beq_iff_eq]; omega⟩
          · refine ⟨false, beq_eq_false_iff_ne.2 (fun e => hz (HMEQ.out.1 ?_)), beq_eq_false_iff_ne.2 (by omega)⟩
            rw [ByteArray.toList_eq, ByteArray.toList_eq] at e
            cases M; cases s
            simpa using e
        have mk : ∀ W, Below X.heap.size X W → W.cell? ⟨w.heap.size, 0, none⟩ = some (.string s) ∧ W.cell? ⟨w7.heap.size, 0, none⟩ = some (.int .i64 ((Ws (bl s)).length : Int)) := fun W hW => ⟨(below_boxed_t hW h0).cell, (below_boxed_t hW hn).cell⟩
        have mk2 : ∀ W, Below X.heap.size X W → (W.setCell ⟨w.heap.size + 1, 0, none⟩ (.bool true)).cell? ⟨w.heap.size, 0, none⟩ = some (.string s) ∧ (W.setCell ⟨w.heap.size + 1, 0, none⟩ (.bool true)).cell? ⟨w7.heap.size, 0, none⟩ = some (.int .i64 ((Ws (bl s)).length : Int)) := fun W hW => ⟨((below_boxed_t hW h0).other (by omega) _).cell, ((below_boxed_t hW hn).other (by have := hBt.size; omega) _).cell⟩
        have rb : ∀ W, Below X.heap.size X W → W.cell? ⟨w.heap.size + 1, 0, none⟩ = some (.bool false) ∧ W.frozen? ⟨w.heap.size + 1, 0, none⟩ = false := fun W hW => ⟨(below_boxed_t hW h1).cell, (below_boxed_t hW h1).frozen⟩
        have endS : ∀ X2, Below X.heap.size X X2 → ∀ tmps : Array Value, tmps.getD 4 undef = .pointer (some ⟨w.heap.size + 1, 0, none⟩) →
            LeavesInM Fence.wide 3 Try.prog Try.f5 tmps (fun e w' => e = .returned (.bool true) ∧ Below w.heap.size w w') [mk1 D] .returning (X2.setCell ⟨w.heap.size + 1, 0, none⟩ (.bool true)) := by
          intro X2 hX2 tmps ht
          refine leaves_box (p := 4) (ty := 4) (g := w.heap.size + 1) (t := 4) (B := w.heap.size) (w0 := w) rfl ht (fun w' hw => load_boolT hw) (Nat.le_refl _) [D] _ (by simp) (fun d hd => ?_) ((below_boxed_t hX2 h1).set _) ((bseq hBw hX2).setCell (p := ⟨w.heap.size + 1, 0, none⟩) (Nat.le_add_right _ _) _)
          simp only [List.mem_cons, List.not_mem_nil, or_false] at hd
          subst hd
          have e1 := (hX2.block d hlD).trans hK
          have hs7 := hBt.size
          refine ⟨by omega, ((grownBy_setCell' X2 (w.heap.size + 1) (.bool true)).block d (Array.getElem?_eq_some_iff.1 e1).1 (fun e => ?_)).trans e1⟩
          cases e
          omega
        obtain ⟨c, hc1, hc2⟩ := KCV.out X.drew
        have hxd : X.drew.heap.size = X.heap.size := rfl
        rw [hxd] at hc1 hc2
        clear hxd
        have MK := hide mk
        have MK2 := hide mk2
        have RB := hide rb
        have ENDS := hide endS
        have hWl2 : (Ws (bl s)).length ≤ 1048576 := by omega
        generalize (Ws (bl s)).length = NW at *
        have hβ : (β == β) = true := by simp
        have hMM : (M.toList == M.toList) = true := by simp
        have hw2 : IntKind.wrap .i64 (2 * (NW : Int)) = 2 * (NW : Int) := by rw [IntKind.wrap_i64]; omega
        have hw3 : IntKind.wrap .i64 ((s.size : Int) + 2 * (NW : Int)) = (s.size : Int) + 2 * (NW : Int) := by rw [IntKind.wrap_i64]; omega
        have hq : ((M.size : Int) == (s.size : Int) + 2 * (NW : Int)) = true := by rw [hMI]; simp
        clear mk mk2 rb endS h0 h1 hn hBw hK hms hMI HMEQ HMS KCV
        gi_wp2_with (fail)
        refine wpIn_wide.2 (Go.wp_mono (Q := noPan _) ?_ noPan_le)
        refine wp_region_held_drew (S := fun W => W.cell? ⟨w.heap.size, 0, none⟩ = some (.string s) ∧ W.cell? ⟨w7.heap.size, 0, none⟩ = some (.int .i64 (NW : Int))) (by kernel_rfl) (MK.out _ (Below.refl _ X).drew) (fun hS => ?_)
        refine wpAnyH_take (i := 0) (v := .string M) rfl (by kernel_rfl) (by kernel_rfl) (by kernel_rfl) (fun _ _ _ h => h) (Or.inl ⟨by kernel_rfl, fun w' hw => by (obtain ⟨z0, z1⟩ := hw; go_simp)⟩) hS ?_
        refine wpAnyH_take (i := 1) (v := .string s) rfl (by kernel_rfl) (by kernel_rfl) (by kernel_rfl) (fun _ _ _ h => h) (Or.inl ⟨by kernel_rfl, fun w' hw => by (obtain ⟨z0, z1⟩ := hw; go_simp)⟩) hS ?_
        refine wpAnyH_ready (rs := [2]) (by kernel_rfl) (by simp) ?_
        refine AllReadyH.cons rfl (fun K hK => ?_) AllReadyH.nil
        rw [if_pos (by kernel_rfl)]
        go_simp
        have hBq : Below X.heap.size X (X.alloc (.cells (((runesZ (bl s)).map R32).toArray ++ Array.replicate (c - (runesZ (bl s)).length) (.int .i32 0)) 21)).drew.drew := (((Below.refl _ X).alloc (Nat.le_refl _) _).drew).drew
        have hS := MK.out _ hBq
        refine hK.out _ _ hS (fun _ => ?_)
        clear hK K
        replace hc2 : (convert 32 9 (.slice (some ⟨X.heap.size, 0, none⟩) (Cs 0 (bl s)).length c)).run Try.prog (X.alloc (.cells (((runesZ (bl s)).map R32).toArray ++ Array.replicate (c - (runesZ (bl s)).length) (.int .i32 0)) 21)).drew.drew = .ok (.string M) (X.alloc (.cells (((runesZ (bl s)).map R32).toArray ++ Array.replicate (c - (runesZ (bl s)).length) (.int .i32 0)) 21)).drew.drew := hc2
        generalize (X.alloc (.cells (((runesZ (bl s)).map R32).toArray ++ Array.replicate (c - (runesZ (bl s)).length) (.int .i32 0)) 21)).drew.drew = X1 at *
        refine wpAnyH_ready (rs := [3]) (by kernel_rfl) (by simp) ?_
        refine AllReadyH.cons rfl (fun K hK => ?_) AllReadyH.nil
        rw [if_pos (by kernel_rfl)]
        go_simp
        refine hK.out _ _ hS (fun _ => ?_)
        clear hK K hc1 hc2
        refine wpAnyH_take (i := 4) (v := .bool true) rfl (by kernel_rfl) (by kernel_rfl) (by kernel_rfl) (fun _ _ _ h => h) (Or.inl ⟨by kernel_rfl, fun w' hw => by (obtain ⟨z0, z1⟩ := hw; go_simp)⟩) hS ?_
        refine wpAnyH_take (i := 5) (v := .bool true) rfl (by kernel_rfl) (by kernel_rfl) (by kernel_rfl) (fun _ _ _ h => h) (Or.inl ⟨by kernel_rfl, fun w' hw => by (obtain ⟨z0, z1⟩ := hw; go_simp)⟩) hS ?_
        refine wpAnyH_take (i := 6) (v := .string s) rfl (by kernel_rfl) (by kernel_rfl) (by kernel_rfl) (fun _ _ _ h => h) (Or.inl ⟨by kernel_rfl, fun w' hw => by (obtain ⟨z0, z1⟩ := hw; go_simp)⟩) hS ?_
        refine wpAnyH_take (i := 9) (v := .string M) rfl (by kernel_rfl) (by kernel_rfl) (by kernel_rfl) (fun _ _ _ h => h) (Or.inl ⟨by kernel_rfl, fun w' hw => by (obtain ⟨z0, z1⟩ := hw; go_simp)⟩) hS ?_
        refine wpAnyH_ready (rs := [7]) (by kernel_rfl) (by simp) ?_
        refine AllReadyH.cons rfl (fun K hK => ?_) AllReadyH.nil
        rw [if_pos (by kernel_rfl)]
        go_simp
        go_wp2_with (go_at_call 17; refine (KRS.out _).mono ?_; rintro e X2 ⟨⟨gs, rfl, hgs⟩, hB2⟩)
        replace hBq := bseq hBq hB2
        have hS := MK.out _ hBq
        refine hK.out _ _ hS (fun _ => ?_)
        clear hK K
        refine wpAnyH_ready (rs := [8]) (by kernel_rfl) (by simp) ?_
        refine AllReadyH.cons rfl (fun K hK => ?_) AllReadyH.nil
        rw [if_pos (by kernel_rfl)]
        go_simp
        go_wp2_with (go_at_call 20; refine (KEM.out _ _ _ hgs).mono ?_; rintro e X3 ⟨rfl, hw3⟩)
        subst hw3
        refine hK.out _ _ hS (fun _ => ?_)
        clear hK K hgs
        refine wpAnyH_take (i := 10) (v := .bool true) rfl (by kernel_rfl) (by kernel_rfl) (by kernel_rfl) (fun _ _ _ h => h) (Or.inl ⟨by kernel_rfl, fun w' hw => by (obtain ⟨z0, z1⟩ := hw; go_simp)⟩) hS ?_
        refine wpAnyH_take (i := 11) (v := .bool true) rfl (by kernel_rfl) (by kernel_rfl) (by kernel_rfl) (fun _ _ _ h => h) (Or.inl ⟨by kernel_rfl, fun w' hw => by (obtain ⟨z0, z1⟩ := hw; go_simp)⟩) hS ?_
        refine wpAnyH_take (i := 12) (v := .bool true) rfl (by kernel_rfl) (by kernel_rfl) (by kernel_rfl) (fun _ _ _ h => h) (Or.inl ⟨by kernel_rfl, fun w' hw => by (obtain ⟨z0, z1⟩ := hw; go_simp)⟩) hS ?_
        refine wpAnyH_take (i := 13) (v := .string M) rfl (by kernel_rfl) (by kernel_rfl) (by kernel_rfl) (fun _ _ _ h => h) (Or.inl ⟨by kernel_rfl, fun w' hw => by (obtain ⟨z0, z1⟩ := hw; go_simp)⟩) hS ?_
        refine wpAnyH_take (i := 15) (v := .string M) rfl (by kernel_rfl) (by kernel_rfl) (by kernel_rfl) (fun _ _ _ h => h) (Or.inl ⟨by kernel_rfl, fun w' hw => by (obtain ⟨z0, z1⟩ := hw; go_simp)⟩) hS ?_
        refine wpAnyH_ready (rs := [14]) (by kernel_rfl) (by simp) ?_
        refine AllReadyH.cons rfl (fun K hK => ?_) AllReadyH.nil
        rw [if_pos (by kernel_rfl)]
        go_simp
        go_wp2_with (go_at_call 22; refine (KMM.out _).mono ?_; rintro e X4 ⟨rfl, hB4⟩)
        replace hBq := bseq hBq hB4
        have hS := MK.out _ hBq
        refine hK.out _ _ hS (fun _ => ?_)
        clear hK K
        refine wpAnyH_take (i := 16) (v := .bool true) rfl (by kernel_rfl) (by kernel_rfl) (by kernel_rfl) (fun _ _ _ h => h) (Or.inl ⟨by kernel_rfl, fun w' hw => by (obtain ⟨z0, z1⟩ := hw; go_simp)⟩) hS ?_
        refine wpAnyH_take (i := 17) (v := .bool true) rfl (by kernel_rfl) (by kernel_rfl) (by kernel_rfl) (fun _ _ _ h => h) (Or.inl ⟨by kernel_rfl, fun w' hw => by (obtain ⟨z0, z1⟩ := hw; go_simp)⟩) hS ?_
        refine wpAnyH_take (i := 18) (v := .bool true) rfl (by kernel_rfl) (by kernel_rfl) (by kernel_rfl) (fun _ _ _ h => h) (Or.inl ⟨by kernel_rfl, fun w' hw => by (obtain ⟨z0, z1⟩ := hw; go_simp)⟩) hS ?_
        refine wpAnyH_take (i := 19) (v := .string M) rfl (by kernel_rfl) (by kernel_rfl) (by kernel_rfl) (fun _ _ _ h => h) (Or.inl ⟨by kernel_rfl, fun w' hw => by (obtain ⟨z0, z1⟩ := hw; go_simp)⟩) hS ?_
        refine wpAnyH_take (i := 21) (v := .string s) rfl (by kernel_rfl) (by kernel_rfl) (by kernel_rfl) (fun _ _ _ h => h) (Or.inl ⟨by kernel_rfl, fun w' hw => by (obtain ⟨z0, z1⟩ := hw; go_simp)⟩) hS ?_
        refine wpAnyH_ready (rs := [20]) (by kernel_rfl) (by simp) ?_
        refine AllReadyH.cons rfl (fun K hK => ?_) AllReadyH.nil
        rw [if_pos (by kernel_rfl)]
        go_simp
        go_wp2_with (go_at_call 15; refine (KCM.out _).mono ?_; rintro e X5 ⟨rfl, hB5⟩)
        replace hBq := bseq hBq hB5
        have hS := MK.out _ hBq
        refine hK.out _ _ hS (fun _ => ?_)
        clear hK K
        refine wpAnyH_ready (rs := [22]) (by kernel_rfl) (by simp) ?_
        refine AllReadyH.cons rfl (fun K hK => ?_) AllReadyH.nil
        rw [if_pos (by kernel_rfl)]
        go_simp
        go_wp2_with (go_at_call 15; refine (KCS.out _).mono ?_; rintro e X6 ⟨rfl, hB6⟩)
        replace hBq := bseq hBq hB6
        have hS := MK.out _ hBq
        refine hK.out _ _ hS (fun _ => ?_)
        clear hK K
        refine wpAnyH_take (i := 23) (v := .bool true) rfl (by kernel_rfl) (by kernel_rfl) (by kernel_rfl) (fun _ _ _ h => h) (Or.inl ⟨by kernel_rfl, fun w' hw => by (obtain ⟨z0, z1⟩ := hw; go_simp)⟩) hS ?_
        refine wpAnyH_take (i := 24) (v := .bool true) rfl (by kernel_rfl) (by kernel_rfl) (by kernel_rfl) (fun _ _ _ h => h) (Or.inl ⟨by kernel_rfl, fun w' hw => by (obtain ⟨z0, z1⟩ := hw; go_simp)⟩) hS ?_
        refine wpAnyH_take (i := 25) (v := .bool true) rfl (by kernel_rfl) (by kernel_rfl) (by kernel_rfl) (fun _ _ _ h => h) (Or.inl ⟨by kernel_rfl, fun w' hw => by (obtain ⟨z0, z1⟩ := hw; go_simp)⟩) hS ?_
        refine wpAnyH_take (i := 26) (v := .string M) rfl (by kernel_rfl) (by kernel_rfl) (by kernel_rfl) (fun _ _ _ h => h) (Or.inl ⟨by kernel_rfl, fun w' hw => by (obtain ⟨z0, z1⟩ := hw; go_simp)⟩) hS ?_
        simp only [Act.put, List.getElem_toArray, List.getElem_cons_zero, List.getElem_cons_succ, List.setIfInBounds_toArray, List.set_cons_zero, List.set_cons_succ]
        refine wpAnyH_take (i := 27) (v := .int .i64 (M.size : Int)) rfl (by kernel_rfl) (by kernel_rfl) (by kernel_rfl) (fun _ _ _ h => h) (Or.inl ⟨by kernel_rfl, fun w' hw => by (obtain ⟨z0, z1⟩ := hw; go_simp)⟩) hS ?_
        refine wpAnyH_take (i := 28) (v := .string s) rfl (by kernel_rfl) (by kernel_rfl) (by kernel_rfl) (fun _ _ _ h => h) (Or.inl ⟨by kernel_rfl, fun w' hw => by (obtain ⟨z0, z1⟩ := hw; go_simp)⟩) hS ?_
        refine wpAnyH_take (i := 29) (v := .int .i64 (s.size : Int)) rfl (by kernel_rfl) (by kernel_rfl) (by kernel_rfl) (fun _ _ _ h => h) (Or.inl ⟨by kernel_rfl, fun w' hw => by (obtain ⟨z0, z1⟩ := hw; go_simp)⟩) hS ?_
        refine wpAnyH_take (i := 30) (v := .int .i64 (NW : Int)) rfl (by kernel_rfl) (by kernel_rfl) (by kernel_rfl) (fun _ _ _ h => h) (Or.inl ⟨by kernel_rfl, fun w' hw => by (obtain ⟨z0, z1⟩ := hw; go_simp)⟩) hS ?_
        simp only [Act.put, List.getElem_toArray, List.getElem_cons_zero, List.getElem_cons_succ, List.setIfInBounds_toArray, List.set_cons_zero, List.set_cons_succ]
        refine wpAnyH_take (i := 31) (v := .int .i64 (2 * (NW : Int))) rfl (by kernel_rfl) (by kernel_rfl) (by kernel_rfl) (fun _ _ _ h => h) (Or.inl ⟨by kernel_rfl, fun w' hw => by (obtain ⟨z0, z1⟩ := hw; go_simp)⟩) hS ?_
        refine wpAnyH_take (i := 32) (v := .int .i64 ((s.size : Int) + 2 * (NW : Int))) rfl (by kernel_rfl) (by kernel_rfl) (by kernel_rfl) (fun _ _ _ h => h) (Or.inl ⟨by kernel_rfl, fun w' hw => by (obtain ⟨z0, z1⟩ := hw; go_simp)⟩) hS ?_
        refine wpAnyH_take (i := 33) (v := .bool true) rfl (by kernel_rfl) (by kernel_rfl) (by kernel_rfl) (fun _ _ _ h => h) (Or.inl ⟨by kernel_rfl, fun w' hw => by (obtain ⟨z0, z1⟩ := hw; go_simp)⟩) hS ?_
        refine wpAnyH_take (i := 34) (v := .bool true) rfl (by kernel_rfl) (by kernel_rfl) (by kernel_rfl) (fun _ _ _ h => h) (Or.inl ⟨by kernel_rfl, fun w' hw => by (obtain ⟨z0, z1⟩ := hw; go_simp)⟩) hS ?_
        simp only [Act.put, List.getElem_toArray, List.getElem_cons_zero, List.getElem_cons_succ, List.setIfInBounds_toArray, List.set_cons_zero, List.set_cons_succ]
        refine wpAnyH_take (i := 35) (v := .bool true) rfl (by kernel_rfl) (by kernel_rfl) (by kernel_rfl) (fun _ _ _ h => h) (Or.inl ⟨by kernel_rfl, fun w' hw => by (obtain ⟨z0, z1⟩ := hw; go_simp)⟩) hS ?_
        refine wpAnyH_take (i := 36) (v := .string M) rfl (by kernel_rfl) (by kernel_rfl) (by kernel_rfl) (fun _ _ _ h => h) (Or.inl ⟨by kernel_rfl, fun w' hw => by (obtain ⟨z0, z1⟩ := hw; go_simp)⟩) hS ?_
        refine wpAnyH_take (i := 37) (v := .string s) rfl (by kernel_rfl) (by kernel_rfl) (by kernel_rfl) (fun _ _ _ h => h) (Or.inl ⟨by kernel_rfl, fun w' hw => by (obtain ⟨z0, z1⟩ := hw; go_simp)⟩) hS ?_
        refine wpAnyH_take (i := 38) (v := .bool β) rfl (by kernel_rfl) (by kernel_rfl) (by kernel_rfl) (fun _ _ _ h => h) (Or.inl ⟨by kernel_rfl, fun w' hw => by (obtain ⟨z0, z1⟩ := hw; go_simp)⟩) hS ?_
        simp only [Act.put, List.getElem_toArray, List.getElem_cons_zero, List.getElem_cons_succ, List.setIfInBounds_toArray, List.set_cons_zero, List.set_cons_succ]
        refine wpAnyH_take (i := 39) (v := .int .i64 (NW : Int)) rfl (by kernel_rfl) (by kernel_rfl) (by kernel_rfl) (fun _ _ _ h => h) (Or.inl ⟨by kernel_rfl, fun w' hw => by (obtain ⟨z0, z1⟩ := hw; go_simp)⟩) hS ?_
        refine wpAnyH_take (i := 40) (v := .bool β) rfl (by kernel_rfl) (by kernel_rfl) (by kernel_rfl) (fun _ _ _ h => h) (Or.inl ⟨by kernel_rfl, fun w' hw => by (obtain ⟨z0, z1⟩ := hw; go_simp)⟩) hS ?_
        refine wpAnyH_take (i := 41) (v := .bool true) rfl (by kernel_rfl) (by kernel_rfl) (by kernel_rfl) (fun _ _ _ h => h) (Or.inl ⟨by kernel_rfl, fun w' hw => by (obtain ⟨z0, z1⟩ := hw; go_simp)⟩) hS ?_
        refine wpAnyH_take (i := 42) (v := .bool true) rfl (by kernel_rfl) (by kernel_rfl) (by kernel_rfl) (fun _ _ _ h => h) (Or.inl ⟨by kernel_rfl, fun w' hw => by (obtain ⟨z0, z1⟩ := hw; go_simp)⟩) hS ?_
        refine wpAnyH_ready (rs := [43]) (by kernel_rfl) (by simp) ?_
        refine AllReadyH.cons rfl (fun K hK => ?_) AllReadyH.nil
        rw [if_pos (by kernel_rfl)]
        obtain ⟨r1, rf1⟩ := RB.out _ hBq
        go_simp
        refine hK.out _ _ (MK2.out _ hBq) (fun _ => ?_)
        clear hK K
        refine wpAnyH_done (by kernel_rfl) (noPan_normal ?_) _
        try simp only [Act.put, List.getElem_toArray, List.getElem_cons_zero, List.getElem_cons_succ, List.setIfInBounds_toArray, List.set_cons_zero, List.set_cons_succ]
        gi_wp2
        exact ENDS.out _ hBq _ rfl
end Go.Proofs.Ytfiocfhehofheaa.utfBack
