/- The road of BitsPieces: for all bytes and all cuts it returns true and writes nothing that was there. -/
import Derived.Test.YtjkglimbmfgllabRowsH
import Derived.Test.YtjkglimbmfgllabWorks
namespace Go.Proofs.Ytjkglimbmfgllab.bitsPieces
open Go.RowKit Go.Proofs.Ytjkglimbmfgllab
set_option linter.unusedVariables false

theorem rest_lt (p d : Int) (hd : 0 < d) : -d < p.tmod d ∧ p.tmod d < d := by
  have h := Int.natAbs_tmod p d
  have h2 := Nat.mod_lt p.natAbs (show 0 < d.natAbs by omega)
  omega

theorem sum_none (w : World) : Calls Try.prog 7 #[.slice none 0 0] w fun e w' => e = .returned (.int .u32 0) ∧ w' = w :=
  sum_any none 0 [] w (.inl rfl) (by decide)

set_option maxHeartbeats 2000000 in
theorem walk (a0 : Option Addr) (cap0 : Nat) (bs : List Nat) (a1 : Option Addr) (cap1 : Nat) (zs : List Int) (w : World) (hg : Sl w a0 bs) (hz : SlI w a1 zs) (hzr : ∀ z ∈ zs, -9223372036854775808 ≤ z ∧ z ≤ 9223372036854775807)
    (hnil : a0 = none → cap0 = 0) (hcap : bs.length ≤ cap0) (hl : bs.length ≤ 1048576) (hzl : zs.length ≤ 1048576) (hcm : cap0 ≤ maxLen) :
    Calls Try.prog 3 #[.slice a0 bs.length cap0, .slice a1 zs.length cap1] w fun e w' => e = .returned (.bool true) ∧ Below w.heap.size w w' := by
  unfold maxLen at hcm
  obtain ⟨i0, hi, hz0, hz1, hz2⟩ := info_parts Try.info22
  go_enter Try.func3, Try.ntmps3
  go_wp2_with (go_at_call 7; refine (sum_none _).mono ?_; rintro e w' ⟨rfl, rfl⟩)
  go_loopw [5, 6, 7, 8] (fun v fr s i wr => ∃ (k f : Nat) (cs : List Value) (rs : List (List Nat)), k ≤ zs.length ∧ f ≤ bs.length ∧ i = .int .i64 k ∧ fr = .int .i64 f ∧ s = .int .u32 (moreV 0 (bs.take f)) ∧ rs.flatten = bs.take f ∧ cs.length = k ∧
      wr.ownsRow w'.heap.size 22 1 v cs.length cs ∧ Ties wr w'.heap.size cs rs ∧ Below w'.heap.size w' wr) (fun _ _ _ i _ => zs.length - (intOf i).toNat)
  case atStart => exact ⟨0, 0, [], [], by omega, by omega, rfl, rfl, by rw [List.take_zero, moreV_nil]; rfl, rfl, rfl, World.ownsRow_nil _ _ _ _, Ties.nil _ _, Below.refl _ _⟩
  case round =>
    obtain ⟨k, f, cs, rs, hk, hf, rfl, rfl, rfl, hfl, hcs, hown, ht, hB⟩ := hrel
    have HFL := hide hfl
    have HCS := hide hcs
    have HO := hide hown
    have HT := hide ht
    have HB := hide hB
    clear hfl hcs ht hB hown
    by_cases hgo : k < zs.length ∧ f < bs.length
    · obtain ⟨hg1, hg2⟩ := hgo
      obtain ⟨z, hzk⟩ : ∃ z, zs[k]? = some z := ⟨_, List.getElem?_eq_getElem hg1⟩
      obtain ⟨b1, o1, rfl, hb1, hs1⟩ : ∃ b off, a1 = some ⟨b, off, none⟩ ∧ b < w'.heap.size ∧ ∀ (i : Nat) (x : Int), zs[i]? = some x → w'.cell? ⟨b, off + i, none⟩ = some (.int .i64 x) := by
        rcases hz with rfl | h
        · simp at hg1
        · exact h
      obtain ⟨b0, o0, rfl, hb0, hs0⟩ : ∃ b off, a0 = some ⟨b, off, none⟩ ∧ b < w'.heap.size ∧ Seg w' b off bs := by
        rcases hg with rfl | h
        · simp at hg2
        · exact h
      have hc1 : wr.cell? ⟨b1, o1 + k, none⟩ = some (.int .i64 z) := (HB.out.cell (p := ⟨b1, o1 + k, none⟩) hb1).trans (hs1 k z hzk)
      obtain ⟨zr1, zr2⟩ := hzr z (List.mem_of_getElem? hzk)
      obtain ⟨r1, r2⟩ := rest_lt z ((bs.length : Int) - (f : Int) + 1) (by omega)
      have hki : (k : Int) < (zs.length : Int) := by omega
      have hfi : (f : Int) < (bs.length : Int) := by omega
      have hden : 1 ≤ (bs.length : Int) - (f : Int) + 1 := by omega
      clear hzk hs1
      obtain ⟨m, hm⟩ : ∃ m : Nat, (z.tmod ((bs.length : Int) - (f : Int) + 1)).natAbs = m := ⟨_, rfl⟩
      have hml : m ≤ bs.length - f := by omega
      have hmi : (f : Int) + (m : Int) ≤ (bs.length : Int) := by omega
      have hpl : ((bs.drop f).take m).length = m := by rw [List.length_take, List.length_drop]; omega
      have hsn : bs.take (f + m) = bs.take f ++ (bs.drop f).take m := List.take_add
      have hbx : ∀ x ∈ (bs.drop f).take m, x < 256 := fun x hx => hg.lt x (List.mem_of_mem_drop (List.mem_of_mem_take hx))
      have hbt : ∀ x ∈ bs.take f, x < 256 := fun x hx => hg.lt x (List.mem_of_mem_take hx)
      have hpc : Piece w' w'.heap.size (some ⟨b0, o0 + f, none⟩) ((bs.drop f).take m) := by
        refine .inr ⟨b0, o0 + f, rfl, hb0, .inl hb0, fun i x hx => ?_⟩
        have h1 : i < m := by have := (List.getElem?_eq_some_iff.1 hx).1; omega
        rw [List.getElem?_take, if_pos h1, List.getElem?_drop] at hx
        have := hs0 (f + i) x hx
        rwa [← Nat.add_assoc] at this
      have HPL := hide hpl
      have HSN := hide hsn
      have HPC := hide hpc
      have HBX := hide hbx
      have hs32 := moreV_lt 0 (bs.take f) (by omega) hbt
      generalize hs : moreV 0 (bs.take f) = s0 at *
      have HS := hide hs
      generalize hpc2 : (bs.drop f).take m = pc at *
      have HPC2 := hide hpc2
      clear hpl hsn hpc hbx hbt hs hpc2 hs0 hg hz hzr
      have copy : ∀ W, Below w'.heap.size w' W → Calls Try.prog 9 #[.slice (some ⟨b0, o0 + f, none⟩) m (cap0 - f)] W fun e w4 => e = .returned (.slice (some ⟨W.heap.size, 0, none⟩) m m) ∧ Sl w4 (some ⟨W.heap.size, 0, none⟩) pc ∧ Below W.heap.size W w4 := fun W hW => by
        have h := copyBytes_any (some ⟨b0, o0 + f, none⟩) (cap0 - f) pc W (HPC.out.below hW).sl (by rw [HPL.out]; omega)
        rw [HPL.out] at h
        refine h.mono ?_
        rintro e w4 ⟨rfl, hO4, hB4⟩
        exact ⟨rfl, hO4.sl HBX.out, hB4⟩
      have more : ∀ W g, Sl W (some ⟨g, 0, none⟩) pc → Calls Try.prog 8 #[.int .u32 s0, .slice (some ⟨g, 0, none⟩) m m] W fun e w5 => e = .returned (.int .u32 (moreV s0 pc)) ∧ w5 = W := fun W g hW => by
        have h := more_some s0 (some ⟨g, 0, none⟩) m pc W hs32 hW (by rw [HPL.out]; unfold maxLen; omega)
        rw [HPL.out] at h
        exact h
      have COPY := hide copy
      have MORE := hide more
      have hsz := HB.out.size
      clear copy more hs32
      rcases (show z.tmod ((bs.length : Int) - (f : Int) + 1) = -(m : Int) ∧ 0 < m ∨ z.tmod ((bs.length : Int) - (f : Int) + 1) = (m : Int) by omega) with ⟨hr, hm0⟩ | hr
      · go_wp2_with (first | (at_builtin; refine wpList_append_own _ rfl (.tmp 38) (.tmp 45) 24 rfl w'.heap.size 22 i0 (.slice none 0 0) 1 24 Try.underlying24 hi hz0 hz1 hz2 rfl (by omega) _ _ _ rfl (HO.out.alloc _) ⟨wr.heap.size, 0, none⟩ 1 1 [.slice (some ⟨b0, o0 + f, none⟩) m (cap0 - f)] rfl rfl (cell_one_new _ _ _) (by simp [Value.oneCell']) (by have := HCS.out; unfold maxLen; omega) (by have := HCS.out; omega) (by simp; omega) ?_; intro v3 w3 hown3 hgrow3 _; have hB3 : Below w'.heap.size w' w3 := (HB.out.alloc hsz _).grown hgrow3 (by simp; omega) (fun j e => (HO.out.lt j e).1)) | (go_at_call 9; refine (unhide COPY w3 hB3).mono ?_; rintro e w4 ⟨rfl, hS4, hB4⟩) | (go_at_call 8; refine (unhide MORE _ _ hS4).mono ?_; rintro e w5 ⟨rfl, rfl⟩))
        have hA : Below wr.heap.size wr (wr.alloc (.cells #[.slice (some ⟨b0, o0 + f, none⟩) m (cap0 - f)] 22)) := (Below.refl _ _).alloc (Nat.le_refl _) _
        have hpcr : Piece wr w'.heap.size (some ⟨b0, o0 + f, none⟩) pc := HPC.out.below HB.out
        have hT3 := ((HT.out.snoc (cap0 - f) hpcr (by rw [HPL.out]; unfold maxLen; omega)).below hA).grown (HO.out.alloc _) hgrow3
        rw [HPL.out] at hT3
        have HT3 := hide (hT3.below (hB4.mono (Nat.le_refl _)))
        have HO3 := hide (ownsRow_below hown3 hB4)
        have HB5 := hide (bseq hB3 hB4)
        clear hA hpcr hT3 hown3 hgrow3 hB3 hB4 hS4 COPY MORE
        go_roundw
        case rel =>
          refine ⟨k + 1, f + m, cs ++ [.slice (some ⟨b0, o0 + f, none⟩) m (cap0 - f)], rs ++ [pc], by omega, by omega, by go_num, int_congr' (by omega), int_congr' ?_, ?_, by simp [HCS.out], by simpa using HO3.out, HT3.out, HB5.out⟩
          · rw [HSN.out, moreV_append, HS.out]
          · rw [List.flatten_append, HFL.out, HSN.out]; simp
        case measure => simp [intOf]; omega
      · go_wp2_with (first | (at_builtin; refine wpList_append_own _ rfl (.tmp 38) (.tmp 45) 24 rfl w'.heap.size 22 i0 (.slice none 0 0) 1 24 Try.underlying24 hi hz0 hz1 hz2 rfl (by omega) _ _ _ rfl (HO.out.alloc _) ⟨wr.heap.size, 0, none⟩ 1 1 [.slice (some ⟨b0, o0 + f, none⟩) m (cap0 - f)] rfl rfl (cell_one_new _ _ _) (by simp [Value.oneCell']) (by have := HCS.out; unfold maxLen; omega) (by have := HCS.out; omega) (by simp; omega) ?_; intro v3 w3 hown3 hgrow3 _; have hB3 : Below w'.heap.size w' w3 := (HB.out.alloc hsz _).grown hgrow3 (by simp; omega) (fun j e => (HO.out.lt j e).1)) | (go_at_call 9; refine (unhide COPY w3 hB3).mono ?_; rintro e w4 ⟨rfl, hS4, hB4⟩) | (go_at_call 8; refine (unhide MORE _ _ hS4).mono ?_; rintro e w5 ⟨rfl, rfl⟩))
        have hA : Below wr.heap.size wr (wr.alloc (.cells #[.slice (some ⟨b0, o0 + f, none⟩) m (cap0 - f)] 22)) := (Below.refl _ _).alloc (Nat.le_refl _) _
        have hpcr : Piece wr w'.heap.size (some ⟨b0, o0 + f, none⟩) pc := HPC.out.below HB.out
        have hT3 := ((HT.out.snoc (cap0 - f) hpcr (by rw [HPL.out]; unfold maxLen; omega)).below hA).grown (HO.out.alloc _) hgrow3
        rw [HPL.out] at hT3
        have HT3 := hide (hT3.below (hB4.mono (Nat.le_refl _)))
        have HO3 := hide (ownsRow_below hown3 hB4)
        have HB5 := hide (bseq hB3 hB4)
        clear hA hpcr hT3 hown3 hgrow3 hB3 hB4 hS4 COPY MORE
        go_roundw
        case rel =>
          refine ⟨k + 1, f + m, cs ++ [.slice (some ⟨b0, o0 + f, none⟩) m (cap0 - f)], rs ++ [pc], by omega, by omega, by go_num, int_congr' (by omega), int_congr' ?_, ?_, by simp [HCS.out], by simpa using HO3.out, HT3.out, HB5.out⟩
          · rw [HSN.out, moreV_append, HS.out]
          · rw [List.flatten_append, HFL.out, HSN.out]; simp
        case measure => simp [intOf]; omega
    · obtain ⟨X, hX⟩ : ∃ X, X = (if cap0 = f then a0 else a0.map (·.add (f * 1))) := ⟨_, rfl⟩
      have hpc : Piece w' w'.heap.size X (bs.drop f) := by
        by_cases hfl : f = bs.length
        · exact .inl (by rw [hfl]; simp)
        · rcases hg with rfl | ⟨b0, o0, rfl, hb0, hs0⟩
          · have h0 : f = 0 := by simpa using hf
            exact absurd h0 (by simpa using hfl)
          · rw [if_neg (by omega)] at hX
            refine .inr ⟨b0, o0 + f, by rw [hX]; simp [Addr.add], hb0, .inl hb0, fun i x hx => ?_⟩
            rw [List.getElem?_drop] at hx
            have := hs0 (f + i) x hx
            rwa [← Nat.add_assoc] at this
      have hsl : ∀ W, Sem.run Try.prog (Instr.slice 22 (.slice a0 bs.length cap0) (some (.int .i64 (f : Int))) none none) W = .ok (.slice X (bs.length - f) (cap0 - f)) W := fun W => by
        rw [hX]
        have h := run_slice_l (P := Try.prog) W 22 a0 bs.length cap0 (by kernel_rfl) .i64 (f : Int) (by omega) (by omega)
        rw [h]
        rfl
      have hpl : (bs.drop f).length = bs.length - f := List.length_drop
      have hbx : ∀ x ∈ bs.drop f, x < 256 := fun x hx => hg.lt x (List.mem_of_mem_drop hx)
      have hbt : ∀ x ∈ bs.take f, x < 256 := fun x hx => hg.lt x (List.mem_of_mem_take hx)
      have hs32 := moreV_lt 0 (bs.take f) (by omega) hbt
      have hall : moreV (moreV 0 (bs.take f)) (bs.drop f) = moreV 0 bs := by rw [← moreV_append, List.take_append_drop]
      have hflat : moreV 0 (rs ++ [bs.drop f]).flatten = moreV 0 bs := by rw [List.flatten_append, HFL.out]; simp
      have hrl : ∀ r ∈ rs ++ [bs.drop f], r.length ≤ 140737488355328 := fun r hr => by
        have h1 : r.length ≤ (rs ++ [bs.drop f]).flatten.length := by
          obtain ⟨p1, p2, he⟩ := List.append_of_mem hr
          rw [he, List.flatten_append, List.flatten_cons]
          simp
          omega
        have h2 : (rs ++ [bs.drop f]).flatten = bs := by rw [List.flatten_append, HFL.out]; simp
        rw [h2] at h1
        omega
      have hpcl : (bs.drop f).length ≤ maxLen := by rw [hpl]; unfold maxLen; omega
      have copy : ∀ W, Below w'.heap.size w' W → Calls Try.prog 9 #[.slice X (bs.length - f) (cap0 - f)] W fun e w4 => e = .returned (.slice (some ⟨W.heap.size, 0, none⟩) (bs.length - f) (bs.length - f)) ∧ Sl w4 (some ⟨W.heap.size, 0, none⟩) (bs.drop f) ∧ Below W.heap.size W w4 := fun W hW => by
        have h := copyBytes_any X (cap0 - f) (bs.drop f) W (hpc.below hW).sl (by rw [hpl]; omega)
        rw [hpl] at h
        refine h.mono ?_
        rintro e w4 ⟨rfl, hO4, hB4⟩
        exact ⟨rfl, hO4.sl hbx, hB4⟩
      have more : ∀ W g, Sl W (some ⟨g, 0, none⟩) (bs.drop f) → Calls Try.prog 8 #[.int .u32 (moreV 0 (bs.take f)), .slice (some ⟨g, 0, none⟩) (bs.length - f) (bs.length - f)] W fun e w5 => e = .returned (.int .u32 (moreV 0 bs)) ∧ w5 = W := fun W g hW => by
        have h := more_some (moreV 0 (bs.take f)) (some ⟨g, 0, none⟩) (bs.length - f) (bs.drop f) W hs32 hW (by rw [hpl]; unfold maxLen; omega)
        rw [hpl, hall] at h
        exact h
      have COPY := hide copy
      have MORE := hide more
      have HPC := hide hpc
      have HPL := hide hpl
      have HFLAT := hide hflat
      have HRL := hide hrl
      have HG := hide hg
      have HPCL := hide hpcl
      have hsz := HB.out.size
      have hstop : k = zs.length ∨ (k < zs.length ∧ f = bs.length) := by omega
      clear copy more hpc hpl hflat hrl hs32 hall hbx hbt hX hg hz hzr hgo hpcl
      generalize moreV 0 (bs.take f) = s0 at *
      rcases hstop with hst | ⟨hst, hst2⟩
      · have hst3 : (zs.length : Int) ≤ (k : Int) := by omega
        clear hst
        go_wp2_with (first | (at_builtin; refine wpList_append_own _ rfl (.tmp 59) (.tmp 63) 24 rfl w'.heap.size 22 i0 (.slice none 0 0) 1 24 Try.underlying24 hi hz0 hz1 hz2 rfl (by omega) _ _ _ rfl (HO.out.alloc _) ⟨wr.heap.size, 0, none⟩ 1 1 [.slice X (bs.length - f) (cap0 - f)] rfl rfl (cell_one_new _ _ _) (by simp [Value.oneCell']) (by have := HCS.out; unfold maxLen; omega) (by have := HCS.out; omega) (by simp; omega) ?_; intro v3 w3 hown3 hgrow3 _; have hB3 : Below w'.heap.size w' w3 := (HB.out.alloc hsz _).grown hgrow3 (by simp; omega) (fun j e => (HO.out.lt j e).1); obtain ⟨g3, c3, rfl⟩ := ownsRow_succ hown3) | (go_at_call 9; refine (unhide COPY w3 hB3).mono ?_; rintro e w4 ⟨rfl, hS4, hB4⟩; clear COPY) | (go_at_call 8; refine (unhide MORE _ _ hS4).mono ?_; rintro e w5 ⟨rfl, rfl⟩))
        have hA : Below wr.heap.size wr (wr.alloc (.cells #[.slice X (bs.length - f) (cap0 - f)] 22)) := (Below.refl _ _).alloc (Nat.le_refl _) _
        have hT3 := ((HT.out.snoc (cap0 - f) (HPC.out.below HB.out) HPCL.out).below hA).grown (HO.out.alloc _) hgrow3
        have hT5 := hT3.below hB4
        rw [HPL.out] at hT5
        have HT5 := hide hT5
        have hO5 := ownsRow_below hown3 hB4
        rw [show cs.length + 1 = (cs ++ [Value.slice X (bs.length - f) (cap0 - f)]).length by simp] at hO5
        have HO5 := hide hO5
        have HB5 := hide (bseq hB3 hB4)
        clear hA hT3 hT5 hO5 hown3 hgrow3 hB3 hB4 hS4 MORE hsl
        refine (copyBytes_any a0 cap0 bs w5 (HG.out.below HB5.out) (by omega)).mono ?_
        rintro e w6 ⟨rfl, hO6, hB6⟩
        have hS6 := hO6.sl HG.out.lt
        go_wp2_with fail
        refine (sum_one w6 _ bs.length bs hS6 (by unfold maxLen; omega)).mono ?_
        rintro e w7 ⟨rfl, hB7⟩
        have hT7 := (HT5.out.below hB6).below hB7
        have hO7 := ownsRow_below (ownsRow_below HO5.out hB6) hB7
        obtain ⟨a8, c8, e8, hR8⟩ := slr_of_owns hO7 hT7
        have cr : Calls Try.prog 10 #[.slice (some ⟨g3, 0, none⟩) (cs.length + 1) c3] w7 fun e w8 => ∃ v cs8, e = .returned v ∧ w8.ownsRow w7.heap.size 22 1 v cs8.length cs8 ∧ Ties w8 w7.heap.size cs8 (rs ++ [bs.drop f]) ∧ Below w7.heap.size w7 w8 := by
          have h1 : (rs ++ [bs.drop f]).length ≤ 1000000000000 := by
            have h2 := hT7.1
            simp only [List.length_append, List.length_singleton] at h2 ⊢
            have := HCS.out
            omega
          have h := copyRows_any a8 c8 (rs ++ [bs.drop f]) w7 hR8 h1 HRL.out
          rw [← e8] at h
          simpa using h
        have CR := hide cr
        have HB7 := hide (bseq (bseq HB5.out hB6) hB7)
        clear cr hT7 hO7 e8 hR8 hO6 hB6 hB7 hS6
        go_wp2_with fail
        refine (unhide CR).mono ?_
        rintro e w8 ⟨v8, cs8, rfl, hown8, ht8, hB8⟩
        have h9 := slr_of_owns hown8 ht8
        rw [show (rs ++ [bs.drop f]).length = rs.length + 1 by simp] at h9
        obtain ⟨a9, c9, rfl, hR9⟩ := h9
        have sm := sum_any a9 c9 (rs ++ [bs.drop f]) w8 hR9 (by have h2 := ht8.1; have := HT5.out.1; simp at this; have := HCS.out; simp; unfold maxLen; omega)
        rw [show sumV (rs ++ [bs.drop f]) = moreV 0 bs from HFLAT.out, show (rs ++ [bs.drop f]).length = rs.length + 1 by simp] at sm
        have SM := hide sm
        have HB8 := hide (bseq HB7.out hB8)
        clear sm hR9 hown8 ht8 hB8 CR
        go_wp2_with fail
        refine (unhide SM).mono ?_
        rintro e w9 ⟨rfl, rfl⟩
        clear SM
        go_wp2_with (go_at_call 11; refine (works_any _).mono ?_; rintro e w10 ⟨rfl, hB10⟩)
        go_ret
        exact ⟨rfl, bseq HB8.out hB10⟩
      · have hst3 : (k : Int) < (zs.length : Int) := by omega
        have hst4 : (bs.length : Int) ≤ (f : Int) := by omega
        clear hst hst2
        go_wp2_with (first | (at_builtin; refine wpList_append_own _ rfl (.tmp 59) (.tmp 63) 24 rfl w'.heap.size 22 i0 (.slice none 0 0) 1 24 Try.underlying24 hi hz0 hz1 hz2 rfl (by omega) _ _ _ rfl (HO.out.alloc _) ⟨wr.heap.size, 0, none⟩ 1 1 [.slice X (bs.length - f) (cap0 - f)] rfl rfl (cell_one_new _ _ _) (by simp [Value.oneCell']) (by have := HCS.out; unfold maxLen; omega) (by have := HCS.out; omega) (by simp; omega) ?_; intro v3 w3 hown3 hgrow3 _; have hB3 : Below w'.heap.size w' w3 := (HB.out.alloc hsz _).grown hgrow3 (by simp; omega) (fun j e => (HO.out.lt j e).1); obtain ⟨g3, c3, rfl⟩ := ownsRow_succ hown3) | (go_at_call 9; refine (unhide COPY w3 hB3).mono ?_; rintro e w4 ⟨rfl, hS4, hB4⟩; clear COPY) | (go_at_call 8; refine (unhide MORE _ _ hS4).mono ?_; rintro e w5 ⟨rfl, rfl⟩))
        have hA : Below wr.heap.size wr (wr.alloc (.cells #[.slice X (bs.length - f) (cap0 - f)] 22)) := (Below.refl _ _).alloc (Nat.le_refl _) _
        have hT3 := ((HT.out.snoc (cap0 - f) (HPC.out.below HB.out) HPCL.out).below hA).grown (HO.out.alloc _) hgrow3
        have hT5 := hT3.below hB4
        rw [HPL.out] at hT5
        have HT5 := hide hT5
        have hO5 := ownsRow_below hown3 hB4
        rw [show cs.length + 1 = (cs ++ [Value.slice X (bs.length - f) (cap0 - f)]).length by simp] at hO5
        have HO5 := hide hO5
        have HB5 := hide (bseq hB3 hB4)
        clear hA hT3 hT5 hO5 hown3 hgrow3 hB3 hB4 hS4 MORE hsl
        refine (copyBytes_any a0 cap0 bs w5 (HG.out.below HB5.out) (by omega)).mono ?_
        rintro e w6 ⟨rfl, hO6, hB6⟩
        have hS6 := hO6.sl HG.out.lt
        go_wp2_with fail
        refine (sum_one w6 _ bs.length bs hS6 (by unfold maxLen; omega)).mono ?_
        rintro e w7 ⟨rfl, hB7⟩
        have hT7 := (HT5.out.below hB6).below hB7
        have hO7 := ownsRow_below (ownsRow_below HO5.out hB6) hB7
        obtain ⟨a8, c8, e8, hR8⟩ := slr_of_owns hO7 hT7
        have cr : Calls Try.prog 10 #[.slice (some ⟨g3, 0, none⟩) (cs.length + 1) c3] w7 fun e w8 => ∃ v cs8, e = .returned v ∧ w8.ownsRow w7.heap.size 22 1 v cs8.length cs8 ∧ Ties w8 w7.heap.size cs8 (rs ++ [bs.drop f]) ∧ Below w7.heap.size w7 w8 := by
          have h1 : (rs ++ [bs.drop f]).length ≤ 1000000000000 := by
            have h2 := hT7.1
            simp only [List.length_append, List.length_singleton] at h2 ⊢
            have := HCS.out
            omega
          have h := copyRows_any a8 c8 (rs ++ [bs.drop f]) w7 hR8 h1 HRL.out
          rw [← e8] at h
          simpa using h
        have CR := hide cr
        have HB7 := hide (bseq (bseq HB5.out hB6) hB7)
        clear cr hT7 hO7 e8 hR8 hO6 hB6 hB7 hS6
        go_wp2_with fail
        refine (unhide CR).mono ?_
        rintro e w8 ⟨v8, cs8, rfl, hown8, ht8, hB8⟩
        have h9 := slr_of_owns hown8 ht8
        rw [show (rs ++ [bs.drop f]).length = rs.length + 1 by simp] at h9
        obtain ⟨a9, c9, rfl, hR9⟩ := h9
        have sm := sum_any a9 c9 (rs ++ [bs.drop f]) w8 hR9 (by have h2 := ht8.1; have := HT5.out.1; simp at this; have := HCS.out; simp; unfold maxLen; omega)
        rw [show sumV (rs ++ [bs.drop f]) = moreV 0 bs from HFLAT.out, show (rs ++ [bs.drop f]).length = rs.length + 1 by simp] at sm
        have SM := hide sm
        have HB8 := hide (bseq HB7.out hB8)
        clear sm hR9 hown8 ht8 hB8 CR
        go_wp2_with fail
        refine (unhide SM).mono ?_
        rintro e w9 ⟨rfl, rfl⟩
        clear SM
        go_wp2_with (go_at_call 11; refine (works_any _).mono ?_; rintro e w10 ⟨rfl, hB10⟩)
        go_ret
        exact ⟨rfl, bseq HB8.out hB10⟩
end Go.Proofs.Ytjkglimbmfgllab.bitsPieces
