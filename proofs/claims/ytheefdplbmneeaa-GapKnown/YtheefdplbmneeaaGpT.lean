/- The document's Open. -/
import Derived.Test.YtheefdplbmneeaaGpS
namespace Go.Proofs.Ytheefdplbmneeaa
open Go.RowKit
set_option linter.unusedVariables false
set_option linter.unusedSimpArgs false

theorem leV_pair (l : List Nat) (i x y : Nat) (hx : l[i]? = some x) (hy : l[i + 1]? = some y) : leV ((l.drop i).take 2) = x + 256 * y := by
  obtain ⟨h1, rfl⟩ := List.getElem?_eq_some_iff.1 hx
  obtain ⟨h2, rfl⟩ := List.getElem?_eq_some_iff.1 hy
  rw [List.drop_eq_getElem_cons h1, List.take_succ_cons, List.drop_eq_getElem_cons h2, List.take_succ_cons, List.take_zero]
  simp only [leV]
  omega
/-- Bytes that are a gap's block, by their two numbers and what lies in the gap. -/
theorem is_of {bs : List Nat} (hl : bs.length = 256) (hb : ∀ x ∈ bs, x < 256) (h1 : bF bs ≤ bT bs) (h2 : bT bs ≤ 252) (hz : ∀ i, bF bs ≤ i → i < bT bs → bs[4 + i]? = some 0) : bs = blk (bS bs) (bF bs) := by
  have hsz := bS_size hl h1 h2
  have htx : tx (bS bs) = (bs.drop 4).take (bF bs) ++ (bs.drop 4).drop (bT bs) := tx_of (fun x hx => (List.mem_append.1 hx).elim (fun h => hb x (List.mem_of_mem_drop (List.mem_of_mem_take h))) (fun h => hb x (List.mem_of_mem_drop (List.mem_of_mem_drop h))))
  have hd := gD_of (bs.drop 4) (bF bs) (bT bs) (by rw [List.length_drop]; omega) h1 h2 (fun i h3 h4 => by rw [List.getElem?_drop]; exact hz i h3 h4)
  rw [← htx] at hd
  obtain ⟨a0, ha0⟩ : ∃ x, bs[0]? = some x := ⟨_, List.getElem?_eq_getElem (by omega)⟩
  obtain ⟨a1, ha1⟩ : ∃ x, bs[1]? = some x := ⟨_, List.getElem?_eq_getElem (by omega)⟩
  obtain ⟨a2, ha2⟩ : ∃ x, bs[2]? = some x := ⟨_, List.getElem?_eq_getElem (by omega)⟩
  obtain ⟨a3, ha3⟩ : ∃ x, bs[3]? = some x := ⟨_, List.getElem?_eq_getElem (by omega)⟩
  have eF : bF bs = a0 + 256 * a1 := by unfold bF; have := leV_pair bs 0 a0 a1 ha0 ha1; rwa [List.drop_zero] at this
  have eT : bT bs = a2 + 256 * a3 := leV_pair bs 2 a2 a3 ha2 ha3
  have b0 := hb a0 (List.mem_of_getElem? ha0)
  have b1 := hb a1 (List.mem_of_getElem? ha1)
  have b2 := hb a2 (List.mem_of_getElem? ha2)
  have b3 := hb a3 (List.mem_of_getElem? ha3)
  have e4 : bs = [a0, a1, a2, a3] ++ bs.drop 4 := by
    match bs, ha0, ha1, ha2, ha3 with
    | c0 :: c1 :: c2 :: c3 :: r, h0, h1, h2, h3 =>
      simp at h0 h1 h2 h3
      subst h0 h1 h2 h3
      rfl
  have eT2 : bF bs + (252 - (bS bs).size) = bT bs := by omega
  unfold blk blkC
  rw [eT2, ← hd]
  have q1 : leB 2 (bF bs) = [a0, a1] := by rw [eF]; simp [leB]; omega
  have q2 : leB 2 (bT bs) = [a2, a3] := by rw [eT]; simp [leB]; omega
  rw [q1, q2]
  exact e4
theorem not_of {bs : List Nat} {i x : Nat} (h1 : bF bs ≤ i) (h2 : i < bT bs) (hx : bs[4 + i]? = some x) (h0 : x ≠ 0) : ¬ isBlk bs := by
  rintro ⟨S, p, hp, hs, rfl⟩
  rw [bF_blk hp hs] at h1
  rw [bT_blk hp hs] at h2
  have hg : (blk S p)[4 + i]? = some 0 := by
    unfold blk blkC
    rw [List.getElem?_append_right (by simp [leB_length]), List.length_append, leB_length, leB_length, show 4 + i - (2 + 2) = i by omega]
    exact gD_gap _ _ _ (by rw [tx_len]; exact hp) (by rw [tx_len]; exact hs) h1 (by rw [tx_len]; exact h2)
  rw [hg] at hx
  cases hx
  exact h0 rfl
theorem not_nums {bs : List Nat} (h : bT bs < bF bs ∨ 252 < bT bs) : ¬ isBlk bs := by
  rintro ⟨S, p, hp, hs, rfl⟩
  rw [bF_blk hp hs, bT_blk hp hs] at h
  omega
theorem not_len {bs : List Nat} (h : bs.length ≠ 256) : ¬ isBlk bs := by
  rintro ⟨S, p, hp, hs, rfl⟩
  exact h (blk_len hp hs)
theorem cut_mid (b off k cap : Nat) (hk : k ≤ 252) (h : 256 ≤ cap) : ∃ q n : Nat, ∀ W, (Instr.sliceAt 22 (.slice (some ⟨b, off, none⟩) 256 cap) (some (.int .i64 4)) (some (.int .i64 ((4 : Int) + (k : Int)))) none).run Try.prog W = .ok (.slice (some ⟨b, off + 4, none⟩) k n) W := by
  obtain ⟨it, h1, h2⟩ := gp_info (t := 5) (n := 1) (by kernel_rfl)
  refine ⟨0, cap - 4, fun W => ?_⟩
  have e : (0 : Int) ≤ (4 : Int) + (k : Int) ∧ (4 : Int) + (k : Int) ≤ (cap : Int) := by omega
  have e2 : ((4 : Int) + (k : Int)).toNat = 4 + k := by omega
  have e3 : ¬ (cap = 4) := by omega
  have e5 : ¬ ((4 : Int) + (k : Int) < 4) := by omega
  simp [Instr.sliceAt, Instr.slice, Sem.run_bind, run_underlying Try.underlying22, Instr.sliceBounds, Instr.sliceBound, asIntOf, sizeOf, typeInfo, h1, h2, e, e2, e3, e5, Addr.add_mid]
theorem cut_end (b off k cap : Nat) (hk : k ≤ 252) (h : 256 ≤ cap) : ∃ q n : Nat, (∀ W, (Instr.sliceAt 22 (.slice (some ⟨b, off, none⟩) 256 cap) (some (.int .i64 ((4 : Int) + (k : Int)))) none none).run Try.prog W = .ok (.slice (some ⟨b, q, none⟩) (252 - k) n) W) ∧ (k < 252 → q = off + (4 + k)) := by
  obtain ⟨it, h1, h2⟩ := gp_info (t := 5) (n := 1) (by kernel_rfl)
  have e : (0 : Int) ≤ (4 : Int) + (k : Int) ∧ (4 : Int) + (k : Int) ≤ 256 := by omega
  have e2 : ((4 : Int) + (k : Int)).toNat = 4 + k := by omega
  have e4 : 256 - (4 + k) = 252 - k := by omega
  by_cases h0 : cap = 4 + k
  · refine ⟨off, 0, fun W => ?_, fun hlt => by omega⟩
    simp [Instr.sliceAt, Instr.slice, Sem.run_bind, run_underlying Try.underlying22, Instr.sliceBounds, Instr.sliceBound, asIntOf, sizeOf, typeInfo, h1, h2, e, e2, h0, e4]
  · refine ⟨off + (4 + k), cap - (4 + k), fun W => ?_, fun _ => rfl⟩
    simp [Instr.sliceAt, Instr.slice, Sem.run_bind, run_underlying Try.underlying22, Instr.sliceBounds, Instr.sliceBound, asIntOf, sizeOf, typeInfo, h1, h2, e, e2, h0, e4, Addr.add_mid]
section
variable {w : World}
theorem ropen_len (a : Option Addr) (n cap : Nat) (h : n ≠ 256) : Calls Try.prog 27 #[.slice a n cap] w fun e w' => e = .returned (.tuple #[.pointer none, .int .i64 160]) ∧ w' = w := by
  have hI : ((n : Int) != 256) = true := by simp; omega
  go_enter Try.func27, Try.ntmps27
  go_wp2
  go_ret2
  exact ⟨rfl, rfl⟩
set_option maxRecDepth 100000 in
set_option maxHeartbeats 2000000 in
theorem ropen_any (b off cap : Nat) (bs : List Nat) (hg : Sl w (some ⟨b, off, none⟩) bs) (hl : bs.length = 256) (hc : 256 ≤ cap) :
    Calls Try.prog 27 #[.slice (some ⟨b, off, none⟩) 256 cap] w fun e w' => (isBlk bs ∧ (∃ r, e = .returned (.tuple #[.pointer (some ⟨r, 0, none⟩), .int .i64 0]) ∧ RefG w' r (bS bs) (bF bs) ∧ w.heap.size ≤ r) ∨ ¬ isBlk bs ∧ e = .returned (.tuple #[.pointer none, .int .i64 160])) ∧ Below w.heap.size w w' := by
  have hb := hg.lt
  have hseg : b < w.heap.size ∧ Seg w b off bs := by
    rcases hg with rfl | ⟨b', o', e, hlt, hs⟩
    · simp at hl
    · cases e; exact ⟨hlt, hs⟩
  obtain ⟨a0, ha0⟩ : ∃ x, bs[0]? = some x := ⟨_, List.getElem?_eq_getElem (by omega)⟩
  obtain ⟨a1, ha1⟩ : ∃ x, bs[1]? = some x := ⟨_, List.getElem?_eq_getElem (by omega)⟩
  obtain ⟨a2, ha2⟩ : ∃ x, bs[2]? = some x := ⟨_, List.getElem?_eq_getElem (by omega)⟩
  obtain ⟨a3, ha3⟩ : ∃ x, bs[3]? = some x := ⟨_, List.getElem?_eq_getElem (by omega)⟩
  have eF : bF bs = a0 + 256 * a1 := by unfold bF; have := leV_pair bs 0 a0 a1 ha0 ha1; rwa [List.drop_zero] at this
  have eT : bT bs = a2 + 256 * a3 := leV_pair bs 2 a2 a3 ha2 ha3
  have b0 := hb a0 (List.mem_of_getElem? ha0)
  have b1 := hb a1 (List.mem_of_getElem? ha1)
  have b2 := hb a2 (List.mem_of_getElem? ha2)
  have b3 := hb a3 (List.mem_of_getElem? ha3)
  have c0 := (hseg.2 0 a0 ha0).1
  have c1 := (hseg.2 1 a1 ha1).1
  have c2 := (hseg.2 2 a2 ha2).1
  have c3 := (hseg.2 3 a3 ha3).1
  obtain ⟨f, hf⟩ : ∃ f, f = bF bs := ⟨_, rfl⟩
  obtain ⟨to, hto⟩ : ∃ to, to = bT bs := ⟨_, rfl⟩
  have EF : Hid ((a0 : Int) + 256 * (a1 : Int) = (f : Int)) := by show _ = _; rw [hf, eF]; omega
  have ET : Hid ((a2 : Int) + 256 * (a3 : Int) = (to : Int)) := by show _ = _; rw [hto, eT]; omega
  rw [Nat.add_zero] at c0
  have b0I : (a0 : Int) ≤ 255 := by omega
  have b1I : (a1 : Int) ≤ 255 := by omega
  have b2I : (a2 : Int) ≤ 255 := by omega
  have b3I : (a3 : Int) ≤ 255 := by omega
  have HSEG := hide hseg
  have HL := hide hl
  have HF := hide hf
  have HTO := hide hto
  have HBY := hide hb
  have HCAP := hide hc
  have HA2 := hide ha2
  have HA3 := hide ha3
  clear hg hseg hf hto eF eT ha0 ha1 ha2 ha3 hb hl hc
  go_enter Try.func27, Try.ntmps27
  go_upto_region 3 with (fail)
  go_quiet (fail)
  rw [EF.out]
  have HB1 := hide (below_drewN (Below.refl w.heap.size w) nq)
  have c2 := (HSEG.out.2.below HB1.out HSEG.out.1 2 a2 HA2.out).1
  have c3 := (HSEG.out.2.below HB1.out HSEG.out.1 3 a3 HA3.out).1
  generalize w.drewN nq = W1 at *
  go_upto_region 4 with (fail)
  go_quiet (fail)
  rw [ET.out]
  have HB2 := hide (bseq HB1.out (below_drewN (Below.refl W1.heap.size W1) nq))
  clear c0 c1 c2 c3 b0 b1 b2 b3 b0I b1I b2I b3I
  generalize W1.drewN nq = W2 at *
  by_cases h1 : to < f
  · have h1I : (to : Int) < (f : Int) := by omega
    go_wp2_with (fail)
    go_ret2
    exact ⟨.inr ⟨not_nums (.inl (by rw [← HF.out, ← HTO.out]; exact h1)), rfl⟩, HB2.out⟩
  · by_cases h2 : 252 < to
    · have h1I : ¬ ((to : Int) < (f : Int)) := by omega
      have h2I : (252 : Int) < (to : Int) := by omega
      go_wp2_with (fail)
      go_ret2
      exact ⟨.inr ⟨not_nums (.inr (by rw [← HTO.out]; exact h2)), rfl⟩, HB2.out⟩
    · have h1I : (f : Int) ≤ (to : Int) := by omega
      have h2I : (to : Int) ≤ 252 := by omega
      go_wp2_with (fail)
      go_loop [6] (fun iv => ∃ k : Nat, f ≤ k ∧ k ≤ to ∧ iv = .int .i64 (k : Int) ∧ ∀ i, f ≤ i → i < k → bs[4 + i]? = some 0) (fun iv => (252 - intOf iv).toNat)
      case atStart => exact ⟨f, Nat.le_refl _, by omega, rfl, fun i h3 h4 => by omega⟩
      case round =>
        obtain ⟨k, hk1, hk2, rfl, hz⟩ := hrel
        have HZ := hide hz
        clear hz
        by_cases hlt : k < to
        · obtain ⟨x, hx⟩ : ∃ x, bs[4 + k]? = some x := ⟨_, List.getElem?_eq_getElem (by have := HL.out; omega)⟩
          have cx := (HSEG.out.2.below HB2.out HSEG.out.1 (4 + k) x hx).1
          have hltI : (k : Int) < (to : Int) := by omega
          have wr4 : IntKind.i64.wrap ((4 : Int) + (k : Int)) = ((4 + k : Nat) : Int) := by rw [IntKind.wrap_i64]; omega
          have HX := hide hx
          clear hx
          by_cases h0 : x = 0
          · subst h0
            go_wp2_with (fail)
            go_round
            case rel => exact ⟨k + 1, by omega, by omega, by go_num, fun i h3 h4 => by
              by_cases e : i = k
              · rw [e]; exact HX.out
              · exact HZ.out i h3 (by omega)⟩
            case measure => simp [intOf]; omega
          · have h0I : ¬ ((x : Int) = 0) := by omega
            go_wp2_with (fail)
            go_ret2
            exact ⟨.inr ⟨not_of (i := k) (by rw [← HF.out]; exact hk1) (by rw [← HTO.out]; exact hlt) HX.out h0, rfl⟩, HB2.out⟩
        · obtain rfl : k = to := by omega
          have hltI : ¬ ((k : Int) < (k : Int)) := by omega
          have hiB : isBlk bs := ⟨bS bs, bF bs, by rw [bS_size HL.out (by rw [← HF.out, ← HTO.out]; omega) (by rw [← HTO.out]; omega)]; omega, by rw [bS_size HL.out (by rw [← HF.out, ← HTO.out]; omega) (by rw [← HTO.out]; omega)]; have := HF.out; have := HTO.out; omega, is_of HL.out HBY.out (by rw [← HF.out, ← HTO.out]; omega) (by rw [← HTO.out]; omega) (by rw [← HF.out, ← HTO.out]; exact HZ.out)⟩
          have HIB := hide hiB
          obtain ⟨q1, n1, s1⟩ := cut_mid b off f cap (by omega) HCAP.out
          obtain ⟨q3, n3, s3, hp3⟩ := cut_end b off k cap (by omega) HCAP.out
          have S1 := hide s1
          have S3 := hide s3
          obtain ⟨A, hA⟩ : ∃ A, A = ofB ((bs.drop 4).take f) := ⟨_, rfl⟩
          obtain ⟨C, hC⟩ : ∃ C, C = ofB ((bs.drop 4).drop k) := ⟨_, rfl⟩
          have lA : ((bs.drop 4).take f).length = f := by rw [List.length_take, List.length_drop, HL.out]; omega
          have lC : ((bs.drop 4).drop k).length = 252 - k := by (rw [List.length_drop, List.length_drop, HL.out])
          have hb4 : ∀ x ∈ bs.drop 4, x < 256 := fun x hx => HBY.out x (List.mem_of_mem_drop hx)
          have segX : ∀ X : World, X.heap[b]? = W2.heap[b]? → Seg X b off bs := fun X hX i x hi => by
            have h5 := (HSEG.out.2.below HB2.out HSEG.out.1) i x hi
            refine ⟨?_, h5.2⟩
            have h6 := h5.1
            simp only [World.cell?] at h6 ⊢
            rw [hX]; exact h6
          have CA : Hid (∀ X : World, X.heap[b]? = W2.heap[b]? → (convert 22 9 (.slice (some ⟨b, off + 4, none⟩) f n1)).run Try.prog X = .ok (.string A) X) := fun X hX => by
            have kk := str_of X (some ⟨b, off + 4, none⟩) n1 ((bs.drop 4).take f) (by
              by_cases h0 : f = 0
              · subst h0; exact .inl (by simp)
              · refine .inr ⟨b, off + 4, rfl, ?_, fun i x hi => ?_⟩
                · have h7 := (segX X hX) 0 _ (List.getElem?_eq_getElem (by rw [HL.out]; omega))
                  exact World.block_lt_of_cell? _ _ h7.1
                · rw [List.getElem?_take] at hi
                  split at hi
                  · rw [List.getElem?_drop] at hi
                    have := (segX X hX) (4 + i) x hi
                    rw [Nat.add_assoc]
                    exact this
                  · cases hi) (fun x hx => hb4 x (List.mem_of_mem_take hx))
            rw [lA, ← hA] at kk
            exact kk
          have CC : Hid (∀ X : World, X.heap[b]? = W2.heap[b]? → (convert 22 9 (.slice (some ⟨b, q3, none⟩) (252 - k) n3)).run Try.prog X = .ok (.string C) X) := fun X hX => by
            have kk := str_of X (some ⟨b, q3, none⟩) n3 ((bs.drop 4).drop k) (by
              by_cases h0 : k < 252
              · refine .inr ⟨b, q3, rfl, ?_, fun i x hi => ?_⟩
                · have h7 := (segX X hX) 0 _ (List.getElem?_eq_getElem (by rw [HL.out]; omega))
                  exact World.block_lt_of_cell? _ _ h7.1
                · rw [List.getElem?_drop, List.getElem?_drop] at hi
                  have := (segX X hX) (4 + (k + i)) x hi
                  rw [hp3 h0, show off + (4 + k) + i = off + (4 + (k + i)) by omega]
                  exact this
              · exact .inl (List.eq_nil_of_length_eq_zero (by rw [lC]; omega))) (fun x hx => hb4 x (List.mem_of_mem_drop hx))
            rw [lC, ← hC] at kk
            exact kk
          have eS : A ++ C = bS bs := by
            apply tx_inj
            rw [tx_app, hA, hC, tx_of (fun x hx => hb4 x (List.mem_of_mem_take hx)), tx_of (fun x hx => hb4 x (List.mem_of_mem_drop hx))]
            unfold bS
            rw [← HF.out, ← HTO.out, tx_of (fun x hx => (List.mem_append.1 hx).elim (fun h => hb4 x (List.mem_of_mem_take h)) (fun h => hb4 x (List.mem_of_mem_drop h)))]
          have E1 : Hid (∀ W, (Op.stringOp .add A C).run Try.prog W = .ok (.string (A ++ C)) W) := fun W => run_string_add_sum _ _ _ (by rw [hA, hC, of_size, of_size, lA, lC]; omega)
          have ES := hide eS
          have W4a : Hid (IntKind.i64.wrap ((4 : Int) + (f : Int)) = (4 : Int) + (f : Int)) := by show _ = _; rw [IntKind.wrap_i64]; omega
          have W4b : Hid (IntKind.i64.wrap ((4 : Int) + (k : Int)) = (4 : Int) + (k : Int)) := by show _ = _; rw [IntKind.wrap_i64]; omega
          clear hiB s1 s3 hp3 hA hC lA lC hb4 eS
          go_upto_region 12 with (fail)
          refine wp_region_held_drew (S := fun X => X.heap[b]? = W2.heap[b]?) (by kernel_rfl) rfl (fun hS => ?_)
          refine wpAnyH_take (i := 0) (v := (.slice (some ⟨b, off, none⟩) 256 cap)) rfl (by kernel_rfl) (by kernel_rfl) (by kernel_rfl) (fun _ _ _ h => h) (Or.inl ⟨by kernel_rfl, fun w' hw => by (go_simp)⟩) hS ?_
          refine wpAnyH_take (i := 1) (v := (.int .i64 (f : Int))) rfl (by kernel_rfl) (by kernel_rfl) (by kernel_rfl) (fun _ _ _ h => h) (Or.inl ⟨by kernel_rfl, fun w' hw => by (go_simp)⟩) hS ?_
          refine wpAnyH_take (i := 2) (v := (.int .i64 ((4 : Int) + (f : Int)))) rfl (by kernel_rfl) (by kernel_rfl) (by kernel_rfl) (fun _ _ _ h => h) (Or.inl ⟨by kernel_rfl, fun w' hw => by (have wa := W4a.out; go_simp)⟩) hS ?_
          refine wpAnyH_take (i := 3) (v := (.slice (some ⟨b, off + 4, none⟩) f n1)) rfl (by kernel_rfl) (by kernel_rfl) (by kernel_rfl) (fun _ _ _ h => h) (Or.inl ⟨by kernel_rfl, fun w' hw => by (have s1 := S1.out; go_simp)⟩) hS ?_
          refine wpAnyH_take (i := 4) (v := (.string A)) rfl (by kernel_rfl) (by kernel_rfl) (by kernel_rfl) (fun _ _ _ h => h) (Or.inl ⟨by kernel_rfl, fun w' hw => by (have e := CA.out w' hw; go_simp)⟩) hS ?_
          refine wpAnyH_take (i := 5) (v := (.slice (some ⟨b, off, none⟩) 256 cap)) rfl (by kernel_rfl) (by kernel_rfl) (by kernel_rfl) (fun _ _ _ h => h) (Or.inl ⟨by kernel_rfl, fun w' hw => by (go_simp)⟩) hS ?_
          refine wpAnyH_take (i := 6) (v := (.int .i64 (k : Int))) rfl (by kernel_rfl) (by kernel_rfl) (by kernel_rfl) (fun _ _ _ h => h) (Or.inl ⟨by kernel_rfl, fun w' hw => by (go_simp)⟩) hS ?_
          refine wpAnyH_take (i := 7) (v := (.int .i64 ((4 : Int) + (k : Int)))) rfl (by kernel_rfl) (by kernel_rfl) (by kernel_rfl) (fun _ _ _ h => h) (Or.inl ⟨by kernel_rfl, fun w' hw => by (have wa := W4b.out; go_simp)⟩) hS ?_
          refine wpAnyH_take (i := 8) (v := (.slice (some ⟨b, q3, none⟩) (252 - k) n3)) rfl (by kernel_rfl) (by kernel_rfl) (by kernel_rfl) (fun _ _ _ h => h) (Or.inl ⟨by kernel_rfl, fun w' hw => by (have s3 := S3.out; go_simp)⟩) hS ?_
          refine wpAnyH_take (i := 9) (v := (.string C)) rfl (by kernel_rfl) (by kernel_rfl) (by kernel_rfl) (fun _ _ _ h => h) (Or.inl ⟨by kernel_rfl, fun w' hw => by (have e := CC.out w' hw; go_simp)⟩) hS ?_
          refine wpAnyH_take (i := 10) (v := (.string (A ++ C))) rfl (by kernel_rfl) (by kernel_rfl) (by kernel_rfl) (fun _ _ _ h => h) (Or.inl ⟨by kernel_rfl, fun w' hw => by (have e1 := E1.out; go_simp)⟩) hS ?_
          refine wpAnyH_take (i := 11) (v := (.int .i64 (f : Int))) rfl (by kernel_rfl) (by kernel_rfl) (by kernel_rfl) (fun _ _ _ h => h) (Or.inl ⟨by kernel_rfl, fun w' hw => by (go_simp)⟩) hS ?_
          refine wpAnyH_take (i := 12) (v := (.agg #[.string (A ++ C), .int .i64 (f : Int)])) rfl (by kernel_rfl) (by kernel_rfl) (by kernel_rfl) (fun _ _ _ h => h) (Or.inl ⟨by kernel_rfl, fun w' hw => by (go_simp)⟩) hS ?_
          refine gp_go (i := 13) (by kernel_rfl) rfl (by kernel_rfl) (fun K hK => ?_)
          go_wp2_with (fail)
          have hb9 : (W2.alloc (.cells #[.string (A ++ C), .int .i64 (f : Int)] 66)).drew.heap[b]? = W2.heap[b]? := Below.heap_alloc _ _ _ (by have := HB2.out.size; have := HSEG.out.1; omega)
          refine hK.out _ _ hb9 ?_
          clear hK K
          refine wpAnyH_take (i := 14) (v := (.pointer (some ⟨W2.heap.size, 0, none⟩))) rfl (by kernel_rfl) (by kernel_rfl) (by kernel_rfl) (fun _ _ _ h => h) (Or.inl ⟨by kernel_rfl, fun w' hw => by (go_simp)⟩) hb9 ?_
          refine wpAnyH_take (i := 15) (v := (.int .i64 0)) rfl (by kernel_rfl) (by kernel_rfl) (by kernel_rfl) (fun _ _ _ h => h) (Or.inl ⟨by kernel_rfl, fun w' hw => by (go_simp)⟩) hb9 ?_
          refine wpAnyH_done (by kernel_rfl) ?_ _
          try simp only [Act.put, List.getElem_toArray, List.getElem_cons_zero, List.getElem_cons_succ, List.setIfInBounds_toArray, List.set_cons_zero, List.set_cons_succ]
          go_wp2_with (fail)
          go_ret2
          have hh := heap_alloc_new W2 (.cells #[.string (A ++ C), .int .i64 (f : Int)] 66)
          rw [ES.out] at hh
          have hB9 : Below w.heap.size w (W2.alloc (.cells #[.string (A ++ C), .int .i64 (f : Int)] 66)).drew := (HB2.out.alloc HB2.out.size _).drew
          rw [ES.out] at hB9 ⊢
          exact ⟨.inl ⟨HIB.out, _, rfl, by rw [← HF.out]; exact hh, HB2.out.size⟩, hB9⟩
end
end Go.Proofs.Ytheefdplbmneeaa
