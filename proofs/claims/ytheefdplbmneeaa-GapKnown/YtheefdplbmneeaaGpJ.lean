/- A gap is opened out of a block's bytes. -/
import Derived.Test.YtheefdplbmneeaaGpI
namespace Go.Proofs.Ytheefdplbmneeaa
open Go.RowKit
set_option linter.unusedVariables false
set_option linter.unusedSimpArgs false

/-- The two numbers of a block. -/
def bF (bs : List Nat) : Nat := leV (bs.take 2)
def bT (bs : List Nat) : Nat := leV ((bs.drop 2).take 2)
/-- The text of a block. -/
def bS (bs : List Nat) : ByteArray := ofB ((bs.drop 4).take (bF bs) ++ (bs.drop 4).drop (bT bs))
theorem bF_lt {bs : List Nat} (hl : bs.length = 256) (hb : ∀ x ∈ bs, x < 256) : bF bs < 65536 := by
  have h := leV_lt (bs.take 2) (fun x hx => hb x (List.mem_of_mem_take hx))
  rw [List.length_take, hl] at h
  exact h
theorem bT_lt {bs : List Nat} (hl : bs.length = 256) (hb : ∀ x ∈ bs, x < 256) : bT bs < 65536 := by
  have h := leV_lt ((bs.drop 2).take 2) (fun x hx => hb x (List.mem_of_mem_drop (List.mem_of_mem_take hx)))
  rw [List.length_take, List.length_drop, hl] at h
  exact h
theorem arr_off (W : World) (G o cap : Nat) : (Instr.arrayAt 69 (.slice (some ⟨G, o, none⟩) 256 cap)).run Try.prog W = .ok (.pointer (some ⟨G, o, none⟩)) W := by
  have hu : Try.prog.underlying 69 = some (.array 256 5) := by kernel_rfl
  simp [Instr.arrayAt, Sem.run_bind, run_underlying hu]
section
variable {w : World}
theorem take_bF {W : World} {b off cap : Nat} {bs : List Nat} (hg : Sl W (some ⟨b, off, none⟩) bs) (hl : bs.length = 256) : Calls Try.prog 42 #[.slice (some ⟨b, off, none⟩) 256 cap, .int .i64 0] W fun e w' => e = .returned (.tuple #[.int .u16 (bF bs : Int), .int .i64 0]) ∧ w' = W := by
  have k := take16_good (some ⟨b, off, none⟩) cap 0 bs W hg (by rw [hl]; decide) (by omega)
  rw [hl] at k
  exact k
theorem take_bT {W : World} {b off cap : Nat} {bs : List Nat} (hg : Sl W (some ⟨b, off, none⟩) bs) (hl : bs.length = 256) : Calls Try.prog 42 #[.slice (some ⟨b, off, none⟩) 256 cap, .int .i64 2] W fun e w' => e = .returned (.tuple #[.int .u16 (bT bs : Int), .int .i64 0]) ∧ w' = W := by
  have k := take16_good (some ⟨b, off, none⟩) cap 2 bs W hg (by rw [hl]; decide) (by omega)
  rw [hl] at k
  exact k
theorem open_low (b off cap : Nat) (bs : List Nat) (hg : Sl w (some ⟨b, off, none⟩) bs) (hl : bs.length = 256) (h : bT bs < bF bs ∨ 252 < bT bs) : Calls Try.prog 26 #[.slice (some ⟨b, off, none⟩) 256 cap] w fun e w' => e = .returned (.tuple #[.pointer none, .int .i64 160]) ∧ w' = w := by
  have K1 := hide (take_bF (cap := cap) hg hl)
  have K2 := hide (take_bT (cap := cap) hg hl)
  generalize bF bs = f at *
  generalize bT bs = to at *
  clear hg hl
  by_cases h1 : to < f
  · have hI : (to : Int) < (f : Int) := by omega
    clear h
    go_enter Try.func26, Try.ntmps26
    go_wp2_with (first | (go_at_call 42; refine (K1.out).mono ?_; rintro e w' ⟨rfl, rfl⟩; clear K1) | (go_at_call 42; refine (K2.out).mono ?_; rintro e w' ⟨rfl, rfl⟩))
    go_ret2
    exact ⟨rfl, rfl⟩
  · have hI : ¬ ((to : Int) < (f : Int)) := by omega
    have hI2 : (252 : Int) < (to : Int) := by omega
    clear h
    go_enter Try.func26, Try.ntmps26
    go_wp2_with (first | (go_at_call 42; refine (K1.out).mono ?_; rintro e w' ⟨rfl, rfl⟩; clear K1) | (go_at_call 42; refine (K2.out).mono ?_; rintro e w' ⟨rfl, rfl⟩))
    go_ret2
    exact ⟨rfl, rfl⟩
set_option maxRecDepth 100000 in
set_option maxHeartbeats 2000000 in
theorem open_mid (b off cap : Nat) (bs : List Nat) (hg : Sl w (some ⟨b, off, none⟩) bs) (hl : bs.length = 256) (hc : 256 ≤ cap) (h1 : bF bs ≤ bT bs) (h2 : bT bs ≤ 252) (d : Bool) (hd : decide (bs = blk (bS bs) (bF bs)) = d) :
    Calls Try.prog 26 #[.slice (some ⟨b, off, none⟩) 256 cap] w fun e w' => (d = true → ∃ g, e = .returned (.tuple #[.pointer (some ⟨g, 0, none⟩), .int .i64 0]) ∧ GapL w' g (bS bs) (bF bs) ∧ w.heap.size ≤ g) ∧ (d = false → e = .returned (.tuple #[.pointer none, .int .i64 160])) ∧ Below w.heap.size w w' := by
  have hb := hg.lt
  have K1 := hide (take_bF (cap := cap) hg hl)
  have K2 := hide (take_bT (cap := cap) hg hl)
  obtain ⟨f, hf⟩ : ∃ f, f = bF bs := ⟨_, rfl⟩
  obtain ⟨to, hto⟩ : ∃ to, to = bT bs := ⟨_, rfl⟩
  obtain ⟨S, hS⟩ : ∃ S, S = bS bs := ⟨_, rfl⟩
  have hseg : b < w.heap.size ∧ Seg w b off bs := by
    rcases hg with rfl | ⟨b', o', e, hlt, hs⟩
    · simp at hl
    · cases e; exact ⟨hlt, hs⟩
  have htx : tx S = (bs.drop 4).take f ++ (bs.drop 4).drop to := by
    rw [hS, hf, hto]
    exact tx_of (fun x hx => (List.mem_append.1 hx).elim (fun h => hb x (List.mem_of_mem_drop (List.mem_of_mem_take h))) (fun h => hb x (List.mem_of_mem_drop (List.mem_of_mem_drop h))))
  have hsz : S.size = f + (252 - to) := by
    rw [← tx_len, htx]
    simp only [List.length_append, List.length_take, List.length_drop, hl]
    omega
  have s1 := fun W => cut_4 b off cap hc W
  have s2 := fun W => cut_to16 b (off + 4) f (cap - 4) (by omega) (by omega) W
  obtain ⟨q3, n3, s3, hp3⟩ := cut_fr16 b (off + 4) to (cap - 4) (by omega) (by omega)
  have kb : ∀ W, Below w.heap.size w W → Calls Try.prog 32 #[.slice (some ⟨b, off + 4, none⟩) f (cap - 4), .slice (some ⟨b, q3, none⟩) (252 - to) n3] W fun e w' => ∃ g, e = .returned (.pointer (some ⟨g, 0, none⟩)) ∧ GapL w' g S f ∧ W.heap.size ≤ g ∧ Below W.heap.size W w' := fun W hW => by
    have hA : Sl W (some ⟨b, off + 4, none⟩) ((bs.drop 4).take f) := .inr ⟨b, off + 4, rfl, Nat.lt_of_lt_of_le hseg.1 hW.size, fun i x hi => by
      rw [List.getElem?_take] at hi
      split at hi
      · rw [List.getElem?_drop] at hi
        have := (hseg.2.below hW hseg.1) (4 + i) x hi
        rw [Nat.add_assoc]
        exact this
      · cases hi⟩
    have hC : Sl W (some ⟨b, q3, none⟩) ((bs.drop 4).drop to) := by
      by_cases e : to < 252
      · rw [hp3 e]
        refine .inr ⟨b, _, rfl, Nat.lt_of_lt_of_le hseg.1 hW.size, fun i x hi => ?_⟩
        rw [List.getElem?_drop, List.getElem?_drop] at hi
        have := (hseg.2.below hW hseg.1) (4 + (to + i)) x hi
        rw [show off + 4 + to + i = off + (4 + (to + i)) by omega]
        exact this
      · exact .inl (List.drop_of_length_le (by rw [List.length_drop]; omega))
    have lA : ((bs.drop 4).take f).length = f := by rw [List.length_take, List.length_drop]; omega
    have lC : ((bs.drop 4).drop to).length = 252 - to := by rw [List.length_drop, List.length_drop]; omega
    have k := between_any (w := W) (some ⟨b, off + 4, none⟩) (some ⟨b, q3, none⟩) (cap - 4) n3 _ _ hA hC (by omega)
    rw [lA, lC, ← htx] at k
    refine k.mono ?_
    rintro e w' ⟨g, rfl, hg, h3, h4⟩
    refine ⟨g, rfl, ⟨by omega, by omega, ?_⟩, h3, h4⟩
    rw [hsz, show f + (252 - (f + (252 - to))) = 252 - (252 - to) by omega]
    exact hg
  have hbl : (blk S f).length = 256 := blk_len (by omega) (by omega)
  have eq := fun W => gp_eql bs (blk S f) W hl hbl
  rw [← hS, ← hf] at hd
  rw [hd] at eq
  have ng : Try.prog.eqGuardType Try.prog.depth 69 = false := by kernel_rfl
  have AR := hide (fun W => arr_off W b off cap)
  have SLB := hide (show (Try.prog.info? 69).map (·.size) = some (bs.map B8).length by rw [List.length_map, hl]; kernel_rfl)
  have RX := hide (fun X (hX : Below w.heap.size w X) => gp_range8 (hseg.2.below hX hseg.1) : ∀ X, Below w.heap.size w X → X.rangeAt b off (bs.map B8))
  rw [← hf] at h1 K1 ⊢
  rw [← hto] at h1 h2 K2
  rw [← hS]
  have h1I : (f : Int) ≤ (to : Int) := by omega
  have h2I : (to : Int) ≤ 252 := by omega
  have KB := hide kb
  have EQ := hide eq
  have S2 := hide s2
  have S3 := hide s3
  clear kb eq s2 s3 hp3 hbl hd hsz htx hseg hg hS hf hto h1 h2 hb hl hc
  go_enter Try.func26, Try.ntmps26
  go_wp2_with (first | (go_at_call 42; refine (K1.out).mono ?_; rintro e w' ⟨rfl, rfl⟩; clear K1) | (go_at_call 42; refine (K2.out).mono ?_; rintro e w' ⟨rfl, rfl⟩))
  clear s1
  refine wp_region_held_drew (S := fun X => True) (by kernel_rfl) trivial (fun hS => ?_)
  refine wpAnyH_take (i := 0) (v := (.slice (some ⟨b, off + 4, none⟩) 252 (cap - 4))) rfl (by kernel_rfl) (by kernel_rfl) (by kernel_rfl) (fun _ _ _ h => h) (Or.inl ⟨by kernel_rfl, fun w' hw => by (go_simp)⟩) hS ?_
  refine wpAnyH_take (i := 1) (v := (.int .u16 (f : Int))) rfl (by kernel_rfl) (by kernel_rfl) (by kernel_rfl) (fun _ _ _ h => h) (Or.inl ⟨by kernel_rfl, fun w' hw => by (go_simp)⟩) hS ?_
  refine wpAnyH_take (i := 2) (v := (.slice (some ⟨b, off + 4, none⟩) f (cap - 4))) rfl (by kernel_rfl) (by kernel_rfl) (by kernel_rfl) (fun _ _ _ h => h) (Or.inl ⟨by kernel_rfl, fun w' hw => by (have s2 := S2.out; go_simp)⟩) hS ?_
  refine wpAnyH_take (i := 3) (v := (.slice (some ⟨b, off + 4, none⟩) 252 (cap - 4))) rfl (by kernel_rfl) (by kernel_rfl) (by kernel_rfl) (fun _ _ _ h => h) (Or.inl ⟨by kernel_rfl, fun w' hw => by (go_simp)⟩) hS ?_
  refine wpAnyH_take (i := 4) (v := (.int .u16 (to : Int))) rfl (by kernel_rfl) (by kernel_rfl) (by kernel_rfl) (fun _ _ _ h => h) (Or.inl ⟨by kernel_rfl, fun w' hw => by (go_simp)⟩) hS ?_
  refine wpAnyH_take (i := 5) (v := (.slice (some ⟨b, q3, none⟩) (252 - to) n3)) rfl (by kernel_rfl) (by kernel_rfl) (by kernel_rfl) (fun _ _ _ h => h) (Or.inl ⟨by kernel_rfl, fun w' hw => by (have s3 := S3.out; go_simp)⟩) hS ?_
  refine gp_go (i := 6) (by kernel_rfl) rfl (by kernel_rfl) (fun K hK => ?_)
  go_wp2_with (go_at_call 32; refine (KB.out _ ((Below.refl _ w').drew)).mono ?_; rintro e X1 ⟨g, rfl, hg1, hn1, hb1⟩; have G1 := hide hg1; have N1 := hide hn1; have B1 := hide hb1; clear hg1 hn1 hb1)
  refine hK.out _ _ trivial ?_
  clear hK K
  refine gp_go (i := 7) (by kernel_rfl) rfl (by kernel_rfl) (fun K hK => ?_)
  go_wp2_with (fail)
  refine hK.out _ _ trivial ?_
  clear hK K
  refine wpAnyH_done (by kernel_rfl) ?_ _
  try simp only [Act.put, List.getElem_toArray, List.getElem_cons_zero, List.getElem_cons_succ, List.setIfInBounds_toArray, List.set_cons_zero, List.set_cons_succ]
  have HX1 := hide (bseq (Below.refl _ w').drew B1.out : Below w'.heap.size w' X1)
  have R1 := hide (RX.out _ HX1.out.drew)
  have GL : Hid (w'.heap.size ≤ g) := N1.out
  go_upto_region 9 with (fail)
  cases d with
  | true =>
    refine wp_region_held_drew (S := fun X => X.rangeAt b off (bs.map B8)) (by kernel_rfl) R1.out (fun hS => ?_)
    refine wpAnyH_take (i := 0) (v := (.slice (some ⟨b, off, none⟩) 256 cap)) rfl (by kernel_rfl) (by kernel_rfl) (by kernel_rfl) (fun _ _ _ h => h) (Or.inl ⟨by kernel_rfl, fun w' hw => by (go_simp)⟩) hS ?_
    refine wpAnyH_take (i := 1) (v := (.pointer (some ⟨b, off, none⟩))) rfl (by kernel_rfl) (by kernel_rfl) (by kernel_rfl) (fun _ _ _ h => h) (Or.inl ⟨by kernel_rfl, fun w' hw => by (have ar := AR.out; go_simp)⟩) hS ?_
    refine wpAnyH_take (i := 2) (v := (.agg (bs.map B8).toArray)) rfl (by kernel_rfl) (by kernel_rfl) (by kernel_rfl) (fun _ _ _ h => h) (yieldsIf_load_mid (by kernel_rfl) 69 (.tmp 40) (by kernel_rfl) b off (by kernel_rfl) (bs.map B8) (.array 256 5) (fun w hw => hw) (by kernel_rfl) rfl SLB.out) hS ?_
    refine wpAnyH_take (i := 3) (v := (.pointer (some ⟨g, 0, none⟩))) rfl (by kernel_rfl) (by kernel_rfl) (by kernel_rfl) (fun _ _ _ h => h) (Or.inl ⟨by kernel_rfl, fun w' hw => by (go_simp)⟩) hS ?_
    refine gp_go (i := 4) (by kernel_rfl) rfl (by kernel_rfl) (fun K hK => ?_)
    go_wp2_with (go_at_call 41; refine (laid_g (G1.out.below ((Below.refl _ X1).drew))).mono ?_; rintro e X2 ⟨rfl, hb2⟩; have B2 := hide (bseq ((Below.refl _ X1).drew) hb2); clear hb2)
    have hS2 := RX.out _ (bseq HX1.out B2.out)
    refine hK.out _ _ hS2 ?_
    clear hK K
    refine gp_go (i := 5) (by kernel_rfl) rfl (by kernel_rfl) (fun K hK => ?_)
    have eq := EQ.out
    go_wp2_with (fail)
    refine hK.out _ _ hS2 ?_
    clear hK K
    refine wpAnyH_done (by kernel_rfl) ?_ _
    try simp only [Act.put, List.getElem_toArray, List.getElem_cons_zero, List.getElem_cons_succ, List.setIfInBounds_toArray, List.set_cons_zero, List.set_cons_succ]
    go_wp2_with (fail)
    go_ret2
    exact ⟨⟨g, rfl, G1.out.below B2.out, GL.out⟩, bseq HX1.out B2.out⟩
  | false =>
    refine wp_region_held_drew (S := fun X => X.rangeAt b off (bs.map B8)) (by kernel_rfl) R1.out (fun hS => ?_)
    refine wpAnyH_take (i := 0) (v := (.slice (some ⟨b, off, none⟩) 256 cap)) rfl (by kernel_rfl) (by kernel_rfl) (by kernel_rfl) (fun _ _ _ h => h) (Or.inl ⟨by kernel_rfl, fun w' hw => by (go_simp)⟩) hS ?_
    refine wpAnyH_take (i := 1) (v := (.pointer (some ⟨b, off, none⟩))) rfl (by kernel_rfl) (by kernel_rfl) (by kernel_rfl) (fun _ _ _ h => h) (Or.inl ⟨by kernel_rfl, fun w' hw => by (have ar := AR.out; go_simp)⟩) hS ?_
    refine wpAnyH_take (i := 2) (v := (.agg (bs.map B8).toArray)) rfl (by kernel_rfl) (by kernel_rfl) (by kernel_rfl) (fun _ _ _ h => h) (yieldsIf_load_mid (by kernel_rfl) 69 (.tmp 40) (by kernel_rfl) b off (by kernel_rfl) (bs.map B8) (.array 256 5) (fun w hw => hw) (by kernel_rfl) rfl SLB.out) hS ?_
    refine wpAnyH_take (i := 3) (v := (.pointer (some ⟨g, 0, none⟩))) rfl (by kernel_rfl) (by kernel_rfl) (by kernel_rfl) (fun _ _ _ h => h) (Or.inl ⟨by kernel_rfl, fun w' hw => by (go_simp)⟩) hS ?_
    refine gp_go (i := 4) (by kernel_rfl) rfl (by kernel_rfl) (fun K hK => ?_)
    go_wp2_with (go_at_call 41; refine (laid_g (G1.out.below ((Below.refl _ X1).drew))).mono ?_; rintro e X2 ⟨rfl, hb2⟩; have B2 := hide (bseq ((Below.refl _ X1).drew) hb2); clear hb2)
    have hS2 := RX.out _ (bseq HX1.out B2.out)
    refine hK.out _ _ hS2 ?_
    clear hK K
    refine gp_go (i := 5) (by kernel_rfl) rfl (by kernel_rfl) (fun K hK => ?_)
    have eq := EQ.out
    go_wp2_with (fail)
    refine hK.out _ _ hS2 ?_
    clear hK K
    refine wpAnyH_done (by kernel_rfl) ?_ _
    try simp only [Act.put, List.getElem_toArray, List.getElem_cons_zero, List.getElem_cons_succ, List.setIfInBounds_toArray, List.set_cons_zero, List.set_cons_succ]
    go_wp2_with (fail)
    go_ret2
    exact ⟨rfl, bseq HX1.out B2.out⟩
end
theorem leV_two (n : Nat) (h : n < 65536) : leV (leB 2 n) = n := by
  rw [leV_leB]
  exact Nat.mod_eq_of_lt (by omega)
theorem bF_blk {S : ByteArray} {p : Nat} (hp : p ≤ S.size) (hs : S.size ≤ 252) : bF (blk S p) = p := by
  unfold bF blk blkC
  rw [List.append_assoc, List.take_left' (leB_length _ _), leV_two _ (by omega)]
theorem bT_blk {S : ByteArray} {p : Nat} (hp : p ≤ S.size) (hs : S.size ≤ 252) : bT (blk S p) = p + (252 - S.size) := by
  unfold bT blk blkC
  rw [List.append_assoc, List.drop_left' (leB_length _ _), List.take_left' (leB_length _ _), leV_two _ (by omega)]
theorem bS_blk {S : ByteArray} {p : Nat} (hp : p ≤ S.size) (hs : S.size ≤ 252) : bS (blk S p) = S := by
  have e : (blk S p).drop 4 = gD (tx S) p := by
    unfold blk blkC
    rw [List.drop_left' (by rw [List.length_append, leB_length, leB_length])]
  unfold bS
  rw [bF_blk hp hs, bT_blk hp hs, e]
  apply tx_inj
  rw [tx_of, ← tx_len S]
  · exact gD_text _ _ (by rw [tx_len]; exact hp) (by rw [tx_len]; exact hs)
  · intro x hx
    rcases List.mem_append.1 hx with h | h
    · exact gD_lt _ _ (tx_lt S) x (List.mem_of_mem_take h)
    · exact gD_lt _ _ (tx_lt S) x (List.mem_of_mem_drop h)
/-- Bytes that are a gap's block. -/
def isBlk (bs : List Nat) : Prop := ∃ S p, p ≤ S.size ∧ S.size ≤ 252 ∧ bs = blk S p
theorem bS_size {bs : List Nat} (hl : bs.length = 256) (h1 : bF bs ≤ bT bs) (h2 : bT bs ≤ 252) : (bS bs).size = bF bs + (252 - bT bs) := by
  unfold bS
  rw [of_size]
  simp only [List.length_append, List.length_take, List.length_drop, hl]
  omega
section
variable {w : World}
theorem open_yes (b off cap : Nat) (S : ByteArray) (p : Nat) (hp : p ≤ S.size) (hs : S.size ≤ 252) (hg : Sl w (some ⟨b, off, none⟩) (blk S p)) (hc : 256 ≤ cap) :
    Calls Try.prog 26 #[.slice (some ⟨b, off, none⟩) 256 cap] w fun e w' => ∃ g, e = .returned (.tuple #[.pointer (some ⟨g, 0, none⟩), .int .i64 0]) ∧ GapL w' g S p ∧ w.heap.size ≤ g ∧ Below w.heap.size w w' := by
  have k := open_mid b off cap _ hg (blk_len hp hs) hc (by rw [bF_blk hp hs, bT_blk hp hs]; omega) (by rw [bT_blk hp hs]; omega) true (by rw [bS_blk hp hs, bF_blk hp hs]; exact decide_eq_true rfl)
  rw [bS_blk hp hs, bF_blk hp hs] at k
  refine k.mono ?_
  rintro e w' ⟨h1, _, h3⟩
  obtain ⟨g, h4, h5, h6⟩ := h1 rfl
  exact ⟨g, h4, h5, h6, h3⟩
theorem open_no (b off n cap : Nat) (bs : List Nat) (hl : bs.length = n) (hg : Sl w (some ⟨b, off, none⟩) bs) (hc : n ≤ cap) (h : ¬ isBlk bs) :
    Calls Try.prog 26 #[.slice (some ⟨b, off, none⟩) n cap] w fun e w' => e = .returned (.tuple #[.pointer none, .int .i64 160]) ∧ Below w.heap.size w w' := by
  by_cases h0 : n = 256
  · subst h0
    by_cases h1 : bT bs < bF bs ∨ 252 < bT bs
    · exact (open_low b off cap bs hg hl h1).mono fun e w' ⟨h2, h3⟩ => ⟨h2, by rw [h3]; exact Below.refl _ _⟩
    · have h2 : bF bs ≤ bT bs := by omega
      have h3 : bT bs ≤ 252 := by omega
      have hsz := bS_size hl h2 h3
      have k := open_mid b off cap bs hg hl hc h2 h3 false (decide_eq_false (fun e => h ⟨_, _, by omega, by omega, e⟩))
      exact k.mono fun e w' ⟨_, h4, h5⟩ => ⟨h4 rfl, h5⟩
  · exact (open_len (some ⟨b, off, none⟩) n cap h0).mono fun e w' ⟨h2, h3⟩ => ⟨h2, by rw [h3]; exact Below.refl _ _⟩
end
end Go.Proofs.Ytheefdplbmneeaa
