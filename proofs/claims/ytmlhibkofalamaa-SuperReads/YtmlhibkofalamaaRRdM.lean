/- The document's Read of a superblock. -/
import Derived.Test.YtmlhibkofalamaaZRead
import Derived.Test.YtmlhibkofalamaaPLd
import Derived.Test.YtmlhibkofalamaaPSet
import Derived.Test.YtmlhibkofalamaaHelp
import Derived.Test.YtmlhibkofalamaaZLine
namespace Go.Proofs.Ytmlhibkofalamaa
open Go.RowKit Go.Shelf
set_option linter.unusedVariables false

section
variable {w : World} {b : Nat} {L : Lay} {σ : St}
theorem zload_off (h : DevL w b L σ) (ho : σ.off = true) (x n : Int) : Calls Try.prog 27 #[.pointer (some ⟨b, 0, none⟩), .int .i64 x, .int .i64 n] w fun e w' => e = .returned (.tuple #[.slice none 0 0, .int .i64 5]) ∧ Below w.heap.size w w' := by
  have hA1 : Below w.heap.size w (w.alloc (.cells #[.pointer (some ⟨b, 0, none⟩)] 26)) := (Below.refl _ w).alloc (Nat.le_refl _) _
  have hA2 : Below w.heap.size w ((w.alloc (.cells #[.pointer (some ⟨b, 0, none⟩)] 26)).alloc (.cells #[.int .i64 x] 3)) := hA1.alloc (by simp) _
  have ks := pstate_any (h.below hA2)
  rw [ho] at ks
  simp only [if_true] at ks
  have KS := hide ks
  have HA := hide hA2
  have n1 := heap_alloc_new w (.cells #[.pointer (some ⟨b, 0, none⟩)] 26)
  have c1 : ((w.alloc (.cells #[.pointer (some ⟨b, 0, none⟩)] 26)).alloc (.cells #[.int .i64 x] 3)).cell? ⟨w.heap.size, 0, none⟩ = some (.pointer (some ⟨b, 0, none⟩)) := cell8 (row_keep n1 ((Below.refl _ _).alloc (Nat.le_refl _) _)) 0
  clear h ho ks hA1 hA2 n1
  go_enter Try.func27, Try.ntmps27
  go_wp2_with (go_at_call 36; refine (KS.out).mono ?_; rintro e w' ⟨rfl, hw⟩; obtain rfl := hw.symm)
  go_ret2
  exact ⟨rfl, HA.out⟩
set_option maxRecDepth 100000 in
set_option maxHeartbeats 1000000 in
theorem read_off (h : DevL w b L σ) (ho : σ.off = true) : Calls Try.prog 9 #[.pointer (some ⟨b, 0, none⟩)] w fun e w' => e = .returned (.tuple #[.agg noC, .int .i64 5]) ∧ Below w.heap.size w w' := by
  have hA : Below w.heap.size w (w.alloc (.cells #[.int .i64 0, .int .i64 0, .int .i64 0, .int .i64 0, .int .i64 0] 36)) := (Below.refl _ w).alloc (Nat.le_refl _) _
  have KL := hide (zload_off (h.below hA) ho 0 64)
  have HA := hide hA
  unfold noC suC
  clear h ho hA
  go_enter Try.func9, Try.ntmps9
  go_upto_region 3 with (go_at_call 27; refine (KL.out).mono ?_; rintro e W1 ⟨rfl, hB1⟩; have hz1 := row_after hB1; have HB1 := hide hB1; have HZ1 := hide hz1; clear hB1 hz1)
  obtain ⟨⟨d0, d1, d2, d3, d4⟩, ⟨f0, f1, f2, f3, f4⟩, RR, _, BB⟩ := chain5 HZ1.out (.int .i64 0) (.int .i64 0) (.int .i64 0) (.int .i64 0) (.int .i64 0)
  have R9 := hide RR
  have B9 := hide BB
  have BZ := hide (bseq HA.out HB1.out)
  clear RR BB
  go_wp2_with (fail)
  (try simp only [Exit.inBlock, Exit.then])
  refine bodyPost_ret (results_row_tmp rfl _ _ w.heap.size _ _ _ _ rfl R9.out Try.underlying36 rfl (by kernel_rfl)) rfl ?_
  exact ⟨rfl, B9.out _ _ (Nat.le_refl _) BZ.out⟩
set_option maxRecDepth 100000 in
set_option maxHeartbeats 1000000 in
theorem read_no (h : DevL w b L σ) (hok : σ.Ok) (ho : σ.off = false) (hs : ¬ okS ((64 * σ.n : Nat) : Int)) : Calls Try.prog 9 #[.pointer (some ⟨b, 0, none⟩)] w fun e w' => e = .returned (.tuple #[.agg noC, .int .i64 100]) ∧ Below w.heap.size w w' := by
  have hp := hok.pos
  have hmx := hok.max
  obtain ⟨x, hx⟩ : ∃ x : Int, x = ((64 * σ.n : Nat) : Int) := ⟨_, rfl⟩
  rw [← hx] at hs
  have hA : Below w.heap.size w (w.alloc (.cells #[.int .i64 0, .int .i64 0, .int .i64 0, .int .i64 0, .int .i64 0] 36)) := (Below.refl _ w).alloc (Nat.le_refl _) _
  have kl : Calls Try.prog 27 #[.pointer (some ⟨b, 0, none⟩), .int .i64 0, .int .i64 64] (w.alloc (.cells #[.int .i64 0, .int .i64 0, .int .i64 0, .int .i64 0, .int .i64 0] 36)) fun e w' => ∃ R, e = .returned (.tuple #[.slice (some ⟨R, 0, none⟩) 64 64, .int .i64 0]) ∧ Below (w.alloc (.cells #[.int .i64 0, .int .i64 0, .int .i64 0, .int .i64 0, .int .i64 0] 36)).heap.size (w.alloc (.cells #[.int .i64 0, .int .i64 0, .int .i64 0, .int .i64 0, .int .i64 0] 36)) w' := (callsIn_wide.1 (pload_in (at_ := 0) (n := 64) (h.below hA) hok ho (by omega))).mono fun e w' ⟨R, h1, _, _, h4⟩ => ⟨R, h1, h4⟩
  have kz : ∀ W, Below w.heap.size w W → Calls Try.prog 28 #[.pointer (some ⟨b, 0, none⟩)] W fun e w' => e = .returned (.int .i64 x) ∧ w' = W := fun W hB => by
    rw [hx]
    exact psize_any (h.below hB) hok.max
  have kp : ∀ W, Calls Try.prog 25 #[.int .i64 x] W fun r w' => r = .returned (.tuple #[.agg #[.int .i64 0, .int .i64 0, .int .i64 0, .int .i64 0, .int .i64 0], .int .i64 80]) ∧ Below W.heap.size W w' := fun W => plan_no x W (by omega) (by omega) hs
  have KL := hide kl
  have KZ := hide kz
  have KP := hide kp
  have HA := hide hA
  unfold noC suC
  clear kl kz kp hA h hok ho hs hx hp
  go_enter Try.func9, Try.ntmps9
  go_upto_region 5 with (first
    | (go_at_call 27; refine (KL.out).mono ?_; rintro e W1 ⟨R, rfl, hB1⟩; have hz1 := row_after hB1; have HB1 := hide hB1; have HZ1 := hide hz1; have KZ1 := hide (KZ.out W1 (bseq HA.out hB1)); clear hB1 hz1)
    | (go_at_call 28; refine (KZ1.out).mono ?_; rintro e w' ⟨rfl, hw⟩; obtain rfl := hw.symm)
    | (go_at_call 25; refine (KP.out _).mono ?_; rintro e W2 ⟨rfl, hB2⟩; have HB2 := hide hB2; clear hB2))
  have hB3 : Below W2.heap.size W2 (W2.alloc (.cells #[.int .i64 0, .int .i64 0, .int .i64 0, .int .i64 0, .int .i64 0] 36)) := (Below.refl _ _).alloc (Nat.le_refl _) _
  have hz3 := row_keep (row_keep HZ1.out HB2.out) hB3
  have hBw : Below w.heap.size w (W2.alloc (.cells #[.int .i64 0, .int .i64 0, .int .i64 0, .int .i64 0, .int .i64 0] 36)) := bseq (bseq (bseq HA.out HB1.out) HB2.out) hB3
  have HZ3 := hide hz3
  have HBW := hide hBw
  generalize W2.alloc (.cells #[.int .i64 0, .int .i64 0, .int .i64 0, .int .i64 0, .int .i64 0] 36) = W3 at *
  clear hB3 hz3 hBw
  go_quiet (fail)
  have hB4 : Below W3.heap.size W3 (W3.drewN nq) := below_drewN (Below.refl _ _) _
  obtain ⟨⟨d0, d1, d2, d3, d4⟩, ⟨f0, f1, f2, f3, f4⟩, RR, _, BB⟩ := chain5 (row_keep HZ3.out hB4) (.int .i64 0) (.int .i64 0) (.int .i64 0) (.int .i64 0) (.int .i64 0)
  have R9 := hide RR
  have B9 := hide BB
  have BZ := hide (bseq HBW.out hB4)
  clear RR BB hB4
  go_wp2_with (fail)
  (try simp only [Exit.inBlock, Exit.then])
  refine bodyPost_ret (results_row_tmp rfl _ _ w.heap.size _ _ _ _ rfl R9.out Try.underlying36 rfl (by kernel_rfl)) rfl ?_
  exact ⟨rfl, B9.out _ _ (Nat.le_refl _) BZ.out⟩
end
end Go.Proofs.Ytmlhibkofalamaa
namespace Go.Proofs.Ytmlhibkofalamaa
open Go.RowKit Go.Shelf
set_option linter.unusedVariables false

/-- What the document's device stands for: of each line its contents, the durable one first; which of them was flushed last (-1: none). -/
structure RSt where
  n : Nat
  con : Nat → List (List Nat)
  mark : Nat → Int
  ops : Nat
  cnt : Nat
  gone : Bool
structure RSt.Ok (ρ : RSt) : Prop where
  pos : 1 ≤ ρ.n
  max : ρ.n ≤ 65536
  ne : ∀ i, i < ρ.n → ρ.con i ≠ []
  few : ∀ i, i < ρ.n → (ρ.con i).length ≤ 1400000000001
  len : ∀ i c, i < ρ.n → c ∈ ρ.con i → c.length = 64
  byte : ∀ i c, i < ρ.n → c ∈ ρ.con i → ∀ x ∈ c, x < 256
/-- Where its parts lie. -/
structure RLay where
  lb : Nat
  lc : Nat
  ab : Nat → Nat
  ao : Nat → Nat
  ac : Nat → Nat
  cb : Nat → Nat → Nat
  av : Value
def refC (M : RLay) (ρ : RSt) : Array Value := #[.int .i64 ((64 * ρ.n : Nat) : Int), .slice (some ⟨M.lb, 0, none⟩) ρ.n M.lc, .int .i64 (ρ.ops : Int), M.av, .int .i64 (ρ.cnt : Int), .bool ρ.gone]
structure RefL (w : World) (b : Nat) (M : RLay) (ρ : RSt) : Prop where
  dev : w.heap[b]? = some (.cells (refC M ρ) 67 (0, 0))
  row : ∃ cur, w.heap[M.lb]? = some (.cells cur 70 (0, 0)) ∧ ∀ i, i < ρ.n → cur[i * 2]? = some (.slice (some ⟨M.ab i, M.ao i, none⟩) (ρ.con i).length (M.ac i)) ∧ cur[i * 2 + 1]? = some (.int .i64 (ρ.mark i))
  all : ∀ i j c, i < ρ.n → (ρ.con i)[j]? = some c → w.cell? ⟨M.ab i, M.ao i + j, none⟩ = some (.slice (some ⟨M.cb i j, 0, none⟩) 64 64) ∧ OwnB w (M.cb i j) c
  ty : ∀ i, i < ρ.n → ∃ cur, w.heap[M.ab i]? = some (.cells cur 22 (0, 0))
/-- Its blocks. -/
def RFoot (b : Nat) (M : RLay) (ρ : RSt) (k : Nat) : Prop := k = b ∨ k = M.lb ∨ (∃ i, i < ρ.n ∧ k = M.ab i) ∨ ∃ i j, i < ρ.n ∧ j < (ρ.con i).length ∧ k = M.cb i j
section
variable {w w' : World} {b : Nat} {M : RLay} {ρ : RSt}
theorem RefL.keep (h : RefL w b M ρ) (hk : ∀ k, RFoot b M ρ k → w'.heap[k]? = w.heap[k]?) : RefL w' b M ρ where
  dev := (hk b (.inl rfl)).trans h.dev
  row := by
    obtain ⟨cur, h1, h2⟩ := h.row
    exact ⟨cur, (hk _ (.inr (.inl rfl))).trans h1, h2⟩
  all := fun i j c hi hc => by
    obtain ⟨h1, h2⟩ := h.all i j c hi hc
    exact ⟨(World.cell?_of_block (hk _ (.inr (.inr (.inl ⟨i, hi, rfl⟩))))).trans h1, h2.of_block (hk _ (.inr (.inr (.inr ⟨i, j, hi, (List.getElem?_eq_some_iff.1 hc).1, rfl⟩))))⟩
  ty := fun i hi => by
    obtain ⟨cur, h1⟩ := h.ty i hi
    exact ⟨cur, (hk _ (.inr (.inr (.inl ⟨i, hi, rfl⟩)))).trans h1⟩
theorem RefL.lt (h : RefL w b M ρ) {k : Nat} (hk : RFoot b M ρ k) : k < w.heap.size := by
  rcases hk with rfl | rfl | ⟨i, hi, rfl⟩ | ⟨i, j, hi, hj, rfl⟩
  · exact lt_of_heap h.dev
  · obtain ⟨cur, h1, _⟩ := h.row
    exact lt_of_heap h1
  · obtain ⟨cur, h1⟩ := h.ty i hi
    exact lt_of_heap h1
  · exact (h.all i j _ hi (List.getElem?_eq_getElem hj)).2.lt
theorem RefL.below (h : RefL w b M ρ) (hB : Below w.heap.size w w') : RefL w' b M ρ := h.keep fun k hk => hB.block k (h.lt hk)
theorem RefL.c (h : RefL w b M ρ) (j : Nat) : w.cell? ⟨b, j, none⟩ = (refC M ρ)[j]? := cell8 h.dev j
theorem RefL.line (h : RefL w b M ρ) {i : Nat} (hi : i < ρ.n) : w.cell? ⟨M.lb, i * 2, none⟩ = some (.slice (some ⟨M.ab i, M.ao i, none⟩) (ρ.con i).length (M.ac i)) := by
  obtain ⟨cur, h1, h2⟩ := h.row
  exact (cell8 h1 _).trans (h2 i hi).1
end
theorem index_rline (g i len cap : Nat) (hi : i < len) (w : World) : (Instr.indexAt 65 (.slice (some ⟨g, 0, none⟩) len cap) (.int .i64 (i : Int))).run Try.prog w = .ok (.pointer (some ⟨g, i * 2, none⟩)) w := by
  have h := index_at (t := 65) (e := 70) (sz := 2) Try.underlying65 (by kernel_rfl) g 0 i len cap hi w
  rwa [Nat.zero_add] at h
theorem index_rrow (g o i len cap : Nat) (hi : i < len) (w : World) : (Instr.indexAt 68 (.slice (some ⟨g, o, none⟩) len cap) (.int .i64 (i : Int))).run Try.prog w = .ok (.pointer (some ⟨g, o + i, none⟩)) w := by
  have h := index_at (t := 68) (e := 22) (sz := 1) Try.underlying68 (by kernel_rfl) g o i len cap hi w
  rwa [Nat.mul_one] at h
set_option maxRecDepth 100000 in
/-- A line, as it is seen. -/
theorem rseen_any {w : World} {b i q : Nat} {M : RLay} {ρ : RSt} {c : List Nat} (h : RefL w b M ρ) (hi : i < ρ.n) (hn : ρ.n ≤ 65536) (hq : q + 1 = (ρ.con i).length) (hq2 : q ≤ 1400000000000) (hc : (ρ.con i)[q]? = some c) :
    Calls Try.prog 35 #[.pointer (some ⟨b, 0, none⟩), .int .i64 (i : Int)] w fun e w' => e = .returned (.slice (some ⟨M.cb i q, 0, none⟩) 64 64) ∧ w' = w := by
  have c1 : w.cell? ⟨b, 1, none⟩ = some (.slice (some ⟨M.lb, 0, none⟩) ρ.n M.lc) := h.c 1
  have hl := h.line hi
  rw [← hq] at hl
  have l0 := fun X => index_rline M.lb i ρ.n M.lc hi X
  have l1 := fun X => index_rrow (M.ab i) (M.ao i) q (q + 1) (M.ac i) (by omega) X
  have hcell := (h.all i q c hi hc).1
  clear h hc hq
  go_enter Try.func35, Try.ntmps35
  go_wp2
  go_ret
  exact ⟨rfl, rfl⟩
/-- How many operations there were. -/
theorem rops_any {w : World} {b : Nat} {M : RLay} {ρ : RSt} (h : RefL w b M ρ) : Calls Try.prog 14 #[.pointer (some ⟨b, 0, none⟩)] w fun e w' => e = .returned (.int .i64 (ρ.ops : Int)) ∧ w' = w := by
  have c2 : w.cell? ⟨b, 2, none⟩ = some (.int .i64 (ρ.ops : Int)) := h.c 2
  clear h
  go_enter Try.func14, Try.ntmps14
  go_wp2
  go_ret
  exact ⟨rfl, rfl⟩
/-- As a device stands for it. -/
def rOf (σ : St) (mk : Nat → Int) : RSt := ⟨σ.n, fun i => σ.past i ++ [σ.line i], mk, σ.ops, σ.cnt, σ.off⟩
theorem rOf_ok {σ : St} (h : σ.Ok) (mk : Nat → Int) : (rOf σ mk).Ok where
  pos := h.pos
  max := h.max
  ne := fun i hi => by simp [rOf]
  few := fun i hi => by
    have := h.few i
    have := h.opsm
    simp [rOf]
    omega
  len := fun i c hi hc => by
    rcases List.mem_append.1 hc with h1 | h1
    · exact h.clen i c h1
    · rw [List.mem_singleton.1 h1]; exact line_len h hi
  byte := fun i c hi hc => by
    rcases List.mem_append.1 hc with h1 | h1
    · exact h.cbyte i c h1
    · rw [List.mem_singleton.1 h1]; exact fun x hx => h.byte x (line_mem hx)
theorem rseen_of {w : World} {b i : Nat} {M : RLay} {σ : St} {mk : Nat → Int} (h : RefL w b M (rOf σ mk)) (hok : σ.Ok) (hi : i < σ.n) :
    Calls Try.prog 35 #[.pointer (some ⟨b, 0, none⟩), .int .i64 (i : Int)] w fun e w' => e = .returned (.slice (some ⟨M.cb i (σ.past i).length, 0, none⟩) 64 64) ∧ w' = w := by
  have h1 := hok.few i
  have h2 := hok.opsm
  exact rseen_any (c := σ.line i) h hi hok.max (by simp [rOf]) (by omega) (by simp [rOf])
theorem rlast_of {w : World} {b i : Nat} {M : RLay} {σ : St} {mk : Nat → Int} (h : RefL w b M (rOf σ mk)) (hi : i < σ.n) : OwnB w (M.cb i (σ.past i).length) (σ.line i) := (h.all i (σ.past i).length (σ.line i) hi (by simp [rOf])).2
end Go.Proofs.Ytmlhibkofalamaa
namespace Go.Proofs.Ytmlhibkofalamaa
open Go.RowKit Go.Shelf
set_option linter.unusedVariables false

theorem infoB8 : ∃ i, Try.prog.info? 5 = some i ∧ i.zero = some (.int .u8 0) ∧ i.size = 1 ∧ i.bytes = 1 := by
  have h : (Try.prog.info? 5).map (fun i => (i.zero, i.size, i.bytes)) = some (some (.int .u8 0), 1, 1) := by kernel_rfl
  obtain ⟨i, h1, h2⟩ := Option.map_eq_some_iff.1 h
  simp only [Prod.mk.injEq] at h2
  exact ⟨i, h1, h2.1, h2.2.1, h2.2.2⟩
theorem index_b8 (g i len cap : Nat) (hi : i < len) (w : World) : (Instr.indexAt 22 (.slice (some ⟨g, 0, none⟩) len cap) (.int .i64 (i : Int))).run Try.prog w = .ok (.pointer (some ⟨g, i, none⟩)) w := by
  have h := index_at (t := 22) (e := 5) (sz := 1) Try.underlying22 (by kernel_rfl) g 0 i len cap hi w
  rwa [Nat.mul_one, Nat.zero_add] at h
/-- May so many bytes lie there? -/
theorem rinside_any {w : World} {b : Nat} {M : RLay} {ρ : RSt} (h : RefL w b M ρ) (hn : ρ.n ≤ 65536) (at_ n : Nat) (hl : at_ + n ≤ 64 * ρ.n) : Calls Try.prog 51 #[.pointer (some ⟨b, 0, none⟩), .int .i64 (at_ : Int), .int .i64 (n : Int)] w fun e w' => e = .returned (.bool true) ∧ w' = w := by
  have c0 : w.cell? ⟨b, 0, none⟩ = some (.int .i64 ((64 * ρ.n : Nat) : Int)) := h.c 0
  obtain ⟨N, hN⟩ : ∃ N, N = 64 * ρ.n := ⟨_, rfl⟩
  rw [← hN] at c0 hl
  have hN2 : N ≤ 4194304 := by omega
  have i1 : (at_ : Int) ≤ (N : Int) := by omega
  have i2 : (n : Int) ≤ (N : Int) - (at_ : Int) := by omega
  have i3 : ¬ (at_ : Int) < 0 := by omega
  have i4 : ¬ (n : Int) < 0 := by omega
  clear h hN hl
  go_enter Try.func51, Try.ntmps51
  go_wp2
  go_ret
  exact ⟨rfl, rfl⟩
section
variable {w : World} {b : Nat} {M : RLay} {σ : St} {mk : Nat → Int}
set_option maxRecDepth 100000 in
set_option maxHeartbeats 1000000 in
theorem rload_any (at_ n : Nat) (h : RefL w b M (rOf σ mk)) (hok : σ.Ok) (ho : σ.off = false) (hl : at_ + n ≤ 64 * σ.n) :
    Calls Try.prog 30 #[.pointer (some ⟨b, 0, none⟩), .int .i64 (at_ : Int), .int .i64 (n : Int)] w fun e w' => ∃ v, e = .returned (.tuple #[v, .int .i64 0]) ∧ w'.ownsRow w.heap.size 5 1 v n (((σ.bytes.drop at_).take n).map B8) ∧ Below w.heap.size w w' := by
  obtain ⟨i0, hi0, hz0, hz1, hz2⟩ := infoB8
  have c5 : w.cell? ⟨b, 5, none⟩ = some (.bool false) := by rw [← ho]; exact h.c 5
  have hmx := hok.max
  have KI := hide (rinside_any h hok.max at_ n hl)
  have HR := hide h
  have HOK := hide hok
  have HL := hide hl
  have hle : at_ + n ≤ 4194304 := by omega
  clear h hok ho hl
  go_enter Try.func30, Try.ntmps30
  go_wp2_with (go_at_call 51; refine (KI.out).mono ?_; rintro e w' ⟨rfl, hw⟩; obtain rfl := hw.symm)
  go_loopw [8, 9] (fun ov iv wr => ∃ j : Nat, iv = .int .i64 ((at_ + j : Nat) : Int) ∧ j ≤ n ∧ wr.ownsRow w.heap.size 5 1 ov j (((σ.bytes.drop at_).take j).map B8) ∧ Below w.heap.size w wr) (fun _ iv _ => (at_ + n - (intOf iv).toNat))
  case atStart => exact ⟨0, rfl, Nat.zero_le _, ⟨rfl, .inl ⟨rfl, rfl⟩⟩, Below.refl _ _⟩
  case round =>
    obtain ⟨j, rfl, hj, hown, hB⟩ := hrel
    by_cases hlt : j < n
    · obtain ⟨p, hp⟩ : ∃ p, p = at_ + j := ⟨_, rfl⟩
      have hpl : p < 64 * σ.n := by have := HL.out; omega
      obtain ⟨i, hi⟩ : ∃ i, i = p / 64 := ⟨_, rfl⟩
      obtain ⟨k, hk⟩ : ∃ k, k = p % 64 := ⟨_, rfl⟩
      have hin : i < σ.n := by omega
      have hk64 : k < 64 := by omega
      have htd : (p : Int).tdiv 64 = (i : Int) := by rw [Int.tdiv_eq_ediv_of_nonneg (by omega)]; omega
      have htm : (p : Int).tmod 64 = (k : Int) := by rw [Int.tmod_eq_emod_of_nonneg (by omega)]; omega
      have pI : (p : Int) < (at_ : Int) + (n : Int) := by omega
      have hrw := HR.out.below hB
      have KS := hide (rseen_of hrw HOK.out hin)
      have hlast := rlast_of hrw hin
      obtain ⟨x, hx⟩ : ∃ x, σ.bytes[p]? = some x := ⟨_, List.getElem?_eq_getElem (by rw [HOK.out.len]; exact hpl)⟩
      have hcx : wr.cell? ⟨M.cb i (σ.past i).length, k, none⟩ = some (.int .u8 (x : Int)) := hlast.cell k x (by unfold St.line; rw [List.getElem?_take, if_pos hk64, List.getElem?_drop, show 64 * i + k = p by omega]; exact hx)
      have hnext : ((σ.bytes.drop at_).take (j + 1)).map B8 = ((σ.bytes.drop at_).take j).map B8 ++ [.int .u8 (x : Int)] := by
        rw [List.take_add_one, List.getElem?_drop, ← hp, hx]
        simp [B8]
      have l0 := fun X => index_b8 (M.cb i (σ.past i).length) k 64 64 hk64 X
      rw [← hp]
      have pI2 : (p : Int) ≤ 4194304 := by omega
      have iI : (i : Int) ≤ 65536 := by omega
      have kI : (k : Int) < 64 := by omega
      have hps : p + 1 = at_ + (j + 1) := by omega
      have HPS := hide hps
      have HOW := hide hown
      have HB := hide hB
      have HNX := hide hnext
      have hsz := hB.size
      clear hp hpl hi hk hown hB hrw hlast hx hnext hps hin
      generalize M.cb i (σ.past i).length = gc at *
      go_wp2_with (first
        | (go_at_call 35; refine (KS.out).mono ?_; rintro e w' ⟨rfl, hw⟩; obtain rfl := hw.symm)
        | (at_builtin; refine wpList_append_own _ rfl _ _ 22 rfl w.heap.size 5 i0 (.int .u8 0) 1 1 Try.underlying22 hi0 hz0 hz1 hz2 rfl (by omega) _ _ _ rfl (HOW.out.alloc _) ⟨wr.heap.size, 0, none⟩ 1 1 [.int .u8 (x : Int)] rfl rfl (cell_one_new _ _ _) (by simp [Value.oneCell']) (by unfold maxLen; omega) (by omega) (by simp; omega) ?_; intro v3 w3 hown3 hgrow3 hnil3; clear hnil3))
      have HO3 := hide hown3
      have HB3 : Hid (Below w.heap.size w w3) := (HB.out.alloc (by omega) _).grown hgrow3 (by simp; omega) (fun j e => (HOW.out.lt j e).1)
      clear hown3 hgrow3
      go_wp2
      go_roundw
      case rel => exact ⟨j + 1, int_congrP (by have := HPS.out; omega), by omega, by rw [HNX.out]; exact HO3.out, HB3.out⟩
      case measure => simp [intOf]; omega
    · have hjn : j = n := by omega
      subst hjn
      have jI : ¬ ((at_ + j : Nat) : Int) < (at_ : Int) + (j : Int) := by omega
      have HOW := hide hown
      have HB := hide hB
      clear hown hB
      go_wp2
      go_ret2
      exact ⟨u8, rfl, by rw [← List.map_drop, ← List.map_take]; exact HOW.out, HB.out⟩
theorem rload_off (at_ n : Int) (h : RefL w b M (rOf σ mk)) (ho : σ.off = true) : Calls Try.prog 30 #[.pointer (some ⟨b, 0, none⟩), .int .i64 at_, .int .i64 n] w fun e w' => e = .returned (.tuple #[.slice none 0 0, .int .i64 5]) ∧ w' = w := by
  have c5 : w.cell? ⟨b, 5, none⟩ = some (.bool true) := by rw [← ho]; exact h.c 5
  clear h ho
  go_enter Try.func30, Try.ntmps30
  go_wp2
  go_ret2
  exact ⟨rfl, rfl⟩
set_option maxRecDepth 100000 in
set_option maxHeartbeats 1000000 in
theorem rimg_any (h : RefL w b M (rOf σ mk)) (hok : σ.Ok) :
    Calls Try.prog 17 #[.pointer (some ⟨b, 0, none⟩)] w fun e w' => ∃ v, e = .returned v ∧ w'.ownsRow w.heap.size 5 1 v (64 * σ.n) (σ.bytes.map B8) ∧ Below w.heap.size w w' := by
  obtain ⟨i0, hi0, hz0, hz1, hz2⟩ := infoB8
  have hmx := hok.max
  have hlen := hok.len
  have HR := hide h
  have HOK := hide hok
  have HLN := hide hlen
  clear h hok hlen
  go_enter Try.func17, Try.ntmps17
  go_wp2
  go_loopw [3, 4] (fun ov iv wr => ∃ j : Nat, iv = .int .i64 (j : Int) ∧ j ≤ σ.n ∧ wr.ownsRow w.heap.size 5 1 ov (64 * j) ((σ.bytes.take (64 * j)).map B8) ∧ Below w.heap.size w wr) (fun _ iv _ => (σ.n - (intOf iv).toNat))
  case atStart => exact ⟨0, rfl, Nat.zero_le _, ⟨rfl, .inl ⟨rfl, rfl⟩⟩, Below.refl _ _⟩
  case round =>
    obtain ⟨j, rfl, hj, hown, hB⟩ := hrel
    have hrw := HR.out.below hB
    have c1 : wr.cell? ⟨b, 1, none⟩ = some (.slice (some ⟨M.lb, 0, none⟩) σ.n M.lc) := hrw.c 1
    by_cases hlt : j < σ.n
    · have jI : (j : Int) < (σ.n : Int) := by omega
      have KS := hide (rseen_of hrw HOK.out hlt)
      have hlast := rlast_of hrw hlt
      have hll := line_len HOK.out hlt
      have hnext : (σ.bytes.take (64 * (j + 1))).map B8 = (σ.bytes.take (64 * j)).map B8 ++ (σ.line j).map B8 := by
        rw [← List.map_append]
        congr 1
        unfold St.line
        rw [show 64 * (j + 1) = 64 * j + 64 by omega, List.take_add]
      have hcell : ∀ q u, ((σ.line j).map B8)[q]? = some u → wr.cell? ((⟨M.cb j (σ.past j).length, 0, none⟩ : Addr).add q) = some u := fun q u hu => by
        rw [Addr.add_mid, Nat.zero_add]
        exact (cell8 hlast q).trans (by rw [List.getElem?_toArray]; exact hu)
      have h1 := B8_cell (σ.line j)
      have hl64 : ((σ.line j).map B8).length = 64 * 1 := by rw [List.length_map, hll]
      have HC := hide hcell
      have HOW := hide hown
      have HB := hide hB
      have HNX := hide hnext
      have HL64 := hide hl64
      have hsz := hB.size
      clear hown hB hrw hlast hnext hcell hll hl64
      generalize M.cb j (σ.past j).length = gc at *
      go_wp2_with (first
        | (go_at_call 35; refine (KS.out).mono ?_; rintro e w' ⟨rfl, hw⟩; obtain rfl := hw.symm)
        | (at_builtin; refine wpList_append_own _ rfl _ _ 22 rfl w.heap.size 5 i0 (.int .u8 0) 1 1 Try.underlying22 hi0 hz0 hz1 hz2 rfl (by omega) _ _ _ rfl HOW.out ⟨gc, 0, none⟩ 64 64 ((σ.line j).map B8) rfl HL64.out HC.out h1 (by unfold maxLen; omega) (by omega) hsz ?_; intro v3 w3 hown3 hgrow3 hnil3; clear hnil3))
      have HO3 := hide hown3
      have HB3 : Hid (Below w.heap.size w w3) := HB.out.grown hgrow3 hsz (fun j e => (HOW.out.lt j e).1)
      clear hown3 hgrow3
      go_wp2
      go_roundw
      case rel => exact ⟨j + 1, int_congrP (by omega), by omega, by rw [HNX.out, show 64 * (j + 1) = 64 * j + 64 by omega]; exact HO3.out, HB3.out⟩
      case measure => simp [intOf]; omega
    · have hjn : j = σ.n := by omega
      have jI : ¬ (j : Int) < (σ.n : Int) := by omega
      have e : σ.bytes.take (64 * j) = σ.bytes := List.take_of_length_le (by rw [HLN.out, hjn]; exact Nat.le_refl _)
      rw [e, hjn] at hown
      have HOW := hide hown
      have HB := hide hB
      clear hown hB e hjn hrw
      go_wp2
      go_ret
      exact ⟨u3, rfl, HOW.out, HB.out⟩
end
end Go.Proofs.Ytmlhibkofalamaa
namespace Go.Proofs.Ytmlhibkofalamaa
open Go.RowKit
set_option linter.unusedVariables false

theorem Try.info22 : (Try.prog.info? 22).map (fun i => (i.zero, i.size, i.bytes)) = some (some (.slice none 0 0), 1, 24) := by kernel_rfl

theorem ownsRow_below {W W' : World} {base : Nat} {e : TypeId} {size : Nat} {v : Value} {k : Nat} {xs : List Value} (h : W.ownsRow base e size v k xs) (hb : Below W.heap.size W W') : W'.ownsRow base e size v k xs := by
  refine ⟨h.1, ?_⟩
  rcases h.2 with h2 | ⟨g, cap, cur, hv, hg, hh, r⟩
  · exact .inl h2
  · exact .inr ⟨g, cap, cur, hv, hg, (hb.block g (Array.getElem?_eq_some_iff.1 hh).1).trans hh, r⟩

/-- Bytes that lie ahead of the call's own memory, or in a block of bytes. -/
def Piece (W : World) (base : Nat) (a : Option Addr) (bs : List Nat) : Prop :=
  bs = [] ∨ ∃ b off, a = some ⟨b, off, none⟩ ∧ b < W.heap.size ∧ (b < base ∨ ∃ cur fr, W.heap[b]? = some (.cells cur 5 fr)) ∧ Seg W b off bs

theorem Piece.sl {W : World} {base : Nat} {a : Option Addr} {bs : List Nat} (h : Piece W base a bs) : Sl W a bs := by
  rcases h with h | ⟨b, off, ha, hl, _, hs⟩
  · exact .inl h
  · exact .inr ⟨b, off, ha, hl, hs⟩
theorem Piece.of_block {W W' : World} {base : Nat} {a : Option Addr} {bs : List Nat} (h : Piece W base a bs) (hs : W.heap.size ≤ W'.heap.size) (hk : ∀ b, b < W.heap.size → (b < base ∨ ∃ cur fr, W.heap[b]? = some (.cells cur 5 fr)) → W'.heap[b]? = W.heap[b]?) : Piece W' base a bs := by
  rcases h with h | ⟨b, off, ha, hl, ht, hg⟩
  · exact .inl h
  · have e := hk b hl ht
    refine .inr ⟨b, off, ha, Nat.lt_of_lt_of_le hl hs, ?_, fun i x hx => ⟨(World.cell?_of_block (w := W) (a := ⟨b, off + i, none⟩) e).trans (hg i x hx).1, (hg i x hx).2⟩⟩
    rcases ht with ht | ⟨cur, fr, ht⟩
    · exact .inl ht
    · exact .inr ⟨cur, fr, e.trans ht⟩
theorem Piece.below {W W' : World} {base : Nat} {a : Option Addr} {bs : List Nat} (h : Piece W base a bs) (hb : Below W.heap.size W W') : Piece W' base a bs :=
  h.of_block hb.size fun b hl _ => hb.block b hl
theorem Piece.grown {W W' : World} {base : Nat} {a : Option Addr} {bs : List Nat} {v : Value} {k : Nat} {xs : List Value} (h : Piece W base a bs) (hown : W.ownsRow base 22 1 v k xs) (hg : W.grownBy W' v.ownBlock) : Piece W' base a bs := by
  refine h.of_block hg.size fun b hl ht => hg.block b hl fun e => ?_
  rcases hown.2 with ⟨rfl, _⟩ | ⟨g, cap, cur, rfl, hb, hh, _⟩
  · simp [Value.ownBlock] at e
  · obtain rfl : b = g := by simpa [Value.ownBlock] using e
    rcases ht with ht | ⟨c2, fr, ht⟩
    · omega
    · rw [hh] at ht; simp at ht
theorem OwnB.piece {W : World} {g : Nat} {bs : List Nat} (h : OwnB W g bs) (base : Nat) (hx : ∀ x ∈ bs, x < 256) : Piece W base (some ⟨g, 0, none⟩) bs :=
  .inr ⟨g, 0, rfl, h.lt, .inr ⟨_, _, h⟩, fun i x hi => ⟨by rw [Nat.zero_add]; exact h.cell i x hi, hx x (List.mem_of_getElem? hi)⟩⟩

/-- Cells that hold slices of these bytes. -/
def Ties (W : World) (base : Nat) (cs : List Value) (rs : List (List Nat)) : Prop :=
  cs.length = rs.length ∧ ∀ (i : Nat) (r : List Nat), rs[i]? = some r → ∃ ai ci, cs[i]? = some (.slice ai r.length ci) ∧ Piece W base ai r ∧ r.length ≤ maxLen

theorem Ties.nil (W : World) (base : Nat) : Ties W base [] [] := ⟨rfl, fun i r h => by simp at h⟩
theorem Ties.below {W W' : World} {base : Nat} {cs : List Value} {rs : List (List Nat)} (h : Ties W base cs rs) (hb : Below W.heap.size W W') : Ties W' base cs rs :=
  ⟨h.1, fun i r hr => by obtain ⟨ai, ci, h1, h2, h3⟩ := h.2 i r hr; exact ⟨ai, ci, h1, h2.below hb, h3⟩⟩
theorem Ties.grown {W W' : World} {base : Nat} {cs : List Value} {rs : List (List Nat)} {v : Value} {k : Nat} {xs : List Value} (h : Ties W base cs rs) (hown : W.ownsRow base 22 1 v k xs) (hg : W.grownBy W' v.ownBlock) : Ties W' base cs rs :=
  ⟨h.1, fun i r hr => by obtain ⟨ai, ci, h1, h2, h3⟩ := h.2 i r hr; exact ⟨ai, ci, h1, h2.grown hown hg, h3⟩⟩
theorem Ties.snoc {W : World} {base : Nat} {cs : List Value} {rs : List (List Nat)} (h : Ties W base cs rs) {a : Option Addr} {r : List Nat} (c : Nat) (hp : Piece W base a r) (hl : r.length ≤ maxLen) : Ties W base (cs ++ [.slice a r.length c]) (rs ++ [r]) := by
  refine ⟨by simp [h.1], fun i r' hr => ?_⟩
  by_cases hi : i < rs.length
  · rw [List.getElem?_append_left hi] at hr
    rw [List.getElem?_append_left (by rw [h.1]; exact hi)]
    exact h.2 i r' hr
  · rw [List.getElem?_append_right (by omega)] at hr
    rw [List.getElem?_append_right (by rw [h.1]; omega), h.1]
    have h0 : i - rs.length = 0 := by
      have := (List.getElem?_eq_some_iff.1 hr).1
      simp at this
      omega
    rw [h0] at hr ⊢
    simp at hr
    subst hr
    exact ⟨a, c, by simp, hp, hl⟩
theorem slr_of_owns {W : World} {base : Nat} {v : Value} {cs : List Value} {rs : List (List Nat)} (h : W.ownsRow base 22 1 v cs.length cs) (ht : Ties W base cs rs) : ∃ a cap, v = .slice a rs.length cap ∧ SlR W a rs := by
  rcases h.2 with ⟨rfl, h0⟩ | ⟨g, cap, cur, rfl, _, hg, hn, _, hs, hc⟩
  · rw [ht.1] at h0
    exact ⟨none, 0, by rw [h0], .inl (List.eq_nil_of_length_eq_zero h0)⟩
  · refine ⟨_, cap, by rw [ht.1], .inr ⟨g, 0, rfl, (Array.getElem?_eq_some_iff.1 hg).1, fun i r hr => ?_⟩⟩
    obtain ⟨ai, ci, h1, h2, h3⟩ := ht.2 i r hr
    refine ⟨ai, ci, ?_, h2.sl, h3⟩
    have hi : i < cs.length := (List.getElem?_eq_some_iff.1 h1).1
    rw [← hc, List.getElem?_take, if_pos (by omega)] at h1
    simp only [Nat.zero_add, World.cell?, hg]
    simpa using h1

end Go.Proofs.Ytmlhibkofalamaa
namespace Go.Proofs.Ytmlhibkofalamaa
open Go.RowKit
set_option linter.unusedVariables false

theorem flat_at {rs : List (List Nat)} {i : Nat} {r : List Nat} (h : rs[i]? = some r) : (rs.take i).flatten.length + r.length ≤ rs.flatten.length := by
  have e := List.take_append_drop (i + 1) rs
  have l := congrArg (fun l => l.flatten.length) e
  simp only [List.flatten_append, List.length_append, List.take_add_one, h, Option.toList_some, List.flatten_cons, List.flatten_nil, List.append_nil] at l
  omega
theorem flat_next {rs : List (List Nat)} {i : Nat} {r : List Nat} (h : rs[i]? = some r) : (rs.take (i + 1)).flatten = (rs.take i).flatten ++ r := by
  simp [List.take_add_one, h]

set_option maxHeartbeats 1000000 in
theorem join_any (a : Option Addr) (cap : Nat) (rs : List (List Nat)) (w : World) (hg : SlR w a rs) (hn : rs.length ≤ 1000000000000) (hl : rs.flatten.length ≤ 140737488355328) :
    Calls Try.prog 55 #[.slice a rs.length cap] w fun e w' => ∃ v, e = .returned v ∧ w'.ownsRow w.heap.size 5 1 v rs.flatten.length (rs.flatten.map B8) ∧ Below w.heap.size w w' := by
  obtain ⟨i0, hi, hz0, hz1, hz2⟩ := info_parts Try.info5
  go_enter Try.func55, Try.ntmps55
  go_wp2
  go_loopw [3, 4] (fun v i wr => ∃ (k : Nat), k ≤ rs.length ∧ i = .int .i64 k ∧ wr.ownsRow w.heap.size 5 1 v (rs.take k).flatten.length ((rs.take k).flatten.map B8) ∧ Below w.heap.size w wr)
    (fun _ i _ => rs.length - (intOf i).toNat)
  case atStart => exact ⟨0, by omega, rfl, World.ownsRow_nil _ _ _ _, Below.refl _ _⟩
  case round =>
    obtain ⟨k, hk, rfl, hown, hB⟩ := hrel
    have HO := hide hown
    have HB := hide hB
    clear hown hB
    by_cases hlt : k < rs.length
    · obtain ⟨r, hrk⟩ : ∃ r, rs[k]? = some r := ⟨_, List.getElem?_eq_getElem hlt⟩
      obtain ⟨b, off, rfl, hbl, hseg⟩ : ∃ b off, a = some ⟨b, off, none⟩ ∧ b < w.heap.size ∧ ∀ (i : Nat) (r : List Nat), rs[i]? = some r → ∃ ai cap, w.cell? ⟨b, off + i, none⟩ = some (.slice ai r.length cap) ∧ Sl w ai r ∧ r.length ≤ maxLen := by
        rcases hg with rfl | h
        · simp at hlt
        · exact h
      obtain ⟨ai, ci, hc0, hsl, hm⟩ := hseg k r hrk
      have hfl := flat_at hrk
      have HF : Hid ((rs.take k).flatten.length + r.length ≤ 140737488355328) := Nat.le_trans hfl hl
      have hrl : r.length ≤ 140737488355328 := by omega
      have HX := hide hrk
      have HS := hide hsl
      have HC := hide hc0
      have HG := hide hg
      clear hrk hc0 hsl hm hseg hg hfl
      have hki : (k : Int) < (rs.length : Int) := by omega
      go_wp2
      generalize hPe : (rs.take k).flatten = P at HO HF
      have HP := hide hPe
      clear hPe
      go_loopw [3, 5] (fun v i wq => ∃ (j : Nat), j ≤ r.length ∧ i = .int .i64 j ∧ wq.ownsRow w.heap.size 5 1 v (P ++ r.take j).length ((P ++ r.take j).map B8) ∧ Below w.heap.size w wq)
        (fun _ i _ => r.length - (intOf i).toNat)
      case atStart => exact ⟨0, by omega, rfl, by simpa using HO.out, HB.out⟩
      case round =>
        obtain ⟨j, hj, rfl, hown, hB⟩ := hrel
        have HO2 := hide hown
        have HB2 := hide hB
        have hsz := hB.size
        have hc : wr.cell? ⟨b, off + k, none⟩ = some (.slice ai r.length ci) := (hB.cell (p := ⟨b, off + k, none⟩) hbl).trans HC.out
        clear hown hB
        by_cases hjl : j < r.length
        · obtain ⟨x, hx⟩ : ∃ x, r[j]? = some x := ⟨_, List.getElem?_eq_getElem hjl⟩
          obtain ⟨b2, o2, rfl, hb2, hs2⟩ : ∃ b off, ai = some ⟨b, off, none⟩ ∧ b < w.heap.size ∧ Seg w b off r := by
            rcases HS.out with rfl | h
            · simp at hjl
            · exact h
          have hcx : wr.cell? ⟨b2, o2 + j, none⟩ = some (.int .u8 (x : Int)) := (HB2.out.cell (p := ⟨b2, o2 + j, none⟩) hb2).trans (hs2 j x hx).1
          have hji : (j : Int) < (r.length : Int) := by omega
          have HXX := hide hx
          clear hx hs2
          have HPL : Hid ((P ++ r.take j).length + 1 ≤ 140737488355328) := show _ ≤ _ by have := HF.out; simp; omega
          go_wp2_with (at_builtin; refine wpList_append_own _ rfl _ _ 22 rfl w.heap.size 5 i0 (.int .u8 0) 1 1 Try.underlying22 hi hz0 hz1 hz2 rfl (by omega) _ _ _ rfl (HO2.out.alloc _) ⟨wr.heap.size, 0, none⟩ 1 1 [.int .u8 (x : Int)] rfl rfl (cell_one_new _ _ _) (by simp [Value.oneCell']) (by have := HPL.out; unfold maxLen; omega) (by have := HPL.out; omega) (by simp; omega) ?_; intro v3 w3 hown3 hgrow3 _)
          have HO3 := hide hown3
          have HB3 : Hid (Below w.heap.size w w3) := (HB2.out.alloc (by omega) _).grown hgrow3 (by simp; omega) (fun j e => (HO2.out.lt j e).1)
          clear hown3 hgrow3
          go_wp2
          go_roundw
          case rel =>
            refine ⟨j + 1, by omega, by go_num, ?_, HB3.out⟩
            have h := HO3.out
            rw [List.take_add_one, HXX.out]
            simpa [B8, Nat.add_assoc] using h
          case measure => simp [intOf]; omega
        · have hjj : j = r.length := by omega
          have HJ := hide hjj
          have hji : (r.length : Int) ≤ (j : Int) := by omega
          clear hjj
          go_wp2
          go_roundw
          case rel =>
            refine ⟨k + 1, by omega, by go_num, ?_, HB2.out⟩
            have h := HO2.out
            rw [HJ.out, List.take_length] at h
            rw [flat_next HX.out, HP.out]
            exact h
          case measure => simp [intOf]; omega
    · have hkk : k = rs.length := by omega
      have HK := hide hkk
      have hki : (rs.length : Int) ≤ (k : Int) := by omega
      clear hg hkk
      go_wp2
      go_ret
      have h := HO.out
      rw [HK.out, List.take_length] at h
      exact ⟨_, rfl, h, HB.out⟩


end Go.Proofs.Ytmlhibkofalamaa
namespace Go.Proofs.Ytmlhibkofalamaa
open Go.RowKit
set_option linter.unusedVariables false

theorem ret_int' {k : IntKind} {a b : Int} (h : a = b) : Ending.returned (.int k a) = .returned (.int k b) := by rw [h]

/-- The number of so many bytes at a place, and the error's number. -/
def takeV (bs : List Nat) (p : Int) (n : Nat) : Nat × Int :=
  if p < 0 ∨ (bs.length : Int) - n < p then (0, 6) else (leV ((bs.drop p.toNat).take n), 0)
theorem takeV_lt (bs : List Nat) (p : Int) (n : Nat) (h : ∀ x ∈ bs, x < 256) : (takeV bs p n).1 < 256 ^ n := by
  unfold takeV
  split
  · exact Nat.pow_pos (by omega)
  · refine Nat.lt_of_lt_of_le (leV_lt _ fun x hx => h x (List.mem_of_mem_drop (List.mem_of_mem_take hx))) (Nat.pow_le_pow_right (by omega) (List.length_take_le _ _))
theorem leB_mod (n v : Nat) : leB n (v % 256 ^ n) = leB n v := by
  induction n generalizing v with
  | zero => rfl
  | succ n ih =>
    simp only [leB]
    have e1 : v % 256 ^ (n + 1) % 256 = v % 256 := Nat.mod_mod_of_dvd v ⟨256 ^ n, by rw [Nat.pow_succ, Nat.mul_comm]⟩
    have e2 : v % 256 ^ (n + 1) / 256 = v / 256 % 256 ^ n := by rw [Nat.pow_succ, Nat.mul_comm, Nat.mod_mul_right_div_self]
    rw [e1, e2, ih]

theorem take64_any (a : Option Addr) (cap : Nat) (bs : List Nat) (p : Int) (w : World) (hg : Sl w a bs) (hl : bs.length ≤ maxLen) :
    Calls Try.prog 62 #[.slice a bs.length cap, .int .i64 p] w fun e w' => e = .returned (.tuple #[.int .u64 (takeV bs p 8).1, .int .i64 (takeV bs p 8).2]) ∧ w' = w := by
  unfold takeV
  by_cases h1 : p < 0
  · rw [if_pos (.inl h1)]; exact take64_low a bs.length cap w p h1
  · by_cases h2 : (bs.length : Int) - 8 < p
    · rw [if_pos (.inr h2)]; exact take64_high a bs.length cap w p hl (by omega) h2
    · rw [if_neg (by intro h; rcases h with h | h; exact h1 h; exact h2 h)]
      obtain ⟨q, rfl⟩ := Int.eq_ofNat_of_zero_le (show 0 ≤ p by omega)
      exact take64_good a cap q bs w hg hl (by omega)

end Go.Proofs.Ytmlhibkofalamaa
namespace Go.Proofs.Ytmlhibkofalamaa
open Go.RowKit
set_option linter.unusedVariables false

theorem shr_byte (v k : Nat) : (v : Int) / 2 ^ (8 * k) % 256 = ((v / 256 ^ k % 256 : Nat) : Int) := by
  have e : (2 : Int) ^ (8 * k) = ((256 ^ k : Nat) : Int) := by rw [Int.pow_mul, Int.natCast_pow]; rfl
  rw [e, ← Int.natCast_ediv]
  omega
theorem leB_take (n v k x : Nat) (h : k < n) (hx : x = v / 256 ^ k % 256) : (leB n v).take (k + 1) = (leB n v).take k ++ [x] := by
  rw [List.take_add_one, leB_get n v k h, hx]; rfl

set_option maxHeartbeats 400000 in
theorem little_any (v n : Nat) (w : World) (hv : v < 18446744073709551616) (hn : n ≤ 8) :
    Calls Try.prog 43 #[.int .u64 v, .int .i64 n] w fun e w' => ∃ u, e = .returned u ∧ w'.ownsRow w.heap.size 5 1 u n ((leB n v).map B8) ∧ Below w.heap.size w w' := by
  obtain ⟨i0, hi, hz0, hz1, hz2⟩ := info_parts Try.info5
  go_enter Try.func43, Try.ntmps43
  go_wp2
  go_loopw [5, 6] (fun u i wr => ∃ (k : Nat), k ≤ n ∧ i = .int .i64 k ∧ wr.ownsRow w.heap.size 5 1 u k (((leB n v).take k).map B8) ∧ Below w.heap.size w wr)
    (fun _ i _ => n - (intOf i).toNat)
  case atStart => exact ⟨0, by omega, rfl, World.ownsRow_nil _ _ _ _, Below.refl _ _⟩
  case round =>
    obtain ⟨k, hk, rfl, hown, hB⟩ := hrel
    have HO := hide hown
    have HB := hide hB
    have hsz := hB.size
    clear hown hB
    by_cases hlt : k < n
    · have hto : (8 * (k : Int)).toNat = 8 * k := by omega
      have hs := shr_byte v k
      generalize hxe : v / 256 ^ k % 256 = x at hs
      have HX := hide hxe
      clear hxe
      go_wp2_with (at_builtin; refine wpList_append_own _ rfl _ _ 22 rfl w.heap.size 5 i0 (.int .u8 0) 1 1 Try.underlying22 hi hz0 hz1 hz2 rfl (by omega) _ _ _ rfl (HO.out.alloc _) ⟨wr.heap.size, 0, none⟩ 1 1 [.int .u8 (x : Int)] rfl rfl (cell_one_new _ _ _) (by simp [Value.oneCell']) (by unfold maxLen; omega) (by omega) (by simp; omega) ?_; intro v3 w3 hown3 hgrow3 _)
      have HO3 := hide hown3
      have HB3 : Hid (Below w.heap.size w w3) := (HB.out.alloc (by omega) _).grown hgrow3 (by simp; omega) (fun j e => (HO.out.lt j e).1)
      clear hown3 hgrow3
      go_wp2
      go_roundw
      case rel =>
        refine ⟨k + 1, by omega, by go_num, ?_, HB3.out⟩
        rw [leB_take n v k x hlt HX.out.symm]
        simpa [B8] using HO3.out
      case measure => simp [intOf]; omega
    · have hkk : k = n := by omega
      subst hkk
      go_wp2
      go_ret
      have h := HO.out
      rw [List.take_of_length_le (by rw [leB_length]; omega)] at h
      exact ⟨_, rfl, h, HB.out⟩


theorem xor_half (a b : Nat) : (a ^^^ b) / 2 = a / 2 ^^^ b / 2 := Nat.xor_div_two
theorem xor_low (a b : Nat) : (a ^^^ b) % 2 = (a % 2 + b % 2) % 2 := by
  have e : (a ^^^ b) % 2 ^ 1 = a % 2 ^ 1 ^^^ b % 2 ^ 1 := Nat.xor_mod_two_pow
  rw [Nat.pow_one] at e
  rw [e]
  rcases Nat.mod_two_eq_zero_or_one a with h1 | h1 <;> rcases Nat.mod_two_eq_zero_or_one b with h2 | h2 <;> rw [h1, h2] <;> rfl
def refStep (r y : Nat) : Nat := if y % 2 = r % 2 then r / 2 else r / 2 ^^^ 2197175160
theorem refStep_eq (r y : Nat) : bitStep (r ^^^ y) = refStep r y ^^^ (y / 2) := by
  unfold bitStep refStep
  rw [xor_low, xor_half]
  by_cases h : y % 2 = r % 2
  · rw [if_neg (by omega), if_pos h]
  · rw [if_pos (by omega), if_neg h, Nat.xor_assoc, Nat.xor_comm (y / 2), ← Nat.xor_assoc]
theorem refStep_lt (r y : Nat) (h : r < 4294967296) : refStep r y < 4294967296 := by
  unfold refStep
  split
  · omega
  · exact xor_lt32 _ _ (by omega) (by omega)
theorem refSteps_next {z R x k : Nat} (h : bitSteps k z = R ^^^ x / 2 ^ k) : bitSteps (k + 1) z = refStep R (x / 2 ^ k) ^^^ x / 2 ^ (k + 1) := by
  show bitStep (bitSteps k z) = _
  rw [h, refStep_eq, Nat.pow_succ, Nat.div_div_eq_div_mul]
theorem refSteps_end {z R x : Nat} (hx : x < 256) (h : bitSteps 8 z = R ^^^ x / 2 ^ 8) : bitSteps 8 z = R := by
  rw [h, Nat.div_eq_of_lt (by omega), Nat.xor_zero]

theorem ref_inv (s : Nat) (h : s < 4294967296) : bits BinOp.xor IntKind.u64 (s : Int) 4294967295 = ((4294967295 ^^^ s : Nat) : Int) := by
  rw [Nat.xor_comm]; exact u64_xor_nat s 4294967295 (by omega) (by omega)
theorem ref_mix (r : Nat) (h : r < 4294967296) : bits BinOp.xor IntKind.u64 (r : Int) 2197175160 = ((r ^^^ 2197175160 : Nat) : Int) :=
  u64_xor_nat r 2197175160 (by omega) (by omega)
theorem ref_bit (x k : Nat) : (x : Int) / 2 ^ k = ((x / 2 ^ k : Nat) : Int) := by rw [Int.natCast_ediv, Int.natCast_pow]; rfl

set_option maxHeartbeats 400000 in
theorem refMore_any (s : Nat) (a : Option Addr) (cap : Nat) (bs : List Nat) (w : World) (hs : s < 4294967296) (hg : Sl w a bs) (hl : bs.length ≤ maxLen) :
    Calls Try.prog 56 #[.int .u32 s, .slice a bs.length cap] w fun e w' => e = .returned (.int .u32 (moreV s bs)) ∧ w' = w := by
  unfold maxLen at hl
  have hinv := ref_inv s hs
  have hi32 := xor_lt32 4294967295 s (by omega) hs
  go_enter Try.func56, Try.ntmps56
  go_wp2
  clear hinv
  go_loop [5, 6] (fun r i => ∃ k R : Nat, k ≤ bs.length ∧ R < 4294967296 ∧ i = .int .i64 k ∧ r = .int .u64 R ∧ R = runs (4294967295 ^^^ s) (bs.take k)) (fun _ i => bs.length - (intOf i).toNat)
  case atStart => exact ⟨0, 4294967295 ^^^ s, Nat.zero_le _, hi32, rfl, rfl, rfl⟩
  case round =>
    obtain ⟨k, R, hk, hR, rfl, rfl, hRk⟩ := hrel
    have HR : Hid (R = runs (4294967295 ^^^ s) (bs.take k)) := hRk
    clear hRk
    by_cases hlt : k < bs.length
    · obtain ⟨x, hx⟩ : ∃ x, bs[k]? = some x := ⟨_, List.getElem?_eq_getElem hlt⟩
      obtain ⟨b, off, rfl, _, hseg⟩ : ∃ b off, a = some ⟨b, off, none⟩ ∧ b < w.heap.size ∧ Seg w b off bs := by
        rcases hg with rfl | h
        · simp at hlt
        · exact h
      obtain ⟨hc, hx2⟩ := hseg k x hx
      have HX : Hid (bs[k]? = some x) := hx
      have hki : (k : Int) < (bs.length : Int) := by omega
      clear hx hg hseg
      go_wp2
      go_loop [5, 7] (fun r i => ∃ j Q : Nat, j ≤ 8 ∧ Q < 4294967296 ∧ i = .int .i64 j ∧ r = .int .u64 Q ∧ bitSteps j (R ^^^ x) = Q ^^^ x / 2 ^ j) (fun _ i => 8 - (intOf i).toNat)
      case atStart => exact ⟨0, R, by omega, hR, rfl, rfl, by simp [bitSteps]⟩
      case round =>
        obtain ⟨j, Q, hj, hQ, rfl, rfl, hQj⟩ := hrel
        have HQ := hide hQj
        clear hQj
        by_cases hj8 : j < 8
        · have hbit := ref_bit x j
          have hy : x / 2 ^ j < 256 := Nat.lt_of_le_of_lt (Nat.div_le_self _ _) hx2
          generalize hye : x / 2 ^ j = y at hbit hy
          have HY := hide hye
          clear hye
          by_cases hsame : y % 2 = Q % 2
          · have hq : (((y : Int) % 2) != ((Q : Int) % 2)) = false := by rw [bne_eq_false_iff_eq]; omega
            have HSM := hide hsame
            clear hsame
            go_wp2
            go_round
            case rel => exact ⟨j + 1, refStep Q y, by omega, refStep_lt _ _ hQ, by go_num, int_congr (by unfold refStep; rw [if_pos HSM.out]; omega), by rw [refSteps_next HQ.out, HY.out]⟩
            case measure => simp [intOf]; omega
          · have hq : (((y : Int) % 2) != ((Q : Int) % 2)) = true := by rw [bne_iff_ne]; omega
            have hmx := ref_mix (Q / 2) (by omega)
            have HSM := hide hsame
            clear hsame
            go_wp2
            go_round
            case rel => exact ⟨j + 1, refStep Q y, by omega, refStep_lt _ _ hQ, by go_num, int_congr (by unfold refStep; rw [if_neg HSM.out]; first | exact hmx | simp), by rw [refSteps_next HQ.out, HY.out]⟩
            case measure => simp [intOf]; omega
        · go_wp2
          go_round
          case rel =>
            have e8 : j = 8 := by omega
            subst e8
            refine ⟨k + 1, Q, by omega, hQ, by go_num, rfl, ?_⟩
            rw [List.take_add_one, HX.out]
            simp only [Option.toList_some]
            rw [runs_snoc, ← HR.out]
            exact (refSteps_end hx2 HQ.out).symm
          case measure => simp [intOf]; omega
    · have hfin : k = bs.length := by omega
      have HF : Hid (k = bs.length) := hfin
      clear hfin
      have hinv2 := ref_inv R hR
      have h32 := xor_lt32 4294967295 R (by omega) hR
      generalize hze : 4294967295 ^^^ R = z at hinv2 h32
      have HZ := hide hze
      clear hze
      go_wp2
      go_ret
      refine ⟨ret_int ?_, rfl⟩
      unfold moreV
      rw [← List.take_length (l := bs), ← HF.out, ← HR.out, HZ.out]

end Go.Proofs.Ytmlhibkofalamaa
namespace Go.Proofs.Ytmlhibkofalamaa
open Go.RowKit
set_option linter.unusedVariables false

theorem qownsRow_base {W : World} {base base' : Nat} {e : TypeId} {size : Nat} {v : Value} {k : Nat} {xs : List Value} (h : W.ownsRow base e size v k xs) (hb : base' ≤ base) : W.ownsRow base' e size v k xs := by
  refine ⟨h.1, ?_⟩
  rcases h.2 with h2 | ⟨g, cap, cur, hv, hg, r⟩
  · exact .inl h2
  · exact .inr ⟨g, cap, cur, hv, Nat.le_trans hb hg, r⟩
theorem qpair_slr (W : World) (a0 a1 : Option Addr) (c0 c1 : Nat) (x0 x1 : List Nat) (h0 : Sl W a0 x0) (h1 : Sl W a1 x1) (l0 : x0.length ≤ maxLen) (l1 : x1.length ≤ maxLen) :
    SlR (W.alloc (.cells #[.slice a0 x0.length c0, .slice a1 x1.length c1] 22)) (some ⟨W.heap.size, 0, none⟩) [x0, x1] := by
  have hB : Below W.heap.size W (W.alloc (.cells #[.slice a0 x0.length c0, .slice a1 x1.length c1] 22)) := (Below.refl _ _).alloc (Nat.le_refl _) _
  refine .inr ⟨_, _, rfl, by simp, fun i r hx => ?_⟩
  match i, hx with
  | 0, hx => simp at hx; subst hx; exact ⟨a0, c0, by simp, h0.below hB, l0⟩
  | 1, hx => simp at hx; subst hx; exact ⟨a1, c1, by simp, h1.below hB, l1⟩
  | n + 2, hx => simp at hx
theorem qtwo_any (a0 a1 : Option Addr) (c0 c1 : Nat) (x0 x1 : List Nat) (w : World) (h0 : Sl w a0 x0) (h1 : Sl w a1 x1) (hl : x0.length + x1.length ≤ 140737488355328) :
    Calls Try.prog 42 #[.slice a0 x0.length c0, .slice a1 x1.length c1] w fun e w' => ∃ u, e = .returned u ∧ w'.ownsRow w.heap.size 5 1 u (x0.length + x1.length) ((x0 ++ x1).map B8) ∧ Below w.heap.size w w' := by
  have hB : Below w.heap.size w (w.alloc (.cells #[.slice a0 x0.length c0, .slice a1 x1.length c1] 22)) := (Below.refl _ _).alloc (Nat.le_refl _) _
  have hj := join_any (some ⟨w.heap.size, 0, none⟩) 2 [x0, x1] _ (qpair_slr w a0 a1 c0 c1 x0 x1 h0 h1 (by unfold maxLen; omega) (by unfold maxLen; omega)) (by simp) (by simpa using hl)
  rw [show [x0, x1].flatten = x0 ++ x1 by simp, show [x0, x1].length = 2 from rfl] at hj
  have HJ := hide hj
  have HB := hide hB
  clear hj hB h0 h1
  go_enter Try.func42, Try.ntmps42
  go_wp2_with (go_at_call 55; refine (unhide HJ).mono ?_; rintro e w' ⟨u, rfl, hO, hB2⟩)
  go_ret
  exact ⟨u, rfl, by simpa using qownsRow_base (base' := w.heap.size) hO (by simp), bseq HB.out hB2⟩
theorem qlittle_sl (v : Nat) (w : World) (hv : v < 18446744073709551616) :
    Calls Try.prog 43 #[.int .u64 v, .int .i64 8] w fun e w' => ∃ a c, e = .returned (.slice a 8 c) ∧ Sl w' a (leB 8 v) ∧ Below w.heap.size w w' := by
  refine (little_any v 8 w hv (by omega)).mono ?_
  rintro e w' ⟨u, rfl, ho, hb⟩
  obtain ⟨a, c, h1, h2⟩ := sl_of_owns (bs := leB 8 v) (by rw [leB_length]; exact ho) (leB_lt 8 v)
  rw [leB_length] at h1
  exact ⟨a, c, by rw [h1], h2, hb⟩
theorem qtwo_sl (a0 a1 : Option Addr) (c0 c1 n m : Nat) (x0 x1 : List Nat) (w : World) (h0 : Sl w a0 x0) (h1 : Sl w a1 x1) (hn : x0.length = n) (hm : x1.length = m) (hl : n + m ≤ 1000) :
    Calls Try.prog 42 #[.slice a0 n c0, .slice a1 m c1] w fun e w' => ∃ a c, e = .returned (.slice a (n + m) c) ∧ Sl w' a (x0 ++ x1) ∧ Below w.heap.size w w' := by
  subst hn
  subst hm
  refine (qtwo_any a0 a1 c0 c1 x0 x1 w h0 h1 (by omega)).mono ?_
  rintro e w' ⟨u, rfl, ho, hb⟩
  obtain ⟨a, c, e1, e2⟩ := sl_of_owns (bs := x0 ++ x1) (by rw [List.length_append]; exact ho) (fun x hx => (List.mem_append.1 hx).elim (h0.lt x) (h1.lt x))
  rw [List.length_append] at e1
  exact ⟨a, c, by rw [e1], e2, hb⟩
end Go.Proofs.Ytmlhibkofalamaa
namespace Go.Proofs.Ytmlhibkofalamaa
open Go.RowKit Go.Shelf
set_option linter.unusedVariables false

theorem nm_0 (w : World) : (Instr.index 9 (.string ⟨#[86, 69, 76, 76, 85, 77, 48, 49]⟩) (.int .i64 0)).run Try.prog w = .ok (.int .u8 86) w := by kernel_rfl
theorem nm_1 (w : World) : (Instr.index 9 (.string ⟨#[86, 69, 76, 76, 85, 77, 48, 49]⟩) (.int .i64 1)).run Try.prog w = .ok (.int .u8 69) w := by kernel_rfl
theorem nm_2 (w : World) : (Instr.index 9 (.string ⟨#[86, 69, 76, 76, 85, 77, 48, 49]⟩) (.int .i64 2)).run Try.prog w = .ok (.int .u8 76) w := by kernel_rfl
theorem nm_3 (w : World) : (Instr.index 9 (.string ⟨#[86, 69, 76, 76, 85, 77, 48, 49]⟩) (.int .i64 3)).run Try.prog w = .ok (.int .u8 76) w := by kernel_rfl
theorem nm_4 (w : World) : (Instr.index 9 (.string ⟨#[86, 69, 76, 76, 85, 77, 48, 49]⟩) (.int .i64 4)).run Try.prog w = .ok (.int .u8 85) w := by kernel_rfl
theorem nm_5 (w : World) : (Instr.index 9 (.string ⟨#[86, 69, 76, 76, 85, 77, 48, 49]⟩) (.int .i64 5)).run Try.prog w = .ok (.int .u8 77) w := by kernel_rfl
theorem nm_6 (w : World) : (Instr.index 9 (.string ⟨#[86, 69, 76, 76, 85, 77, 48, 49]⟩) (.int .i64 6)).run Try.prog w = .ok (.int .u8 48) w := by kernel_rfl
theorem nm_7 (w : World) : (Instr.index 9 (.string ⟨#[86, 69, 76, 76, 85, 77, 48, 49]⟩) (.int .i64 7)).run Try.prog w = .ok (.int .u8 49) w := by kernel_rfl
theorem nm_at (k v : Nat) (hk : sbName[k]? = some v) (w : World) : (Instr.index 9 (.string ⟨#[86, 69, 76, 76, 85, 77, 48, 49]⟩) (.int .i64 (k : Int))).run Try.prog w = .ok (.int .u8 (v : Int)) w := by
  have h8 : k < 8 := (List.getElem?_eq_some_iff.1 hk).1
  obtain rfl | rfl | rfl | rfl | rfl | rfl | rfl | rfl : k = 0 ∨ k = 1 ∨ k = 2 ∨ k = 3 ∨ k = 4 ∨ k = 5 ∨ k = 6 ∨ k = 7 := by omega
  · simp [sbName] at hk
    subst hk
    exact nm_0 w
  · simp [sbName] at hk
    subst hk
    exact nm_1 w
  · simp [sbName] at hk
    subst hk
    exact nm_2 w
  · simp [sbName] at hk
    subst hk
    exact nm_3 w
  · simp [sbName] at hk
    subst hk
    exact nm_4 w
  · simp [sbName] at hk
    subst hk
    exact nm_5 w
  · simp [sbName] at hk
    subst hk
    exact nm_6 w
  · simp [sbName] at hk
    subst hk
    exact nm_7 w
theorem sb_cap (v : Nat) (hv : v ∈ sbName) : v < 256 := by
  revert hv
  unfold sbName
  simp
  omega
set_option maxHeartbeats 400000 in
theorem text_any (w : World) : Calls Try.prog 41 #[.string ⟨#[86, 69, 76, 76, 85, 77, 48, 49]⟩] w fun e w' => ∃ u, e = .returned u ∧ w'.ownsRow w.heap.size 5 1 u 8 (sbName.map B8) ∧ Below w.heap.size w w' := by
  obtain ⟨i0, hi, hz0, hz1, hz2⟩ := info_parts Try.info5
  have l8 : sbName.length = 8 := rfl
  have L8 := hide l8
  clear l8
  go_enter Try.func41, Try.ntmps41
  go_wp2
  go_loopw [3, 4] (fun u i wr => ∃ (k : Nat), k ≤ 8 ∧ i = .int .i64 k ∧ wr.ownsRow w.heap.size 5 1 u k ((sbName.take k).map B8) ∧ Below w.heap.size w wr)
    (fun _ i _ => 8 - (intOf i).toNat)
  case atStart => exact ⟨0, by omega, rfl, World.ownsRow_nil _ _ _ _, Below.refl _ _⟩
  case round =>
    obtain ⟨k, hk, rfl, hown, hB⟩ := hrel
    have HO := hide hown
    have HB := hide hB
    have hsz := hB.size
    clear hown hB
    by_cases hlt : k < 8
    · have kI : (k : Int) < 8 := by omega
      obtain ⟨x, hx⟩ : ∃ x, sbName[k]? = some x := ⟨_, List.getElem?_eq_getElem (by rw [L8.out]; exact hlt)⟩
      have ix := fun W => nm_at k x hx W
      have HX := hide hx
      clear hx
      go_wp2_with (at_builtin; refine wpList_append_own _ rfl _ _ 22 rfl w.heap.size 5 i0 (.int .u8 0) 1 1 Try.underlying22 hi hz0 hz1 hz2 rfl (by omega) _ _ _ rfl (HO.out.alloc _) ⟨wr.heap.size, 0, none⟩ 1 1 [.int .u8 (x : Int)] rfl rfl (cell_one_new _ _ _) (by simp [Value.oneCell']) (by unfold maxLen; omega) (by omega) (by simp; omega) ?_; intro v3 w3 hown3 hgrow3 _)
      have HO3 := hide hown3
      have HB3 : Hid (Below w.heap.size w w3) := (HB.out.alloc (by omega) _).grown hgrow3 (by simp; omega) (fun j e => (HO.out.lt j e).1)
      clear hown3 hgrow3
      go_wp2
      go_roundw
      case rel =>
        refine ⟨k + 1, by omega, by go_num, ?_, HB3.out⟩
        rw [List.take_add_one, HX.out]
        simpa [B8] using HO3.out
      case measure => simp [intOf]; omega
    · have hkk : k = 8 := by omega
      subst hkk
      go_wp2
      go_ret
      have h := HO.out
      rw [List.take_of_length_le (by rw [L8.out]; omega)] at h
      exact ⟨_, rfl, h, HB.out⟩
theorem rsum_any (a : Option Addr) (cap : Nat) (bs : List Nat) (w : World) (hg : Sl w a bs) (hl : bs.length ≤ maxLen) :
    Calls Try.prog 44 #[.slice a bs.length cap] w fun e w' => e = .returned (.int .u32 (moreV 0 bs)) ∧ w' = w := by
  have CE := hide (refMore_any 0 a cap bs w (by omega) hg hl)
  go_enter Try.func44, Try.ntmps44
  go_wp2_with (go_at_call 56; refine (unhide CE).mono ?_; rintro e w' ⟨rfl, hw'⟩; replace hw' := hw'.symm; subst hw')
  go_ret
  exact ⟨rfl, rfl⟩
/-- What Little and Two make, as slices. -/
theorem little_sl (v : Nat) (w : World) (hv : v < 18446744073709551616) :
    Calls Try.prog 43 #[.int .u64 v, .int .i64 8] w fun e w' => ∃ a c, e = .returned (.slice a 8 c) ∧ Sl w' a (leB 8 v) ∧ Below w.heap.size w w' := by
  refine (little_any v 8 w hv (by omega)).mono ?_
  rintro e w' ⟨u, rfl, ho, hb⟩
  obtain ⟨a, c, h1, h2⟩ := sl_of_owns (bs := leB 8 v) (by rw [leB_length]; exact ho) (leB_lt 8 v)
  rw [leB_length] at h1
  exact ⟨a, c, by rw [h1], h2, hb⟩
theorem two_sl (a0 a1 : Option Addr) (c0 c1 n m : Nat) (x0 x1 : List Nat) (w : World) (h0 : Sl w a0 x0) (h1 : Sl w a1 x1) (hn : x0.length = n) (hm : x1.length = m) (hl : n + m ≤ 1000) :
    Calls Try.prog 42 #[.slice a0 n c0, .slice a1 m c1] w fun e w' => ∃ a c, e = .returned (.slice a (n + m) c) ∧ Sl w' a (x0 ++ x1) ∧ Below w.heap.size w w' := by
  subst hn
  subst hm
  refine (qtwo_any a0 a1 c0 c1 x0 x1 w h0 h1 (by omega)).mono ?_
  rintro e w' ⟨u, rfl, ho, hb⟩
  obtain ⟨a, c, e1, e2⟩ := sl_of_owns (bs := x0 ++ x1) (by rw [List.length_append]; exact ho) (fun x hx => (List.mem_append.1 hx).elim (h0.lt x) (h1.lt x))
  rw [List.length_append] at e1
  exact ⟨a, c, by rw [e1], e2, hb⟩
theorem index_i (g i len cap : Nat) (hi : i < len) (w : World) : (Instr.indexAt 79 (.slice (some ⟨g, 0, none⟩) len cap) (.int .i64 (i : Int))).run Try.prog w = .ok (.pointer (some ⟨g, i, none⟩)) w := by
  have h := index_at (t := 79) (e := 3) (sz := 1) Try.underlying79 (by kernel_rfl) g 0 i len cap hi w
  rwa [Nat.zero_add, Nat.mul_one] at h
theorem six_cell {W : World} {g N q k v : Nat} (h : W.heap[g]? = some (.cells #[.int .i64 (N : Int), .int .i64 128, .int .i64 32768, .int .i64 32896, .int .i64 (q : Int), .int .i64 0] 3 (0, 0))) (hk : (sbN N q)[k]? = some v) : W.cell? ⟨g, k, none⟩ = some (.int .i64 (v : Int)) := by
  rw [cell8 h]
  have h6 : k < 6 := (List.getElem?_eq_some_iff.1 hk).1
  obtain rfl | rfl | rfl | rfl | rfl | rfl : k = 0 ∨ k = 1 ∨ k = 2 ∨ k = 3 ∨ k = 4 ∨ k = 5 := by omega
  all_goals
    simp [sbN] at hk
    subst hk
    rfl
set_option maxRecDepth 100000 in
set_option maxHeartbeats 1000000 in
theorem rline_nat (N q : Nat) (w : World) (h : okS (N : Int)) (hq : ((N : Int) - 32896) / 256 = (q : Int)) :
    Calls Try.prog 21 #[.agg #[.int .i64 (N : Int), .int .i64 128, .int .i64 32768, .int .i64 32896, .int .i64 (q : Int)]] w fun e w' => ∃ a c, e = .returned (.tuple #[.slice a 64 c, .int .i64 0]) ∧ Sl w' a (sbB N q) ∧ Below w.heap.size w w' := by
  have kp : ∀ W, Calls Try.prog 20 #[.int .i64 (N : Int)] W fun e w' => e = .returned (.tuple #[.agg #[.int .i64 (N : Int), .int .i64 128, .int .i64 32768, .int .i64 32896, .int .i64 (q : Int)], .int .i64 0]) ∧ Below W.heap.size W w' := fun W => by
    have k := rplan_ok (N : Int) W h
    unfold plC suC at k
    rw [hq] at k
    exact k
  obtain ⟨h1, h2, h3⟩ := h
  have hN : N ≤ 4194304 := by omega
  have hq2 : q ≤ 4194304 := by omega
  have hg := Try.noGuard36
  have he := fun W => eql_su (N : Int) 128 32768 32896 (q : Int) (N : Int) 128 32768 32896 (q : Int) W
  have hs : sameS (N : Int) 128 32768 32896 (q : Int) (N : Int) 128 32768 32896 (q : Int) = true := by simp [sameS]
  rw [hs] at he
  have KP := hide kp
  have HN := hide hN
  have HQ := hide hq2
  clear kp hN hq2 hq h1 h2 h3 hs
  go_enter Try.func21, Try.ntmps21
  go_wp2_with (first
    | (go_at_call 20; refine (KP.out _).mono ?_; rintro e W1 ⟨rfl, hB1⟩; have hb0 := row_after hB1; obtain ⟨c0, c1, c2, c3, c4⟩ := suBox hb0; obtain ⟨k0, k1, k2, k3, k4⟩ := suBox (row_keep hb0 ((Below.refl _ W1).alloc (Nat.le_refl _) (.cells #[.int .i64 (N : Int), .int .i64 128, .int .i64 32768, .int .i64 32896, .int .i64 (q : Int)] 36))); have h1 := ((Below.refl _ w).alloc (Nat.le_refl _) (.cells #[.int .i64 (N : Int), .int .i64 128, .int .i64 32768, .int .i64 32896, .int .i64 (q : Int)] 36)).trans (hB1.mono (by simp)); have HB1 := hide (h1.alloc (o := .cells #[.int .i64 (N : Int), .int .i64 128, .int .i64 32768, .int .i64 32896, .int .i64 (q : Int)] 36) h1.size); have HB0 := hide (row_keep hb0 ((Below.refl _ W1).alloc (Nat.le_refl _) (.cells #[.int .i64 (N : Int), .int .i64 128, .int .i64 32768, .int .i64 32896, .int .i64 (q : Int)] 36))); clear hB1 hb0 h1)
    | (go_at_call 41; refine (text_any _).mono ?_; rintro e W2 ⟨u, rfl, ho2, hB2⟩; obtain ⟨a2, cp2, hu, hsl⟩ := sl_of_owns (bs := sbName) ho2 sb_cap; replace hu := (show u = .slice a2 8 cp2 from hu); subst hu; obtain ⟨j0, j1, j2, j3, j4⟩ := suBox (row_keep HB0.out hB2); have HB2 := hide (HB1.out.trans (hB2.mono HB1.out.size)); have HS2 := hide hsl; clear ho2 hsl hB2))
  have hnew : (W2.alloc (.cells #[.int .i64 (N : Int), .int .i64 128, .int .i64 32768, .int .i64 32896, .int .i64 (q : Int), .int .i64 0] 3)).heap[W2.heap.size]? = some (.cells #[.int .i64 (N : Int), .int .i64 128, .int .i64 32768, .int .i64 32896, .int .i64 (q : Int), .int .i64 0] 3 (0, 0)) := heap_alloc_new W2 _
  have hsl3 : Sl (W2.alloc (.cells #[.int .i64 (N : Int), .int .i64 128, .int .i64 32768, .int .i64 32896, .int .i64 (q : Int), .int .i64 0] 3)) a2 (sbPre N q 0) := HS2.out.below ((Below.refl _ W2).alloc (Nat.le_refl _) _)
  have hb3 : Below w.heap.size w (W2.alloc (.cells #[.int .i64 (N : Int), .int .i64 128, .int .i64 32768, .int .i64 32896, .int .i64 (q : Int), .int .i64 0] 3)) := HB2.out.alloc HB2.out.size _
  have HNEW := hide hnew
  have HS3 := hide hsl3
  have HB3 := hide hb3
  clear hnew hsl3 hb3
  go_loopw [6, 8] (fun bv iv wr => ∃ (k : Nat) (a : Option Addr) (c : Nat), k ≤ 6 ∧ iv = .int .i64 (k : Int) ∧ bv = .slice a (8 + 8 * k) c ∧ Sl wr a (sbPre N q k) ∧ wr.heap[W2.heap.size]? = some (.cells #[.int .i64 (N : Int), .int .i64 128, .int .i64 32768, .int .i64 32896, .int .i64 (q : Int), .int .i64 0] 3 (0, 0)) ∧ Below w.heap.size w wr) (fun bv iv _ => (6 - (intOf iv).toNat))
  case atStart => exact ⟨0, a2, cp2, by omega, rfl, rfl, HS3.out, HNEW.out, HB3.out⟩
  case round =>
    clear HNEW HS3 HB3 c0 c1 c2 c3 c4 k0 k1 k2 k3 k4 j0 j1 j2 j3 j4
    obtain ⟨k, a, c, hk, rfl, rfl, hO, hZ, hB⟩ := hrel
    have hOl := sbPre_len N q k hk
    by_cases hlt : k < 6
    · have kI : (k : Int) < 6 := by omega
      obtain ⟨v, hv⟩ : ∃ v, (sbN N q)[k]? = some v := ⟨_, List.getElem?_eq_getElem hlt⟩
      have hv2 := sbN_lt HN.out HQ.out hv
      have wv : IntKind.u64.wrap (v : Int) = (v : Int) := by rw [IntKind.wrap_u64]; omega
      have cv := six_cell hZ hv
      have ix := fun X => index_i W2.heap.size k 6 6 hlt X
      have HV := hide hv
      have HV2 := hide hv2
      have HZ1 := hide hZ
      have HB := hide hB
      have HO := hide hO
      have HOL := hide hOl
      clear hO hZ hB hOl hv hv2
      go_wp2_with (first
        | (go_at_call 43; refine (little_sl v wr (by have := HV2.out; omega)).mono ?_; rintro e w1 ⟨a1, cc1, rfl, hs1, hb1⟩; have KT := hide (two_sl a a1 c cc1 (8 + 8 * k) 8 (sbPre N q k) (leB 8 v) w1 (HO.out.below hb1) hs1 HOL.out (leB_length 8 v) (by omega)); have HB1' := hide hb1; clear hs1 hb1)
        | (go_at_call 42; refine (KT.out).mono ?_; rintro e w2 ⟨a2', cc2, rfl, hs2, hb2⟩; have HS2' := hide hs2; have HB2' := hide (bseq HB1'.out hb2); clear hs2 hb2))
      go_roundw
      case rel =>
        refine ⟨k + 1, a2', cc2, by omega, int_congrP (by omega), by rw [show 8 + 8 * (k + 1) = 8 + 8 * k + 8 by omega], ?_, (HB2'.out.block _ (lt_of_heap HZ1.out)).trans HZ1.out, HB.out.trans (HB2'.out.mono HB.out.size)⟩
        rw [sbPre_succ N q k v HV.out]
        exact HS2'.out
      case measure => simp [intOf]; omega
    · obtain rfl : k = 6 := by omega
      have ks := rsum_any a c (sbPre N q 6) wr hO (by rw [hOl]; unfold maxLen; omega)
      rw [hOl] at ks
      obtain ⟨m, hm⟩ : ∃ m, m = moreV 0 (sbPre N q 6) := ⟨_, rfl⟩
      have hm2 : m < 4294967296 := by rw [hm]; exact moreV_lt 0 _ (by omega) (sbPre_lt N q 6)
      rw [← hm] at ks
      have wm : IntKind.u64.wrap (m : Int) = (m : Int) := by rw [IntKind.wrap_u64]; omega
      have KS := hide ks
      have HB := hide hB
      have HO := hide hO
      have HOL := hide hOl
      have HM := hide hm
      have HM2 := hide hm2
      clear hO hZ hB hOl hm hm2 ks
      go_wp2_with (first
        | (go_at_call 44; refine (KS.out).mono ?_; rintro e w1 ⟨rfl, hw⟩; obtain rfl := hw.symm)
        | (go_at_call 43; refine (little_sl m wr (by have := HM2.out; omega)).mono ?_; rintro e w1 ⟨a1, cc1, rfl, hs1, hb1⟩; have KT := hide (two_sl a a1 c cc1 56 8 (sbPre N q 6) (leB 8 m) w1 (HO.out.below hb1) hs1 HOL.out (leB_length 8 m) (by omega)); have HB1' := hide hb1; clear hs1 hb1)
        | (go_at_call 42; refine (KT.out).mono ?_; rintro e w2 ⟨a2', cc2, rfl, hs2, hb2⟩; have HS2' := hide hs2; have HB2' := hide (bseq HB1'.out hb2); clear hs2 hb2))
      go_ret2
      refine ⟨a2', cc2, rfl, ?_, HB.out.trans (HB2'.out.mono HB.out.size)⟩
      unfold sbB
      rw [← HM.out]
      exact HS2'.out
theorem rline_pl (a b c d e : Int) (W : World) (h : isPl a b c d e) : Calls Try.prog 21 #[.agg #[.int .i64 a, .int .i64 b, .int .i64 c, .int .i64 d, .int .i64 e]] W fun r w' => ∃ p cp, r = .returned (.tuple #[.slice p 64 cp, .int .i64 0]) ∧ Sl w' p (sbX a) ∧ Below W.heap.size W w' := by
  obtain ⟨hk, rfl, rfl, rfl, rfl⟩ := h
  obtain ⟨h1, h2, h3⟩ := id hk
  obtain ⟨N, rfl⟩ : ∃ N : Nat, a = (N : Int) := ⟨a.toNat, by omega⟩
  obtain ⟨q, hq⟩ : ∃ q : Nat, ((N : Int) - 32896) / 256 = (q : Int) := ⟨(((N : Int) - 32896) / 256).toNat, by omega⟩
  have k := rline_nat N q W hk hq
  unfold sbX
  rw [hq]
  exact k
end Go.Proofs.Ytmlhibkofalamaa
namespace Go.Proofs.Ytmlhibkofalamaa
open Go.RowKit Go.Shelf
set_option linter.unusedVariables false

theorem own_slB {w : World} {B N : Nat} {v : Value} {l : List Nat} (h : w.ownsRow B 5 1 v N (l.map B8)) (hx : ∀ x ∈ l, x < 256) (hl : l.length = N) : ∃ a cp, v = .slice a N cp ∧ Sl w a l := by
  rcases h.2 with ⟨rfl, e⟩ | ⟨g, cap, cur, rfl, h1, h2, _, _, _, h5⟩
  · subst e
    exact ⟨none, 0, rfl, .inl (List.eq_nil_of_length_eq_zero hl)⟩
  · refine ⟨_, _, rfl, .inr ⟨g, 0, rfl, lt_of_heap h2, fun j x hj => ⟨?_, hx x (List.mem_of_getElem? hj)⟩⟩⟩
    have hc := h.cells (g := g) rfl j (B8 x) (by rw [List.getElem?_map, hj]; rfl)
    rwa [Addr.add_mid] at hc
section
variable {w : World} {b : Nat} {M : RLay} {σ : St} {mk : Nat → Int}
set_option maxRecDepth 100000 in
set_option maxHeartbeats 1000000 in
theorem rread_off (h : RefL w b M (rOf σ mk)) (ho : σ.off = true) : Calls Try.prog 10 #[.pointer (some ⟨b, 0, none⟩)] w fun e w' => e = .returned (.tuple #[.agg noC, .int .i64 5]) ∧ Below w.heap.size w w' := by
  have hA : Below w.heap.size w (w.alloc (.cells #[.int .i64 0, .int .i64 0, .int .i64 0, .int .i64 0, .int .i64 0] 36)) := (Below.refl _ w).alloc (Nat.le_refl _) _
  have c5 : (w.alloc (.cells #[.int .i64 0, .int .i64 0, .int .i64 0, .int .i64 0, .int .i64 0] 36)).cell? ⟨b, 5, none⟩ = some (.bool true) := by rw [← ho]; exact (h.below hA).c 5
  have hz := heap_alloc_new w (.cells #[.int .i64 0, .int .i64 0, .int .i64 0, .int .i64 0, .int .i64 0] 36)
  have HA := hide hA
  unfold noC suC
  clear hz hA h ho
  go_enter Try.func10, Try.ntmps10
  go_wp2_with (fail)
  (try simp only [Exit.inBlock, Exit.then])
  refine bodyPost_ret (results_row_tmp rfl _ _ w.heap.size _ _ _ _ rfl (heap_alloc_new w _) Try.underlying36 rfl (by kernel_rfl)) rfl ?_
  exact ⟨rfl, HA.out⟩
set_option maxRecDepth 100000 in
set_option maxHeartbeats 1000000 in
theorem rread_no (h : RefL w b M (rOf σ mk)) (hok : σ.Ok) (ho : σ.off = false) (hs : ¬ okS ((64 * σ.n : Nat) : Int)) : Calls Try.prog 10 #[.pointer (some ⟨b, 0, none⟩)] w fun e w' => e = .returned (.tuple #[.agg noC, .int .i64 100]) ∧ Below w.heap.size w w' := by
  have hmx := hok.max
  obtain ⟨x, hx⟩ : ∃ x : Int, x = ((64 * σ.n : Nat) : Int) := ⟨_, rfl⟩
  rw [← hx] at hs
  have hA : Below w.heap.size w (w.alloc (.cells #[.int .i64 0, .int .i64 0, .int .i64 0, .int .i64 0, .int .i64 0] 36)) := (Below.refl _ w).alloc (Nat.le_refl _) _
  have c5 : (w.alloc (.cells #[.int .i64 0, .int .i64 0, .int .i64 0, .int .i64 0, .int .i64 0] 36)).cell? ⟨b, 5, none⟩ = some (.bool false) := by rw [← ho]; exact (h.below hA).c 5
  have c0 : (w.alloc (.cells #[.int .i64 0, .int .i64 0, .int .i64 0, .int .i64 0, .int .i64 0] 36)).cell? ⟨b, 0, none⟩ = some (.int .i64 x) := by rw [hx]; exact (h.below hA).c 0
  have kp : ∀ W, Calls Try.prog 20 #[.int .i64 x] W fun r w' => r = .returned (.tuple #[.agg #[.int .i64 0, .int .i64 0, .int .i64 0, .int .i64 0, .int .i64 0], .int .i64 80]) ∧ Below W.heap.size W w' := fun W => rplan_no x W (by omega) (by omega) hs
  have KP := hide kp
  have HA := hide hA
  unfold noC suC
  clear kp hA h ho hs hx hok
  go_enter Try.func10, Try.ntmps10
  go_upto_region 5 with (go_at_call 20; refine (KP.out _).mono ?_; rintro e W1 ⟨rfl, hB1⟩; have hz1 := row_after hB1; have HB1 := hide hB1; have HZ1 := hide hz1; clear hB1 hz1)
  have hB2 : Below W1.heap.size W1 (W1.alloc (.cells #[.int .i64 0, .int .i64 0, .int .i64 0, .int .i64 0, .int .i64 0] 36)) := (Below.refl _ _).alloc (Nat.le_refl _) _
  have hz2 := row_keep HZ1.out hB2
  have hBw : Below w.heap.size w (W1.alloc (.cells #[.int .i64 0, .int .i64 0, .int .i64 0, .int .i64 0, .int .i64 0] 36)) := bseq (bseq HA.out HB1.out) hB2
  obtain ⟨⟨d0, d1, d2, d3, d4⟩, ⟨f0, f1, f2, f3, f4⟩, RR, _, BB⟩ := chain5 hz2 (.int .i64 0) (.int .i64 0) (.int .i64 0) (.int .i64 0) (.int .i64 0)
  have R9 := hide RR
  have B9 := hide BB
  have BZ := hide hBw
  clear RR BB hz2 hB2 hBw
  go_wp2_with (fail)
  (try simp only [Exit.inBlock, Exit.then])
  refine bodyPost_ret (results_row_tmp rfl _ _ w.heap.size _ _ _ _ rfl R9.out Try.underlying36 rfl (by kernel_rfl)) rfl ?_
  exact ⟨rfl, B9.out _ _ (Nat.le_refl _) BZ.out⟩
set_option maxRecDepth 100000 in
set_option maxHeartbeats 4000000 in
theorem rread_ok (h : RefL w b M (rOf σ mk)) (hok : σ.Ok) (ho : σ.off = false) (hs : okS ((64 * σ.n : Nat) : Int)) :
    Calls Try.prog 10 #[.pointer (some ⟨b, 0, none⟩)] w fun e w' => e = .returned (if (σ.bytes.take 64) = sbX ((64 * σ.n : Nat) : Int) then .tuple #[.agg (plC ((64 * σ.n : Nat) : Int)), .int .i64 0] else .tuple #[.agg noC, .int .i64 100]) ∧ Below w.heap.size w w' := by
  have hp := hok.pos
  have hmx := hok.max
  have kl : ∀ W, Below w.heap.size w W → Calls Try.prog 30 #[.pointer (some ⟨b, 0, none⟩), .int .i64 0, .int .i64 64] W fun e w' => ∃ a cp, e = .returned (.tuple #[.slice a 64 cp, .int .i64 0]) ∧ Sl w' a (σ.bytes.take 64) ∧ Below W.heap.size W w' := fun W hB => by
    refine (rload_any 0 64 (h.below hB) hok ho (by omega)).mono ?_
    rintro e w' ⟨v, rfl, q1, q2⟩
    rw [List.drop_zero] at q1
    obtain ⟨a, cp, rfl, q3⟩ := own_slB q1 (fun x hx => hok.byte x (List.mem_of_mem_take hx)) (by rw [List.length_take, hok.len]; omega)
    exact ⟨a, cp, rfl, q3, q2⟩
  have hlen : (σ.bytes.take 64).length = 64 := by rw [List.length_take, hok.len]; omega
  obtain ⟨x, hx⟩ : ∃ x : Int, x = ((64 * σ.n : Nat) : Int) := ⟨_, rfl⟩
  have hA : Below w.heap.size w (w.alloc (.cells #[.int .i64 0, .int .i64 0, .int .i64 0, .int .i64 0, .int .i64 0] 36)) := (Below.refl _ w).alloc (Nat.le_refl _) _
  have c5 : (w.alloc (.cells #[.int .i64 0, .int .i64 0, .int .i64 0, .int .i64 0, .int .i64 0] 36)).cell? ⟨b, 5, none⟩ = some (.bool false) := by rw [← ho]; exact (h.below hA).c 5
  have c0 : (w.alloc (.cells #[.int .i64 0, .int .i64 0, .int .i64 0, .int .i64 0, .int .i64 0] 36)).cell? ⟨b, 0, none⟩ = some (.int .i64 x) := by rw [hx]; exact (h.below hA).c 0
  rw [← hx] at hs ⊢
  have kln : ∀ W, Calls Try.prog 21 #[.agg #[.int .i64 x, .int .i64 128, .int .i64 32768, .int .i64 32896, .int .i64 ((x - 32896) / 256)]] W fun r w' => ∃ p cp, r = .returned (.tuple #[.slice p 64 cp, .int .i64 0]) ∧ Sl w' p (sbX x) ∧ Below W.heap.size W w' := fun W => rline_pl x 128 32768 32896 ((x - 32896) / 256) W ⟨hs, rfl, rfl, rfl, rfl⟩
  have kp : ∀ W, Calls Try.prog 20 #[.int .i64 x] W fun r w' => r = .returned (.tuple #[.agg #[.int .i64 x, .int .i64 128, .int .i64 32768, .int .i64 32896, .int .i64 ((x - 32896) / 256)], .int .i64 0]) ∧ Below W.heap.size W w' := fun W => rplan_ok x W hs
  have hsl := sbX_len x
  have ke : ∀ W p1 c1 p2 c2, Sl W p1 (σ.bytes.take 64) → Sl W p2 (sbX x) → Calls Try.prog 15 #[.slice p1 64 c1, .slice p2 64 c2] W fun e w' => e = .returned (.bool (decide (σ.bytes.take 64 = sbX x))) ∧ ∃ n, w' = W.drewN n := fun W p1 c1 p2 c2 h1 h2 => by
    have k := eqBytes_any p1 p2 c1 c2 (σ.bytes.take 64) (sbX x) W h1 h2 (by rw [hlen]; omega)
    rwa [hlen, hsl] at k
  generalize σ.bytes.take 64 = tk at *
  generalize sbX x = sb at *
  unfold plC noC suC
  generalize (x - 32896) / 256 = q at *
  obtain ⟨res, hres⟩ : ∃ res, (if tk = sb then Value.tuple #[.agg #[.int .i64 x, .int .i64 128, .int .i64 32768, .int .i64 32896, .int .i64 q], .int .i64 0] else .tuple #[.agg #[.int .i64 0, .int .i64 0, .int .i64 0, .int .i64 0, .int .i64 0], .int .i64 100]) = res := ⟨_, rfl⟩
  rw [hres]
  have HRES := hide hres
  clear hres
  have KL := hide kl
  have KLN := hide kln
  have KP := hide kp
  have KE := hide ke
  have HA := hide hA
  clear kl kln kp ke hA hlen hsl h hok ho hs hx hp
  go_enter Try.func10, Try.ntmps10
  go_upto_region 6 with (go_at_call 20; refine (KP.out _).mono ?_; rintro e W1 ⟨rfl, hB1⟩; have hz1 := row_after hB1; have HB1 := hide hB1; have HZ1 := hide hz1; clear hB1 hz1)
  have hB2 : Below W1.heap.size W1 (W1.alloc (.cells #[.int .i64 x, .int .i64 128, .int .i64 32768, .int .i64 32896, .int .i64 q] 36)) := (Below.refl _ _).alloc (Nat.le_refl _) _
  have hz2 := row_keep HZ1.out hB2
  have hBw : Below w.heap.size w (W1.alloc (.cells #[.int .i64 x, .int .i64 128, .int .i64 32768, .int .i64 32896, .int .i64 q] 36)) := bseq (bseq HA.out HB1.out) hB2
  have hp2 := heap_alloc_new W1 (.cells #[.int .i64 x, .int .i64 128, .int .i64 32768, .int .i64 32896, .int .i64 q] 36)
  obtain ⟨y0, y1, y2, y3, y4⟩ := suBox hp2
  have HBW := hide hBw
  have HZ2 := hide hz2
  have HP2 := hide hp2
  generalize W1.alloc (.cells #[.int .i64 x, .int .i64 128, .int .i64 32768, .int .i64 32896, .int .i64 q] 36) = W2 at *
  generalize W1.heap.size = g4 at *
  clear hB2 hz2 hBw hp2 HZ1 HB1 HA c0 c5
  go_upto_region 8 with (first
    | (go_at_call 21; refine (KLN.out _).mono ?_; rintro e W3 ⟨p1, cp1, rfl, hs3, hB3⟩; have HS3 := hide hs3; have HB3 := hide hB3; have KL3 := hide (KL.out W3 (bseq HBW.out hB3)); clear hs3 hB3)
    | (go_at_call 30; refine (KL3.out).mono ?_; rintro e W4 ⟨p2, cp2, rfl, hs4, hB4⟩; have HS4 := hide hs4; have HB4 := hide hB4; have KE4 := hide (KE.out W4 p2 cp2 p1 cp1 hs4 (HS3.out.below hB4)); clear hs4 hB4))
  have hz4 := row_keep (row_keep HZ2.out HB3.out) HB4.out
  have hp4 := row_keep (row_keep HP2.out HB3.out) HB4.out
  have hB4w := bseq (bseq HBW.out HB3.out) HB4.out
  have HZ4 := hide hz4
  have HP4 := hide hp4
  have HB4W := hide hB4w
  clear hz4 hp4 hB4w y0 y1 y2 y3 y4
  by_cases hne : tk = sb
  · rw [decide_eq_true hne] at KE4
    have HNE := hide hne
    clear hne
    go_upto_region 10 with (go_at_call 15; refine (KE4.out).mono ?_; rintro e W5 ⟨rfl, nq, hw5⟩; have HW5 := hide hw5; clear hw5)
    have hB5 : Below W4.heap.size W4 W5 := by rw [HW5.out]; exact below_drewN (Below.refl _ _) nq
    have hz5 := row_keep HZ4.out hB5
    obtain ⟨y0, y1, y2, y3, y4⟩ := suBox (row_keep HP4.out hB5)
    obtain ⟨⟨d0, d1, d2, d3, d4⟩, ⟨f0, f1, f2, f3, f4⟩, RR, _, BB⟩ := chain5 hz5 (.int .i64 x) (.int .i64 128) (.int .i64 32768) (.int .i64 32896) (.int .i64 q)
    have R9 := hide RR
    have B9 := hide BB
    have BZ := hide (bseq HB4W.out hB5)
    clear RR BB hz5 hB5
    go_wp2_with (fail)
    (try simp only [Exit.inBlock, Exit.then])
    refine bodyPost_ret (results_row_tmp rfl _ _ w.heap.size _ _ _ _ rfl R9.out Try.underlying36 rfl (by kernel_rfl)) rfl ?_
    exact ⟨by rw [← HRES.out, if_pos HNE.out]; rfl, B9.out _ _ (Nat.le_refl _) BZ.out⟩
  · rw [decide_eq_false hne] at KE4
    have HNE := hide hne
    clear hne
    go_upto_region 9 with (go_at_call 15; refine (KE4.out).mono ?_; rintro e W5 ⟨rfl, nq, hw5⟩; have HW5 := hide hw5; clear hw5)
    have hB5 : Below W4.heap.size W4 W5 := by rw [HW5.out]; exact below_drewN (Below.refl _ _) nq
    have hz5 := row_keep HZ4.out hB5
    obtain ⟨⟨d0, d1, d2, d3, d4⟩, ⟨f0, f1, f2, f3, f4⟩, RR, _, BB⟩ := chain5 hz5 (.int .i64 0) (.int .i64 0) (.int .i64 0) (.int .i64 0) (.int .i64 0)
    have R9 := hide RR
    have B9 := hide BB
    have BZ := hide (bseq HB4W.out hB5)
    clear RR BB hz5 hB5
    go_wp2_with (fail)
    (try simp only [Exit.inBlock, Exit.then])
    refine bodyPost_ret (results_row_tmp rfl _ _ w.heap.size _ _ _ _ rfl R9.out Try.underlying36 rfl (by kernel_rfl)) rfl ?_
    exact ⟨by rw [← HRES.out, if_neg HNE.out]; rfl, B9.out _ _ (Nat.le_refl _) BZ.out⟩
end
end Go.Proofs.Ytmlhibkofalamaa
