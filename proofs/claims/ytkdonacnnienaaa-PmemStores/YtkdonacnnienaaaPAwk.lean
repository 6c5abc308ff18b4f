/- The statements' awake(). -/
import Derived.Test.YtkdonacnnienaaaPCon
import Derived.Test.YtkdonacnnienaaaHelp
namespace Go.Proofs.Ytkdonacnnienaaa
open Go.RowKit Go.Shelf
set_option linter.unusedVariables false

/-- A device that was laid since w, and nothing else has changed. -/
structure At (w W : World) (b : Nat) (L : Lay) (σ : St) : Prop where
  dev : DevL W b L σ
  ok : σ.Ok
  num : L.N ≤ σ.ops
  foot : ∀ k, Foot b L σ k → w.heap.size ≤ k
  bel : Below w.heap.size w W
theorem At.step {w W W' : World} {b : Nat} {L L' : Lay} {σ σ' : St} (h : At w W b L σ) (hd : DevL W' b L' σ') (hok : σ'.Ok) (hf : ∀ k, Foot b L' σ' k → Foot b L σ k ∨ W.heap.size ≤ k) {X : Nat → Prop} (hX : ∀ k, X k → Foot b L σ k) (hg : Gr X W W') (hN : L'.N ≤ σ'.ops) : At w W' b L' σ' := by
  refine ⟨hd, hok, hN, fun k hk => ?_, hg.1.trans h.bel.os, hg.2.1.trans h.bel.tape, hg.2.2.1.trans h.bel.output, Nat.le_trans h.bel.size hg.size, fun k hk => (hg.block (Nat.lt_of_lt_of_le hk h.bel.size) (fun hx => by have := h.foot k (hX k hx); omega)).trans (h.bel.block k hk)⟩
  rcases hf k hk with h1 | h1
  · exact h.foot k h1
  · exact Nat.le_trans h.bel.size h1
theorem At.below {w W W' : World} {b : Nat} {L : Lay} {σ : St} (h : At w W b L σ) (hB : Below W.heap.size W W') : At w W' b L σ := ⟨h.dev.below hB, h.ok, h.num, h.foot, h.bel.trans (hB.mono h.bel.size)⟩
def s0 : St := newD 2
def s1 : St := writeDo (leB 8 257) 0 s0 (wordsOf 0 8)
def s2 : St := flushDo s1 0
def s3 : St := writeDo (leB 8 5) 8 s2 (wordsOf 8 8)
def s4 : St := fenceDo s3
theorem words0 : wordsOf 0 8 = [0] := by rw [wordsOf_eq 0 8 (by omega)]; rfl
theorem words8 : wordsOf 8 8 = [1] := by rw [wordsOf_eq 8 8 (by omega)]; rfl
theorem s0_ok : s0.Ok := newD_ok (by omega) (by omega)
theorem s1_like : Like s0 s1 1 := by
  have h := write_like (at_ := 0) (leB_lt 8 257) (wordsOf 0 8) s0 s0_ok (by rw [words0]; intro no h; simp at h; subst h; show 0 < 2; omega) (by rw [words0]; show 0 + 1 ≤ _; omega)
  rw [words0] at h
  unfold s1
  rw [words0]
  exact h
theorem s2_ok : s2.Ok := flush_ok s1_like.ok 0 (by rw [s1_like.ops]; show 0 + 1 < _; omega)
theorem s2_ops : s2.ops = 2 := by show s1.ops + 1 = 2; rw [s1_like.ops]; rfl
theorem s3_like : Like s2 s3 1 := by
  have h := write_like (at_ := 8) (leB_lt 8 5) (wordsOf 8 8) s2 s2_ok (by rw [words8]; intro no h; simp at h; subst h; show 0 < s1.n; rw [s1_like.n]; show 0 < 2; omega) (by rw [words8, s2_ops]; show 2 + 1 ≤ _; omega)
  rw [words8] at h
  unfold s3
  rw [words8]
  exact h
theorem s3_ops : s3.ops = 3 := by rw [s3_like.ops, s2_ops]
theorem s4_ok : s4.Ok := fence_ok s3_like.ok (by rw [s3_ops]; omega)
theorem s4_ops : s4.ops = 4 := by show s3.ops + 1 = 4; rw [s3_ops]
theorem s4_n : s4.n = 2 := by show s3.n = 2; rw [s3_like.n]; show s1.n = 2; rw [s1_like.n]; rfl
theorem s4_off : s4.off = false := by show s3.off = false; rw [s3_like.off]; show s1.off = false; rw [s1_like.off]; rfl
theorem s4_arms : s4.arms = [] := by show s3.arms = []; rw [s3_like.arms]; show s1.arms = []; rw [s1_like.arms]; rfl
/-- The line behind the first store. -/
def line1 : List Nat := 1 :: 1 :: List.replicate 62 0
theorem s1_eq : s1.past 0 = [List.replicate 64 0] ∧ s1.line 0 = line1 ∧ s1.fl 0 = none := by
  have e : s1 = wordDo (leB 8 257) 0 s0 0 := by unfold s1; rw [words0]; rfl
  rw [e]
  refine ⟨by kernel_rfl, by kernel_rfl, by kernel_rfl⟩
theorem s4_past : s4.past 0 = [line1] := by
  have e3 : s3 = wordDo (leB 8 5) 8 s2 1 := by unfold s3; rw [words8]; rfl
  have e1 : s1 = wordDo (leB 8 257) 0 s0 0 := by unfold s1; rw [words0]; rfl
  unfold s4
  rw [e3]
  unfold s2
  rw [e1]
  have h : (fenceDo (wordDo (leB 8 5) 8 (flushDo (wordDo (leB 8 257) 0 s0 0) 0) 1)).past 0 = [line1] := by kernel_rfl
  exact h
section
variable {w : World}
theorem a_new : Calls Try.prog 33 #[.int .i64 128] w fun e W => ∃ b L, e = .returned (.tuple #[.pointer (some ⟨b, 0, none⟩), .int .i64 0]) ∧ At w W b L s0 := by
  refine (pnew_any w 2 (by omega) (by omega)).mono ?_
  rintro e W ⟨b, L, rfl, h1, h2, h3, h4⟩
  exact ⟨b, L, rfl, h1, s0_ok, by rw [h4]; exact Nat.zero_le _, h2, h3⟩
variable {W : World} {b : Nat} {L : Lay}
theorem a_st1 (h : At w W b L s0) : Calls Try.prog 32 #[.pointer (some ⟨b, 0, none⟩), .int .i64 0, .int .u64 257] W fun e W' => e = .returned (.int .i64 0) ∧ ∃ L', At w W' b L' s1 := by
  refine (pst8_any (at_ := 0) 257 h.dev h.ok rfl h.num rfl (by show 0 + 600000 ≤ _; omega) rfl (by show 0 + 8 ≤ 64 * 2; omega) (by omega)).mono ?_
  rintro e W' ⟨rfl, L', h1, h2, h3, h4, h5⟩
  refine ⟨rfl, L', h.step h1 s1_like.ok h2 (fun k hk => hk) h3 ?_⟩
  rw [words0] at h4
  have := h.num
  rw [s1_like.ops]
  show L'.N ≤ s0.ops + 1
  simp at h4
  omega
theorem a_fl (h : At w W b L s1) : Calls Try.prog 34 #[.pointer (some ⟨b, 0, none⟩), .int .i64 3] W fun e W' => e = .returned (.int .i64 0) ∧ ∃ L', At w W' b L' s2 := by
  have ho := s1_like.ops
  refine (pflush_any h.dev h.ok (by rw [s1_like.off]; rfl) (by rw [s1_like.arms]; rfl) 3 (by rw [s1_like.n]; show 3 < 64 * 2; omega) (by rw [ho]; show 0 + 1 < _; omega) h.num).mono ?_
  rintro e W' ⟨rfl, L', h1, h2, h3, h4, h5⟩
  refine ⟨rfl, L', h.step h1 s2_ok (fun k hk => .inl (h2 k hk)) (fun k hk => hk) h3 ?_⟩
  have := h.num
  show L'.N ≤ s1.ops + 1
  omega
theorem a_st2 (h : At w W b L s2) : Calls Try.prog 32 #[.pointer (some ⟨b, 0, none⟩), .int .i64 8, .int .u64 5] W fun e W' => e = .returned (.int .i64 0) ∧ ∃ L', At w W' b L' s3 := by
  have hn : s2.n = 2 := by show s1.n = 2; rw [s1_like.n]; rfl
  refine (pst8_any (at_ := 8) 5 h.dev h.ok (by show s1.off = false; rw [s1_like.off]; rfl) h.num (by show s1.arms = []; rw [s1_like.arms]; rfl) (by rw [s2_ops]; omega) rfl (by rw [hn]; omega) (by omega)).mono ?_
  rintro e W' ⟨rfl, L', h1, h2, h3, h4, h5⟩
  refine ⟨rfl, L', h.step h1 s3_like.ok h2 (fun k hk => hk) h3 ?_⟩
  rw [words8] at h4
  have := h.num
  rw [s3_like.ops]
  simp at h4
  omega
theorem a_fen (h : At w W b L s3) : Calls Try.prog 26 #[.pointer (some ⟨b, 0, none⟩)] W fun e W' => e = .returned (.int .i64 0) ∧ ∃ L', At w W' b L' s4 := by
  refine (pfence_any h.dev h.ok s4_off s4_arms (by rw [s3_ops]; omega)).mono ?_
  rintro e W' ⟨rfl, L', h1, h2, h3, h4⟩
  refine ⟨rfl, L', h.step h1 s4_ok h2 (fun k hk => hk) h3 ?_⟩
  have := h.num
  show L'.N ≤ s3.ops + 1
  omega
theorem a_ops (h : At w W b L s4) : Calls Try.prog 24 #[.pointer (some ⟨b, 0, none⟩)] W fun e W' => e = .returned (.int .i64 4) ∧ W' = W := by
  have k := pops_any h.dev
  rw [s4_ops] at k
  exact k
theorem a_con (h : At w W b L s4) : Calls Try.prog 18 #[.pointer (some ⟨b, 0, none⟩), .int .i64 0] W fun e W' => ∃ a c, e = .returned (.slice a 2 c) ∧ At w W' b L s4 := by
  refine (pcont_any 0 h.dev h.ok (by rw [s4_n]; omega)).mono ?_
  rintro e W' ⟨lv, rfl, ⟨vals, h1, h2, h3⟩, h4⟩
  obtain ⟨a, c, e⟩ := own_slice h1
  rw [s4_past] at e
  exact ⟨a, c, by rw [e]; rfl, h.below h4⟩
theorem a_cr (h : At w W b L s4) : Calls Try.prog 11 #[.pointer (some ⟨b, 0, none⟩), .slice none 0 0] W fun e W' => e = .returned (.int .i64 0) ∧ ∃ L' σ', Lost s4 [] σ' ∧ At w W' b L' σ' := by
  refine (pcrash_any (a := none) (kp := []) 0 h.dev h.ok s4_off ⟨by simp, .inl ⟨rfl, rfl⟩⟩ (by simp)).mono ?_
  rintro e W' ⟨rfl, L', σ', h1, h2, h3, h4, h5⟩
  refine ⟨rfl, L', σ', h1, h.step h2 (Lost.ok h.ok h1) h3 (fun k hk => hk.elim (fun e => .inl e) (fun e => .inr (.inl e))) h4 ?_⟩
  have := h.num
  rw [h1.ops]
  omega
theorem a_off {σ' : St} (h : At w W b L σ') (hl : Lost s4 [] σ') : Calls Try.prog 14 #[.pointer (some ⟨b, 0, none⟩)] W fun e W' => e = .returned (.bool true) ∧ W' = W := by
  have k := poff_any h.dev
  rw [hl.off] at k
  exact k
theorem a_wake {σ' : St} (h : At w W b L σ') (hl : Lost s4 [] σ') : Calls Try.prog 15 #[.pointer (some ⟨b, 0, none⟩)] W fun e W' => e = .returned (.int .i64 0) ∧ At w W' b L { σ' with off := false } := by
  refine (pwake_off h.dev hl.off).mono ?_
  rintro e W' ⟨rfl, h1, h2⟩
  refine ⟨rfl, h.step h2 ⟨h.ok.pos, h.ok.max, h.ok.len, h.ok.byte, h.ok.out, h.ok.clen, h.ok.cbyte, h.ok.few, h.ok.flp, h.ok.opsm⟩ (fun k hk => .inl hk) (X := fun k => k = b) (fun k hk => .inl hk) ?_ h.num⟩
  rw [h1]
  exact Gr.set W b 7 _ rfl
def bytes16 : List Nat := [1, 1, 0, 0, 0, 0, 0, 0, 0, 0, 0, 0, 0, 0, 0, 0]
theorem a_load {σ' : St} (h : At w W b L { σ' with off := false }) (hl : Lost s4 [] σ') : Calls Try.prog 10 #[.pointer (some ⟨b, 0, none⟩), .int .i64 0, .int .i64 16] W fun e W' => ∃ R, e = .returned (.tuple #[.slice (some ⟨R, 0, none⟩) 16 16, .int .i64 0]) ∧ OwnB W' R bytes16 ∧ Below w.heap.size w W' := by
  have hn : σ'.n = 2 := by rw [hl.n, s4_n]
  refine (callsIn_wide.1 (pload_in (at_ := 0) (n := 16) h.dev h.ok rfl (by show 0 + 16 ≤ 64 * σ'.n; rw [hn]; omega))).mono ?_
  rintro e W' ⟨R, rfl, h1, h2, h3⟩
  refine ⟨R, rfl, ?_, h.bel.trans (h3.mono h.bel.size)⟩
  have hli := hl.lines 0 (by rw [s4_n]; omega)
  have hlost : lost s4 [] 0 = line1 := by unfold lost; rw [s4_past]; rfl
  rw [hlost] at hli
  have hb : (σ'.bytes.drop 0).take 16 = bytes16 := by
    have h5 : (σ'.line 0).take 16 = line1.take 16 := by rw [hli]
    unfold St.line at h5
    rw [List.take_take] at h5
    exact h5
  have h6 : W'.heap[R]? = some (.cells (((σ'.bytes.drop 0).take 16).map B8).toArray 5 (0, 0)) := h2
  rw [hb] at h6
  exact h6
end
end Go.Proofs.Ytkdonacnnienaaa
