/- SuperReads answers true for all images: Read and Root tell of each what the document's device of the same bytes tells, on and off, and nothing is changed. -/
import Derived.Test.YtmlhibkofalamaaQPubM
import Derived.Test.YtmlhibkofalamaaRRdM
import Derived.Test.YtmlhibkofalamaaPFrm
import Derived.Test.YtmlhibkofalamaaPImg
import Derived.Test.YtmlhibkofalamaaZLine
import Derived.Laws.IdiomStrings
import Derived.Test.YtmlhibkofalamaaBase
import Derived.Test.YtmlhibkofalamaaEq
import Derived.ProofKit
import Derived.ChangeOld
import Derived.SizedLaws
import Derived.JoinedCond
namespace Go.Proofs.Ytmlhibkofalamaa
open Go.RowKit Go.Shelf
set_option linter.unusedVariables false

theorem qbword {w : World} {p : Option Addr} {c : Int} (h : BadD w (.pointer p) c) (x : Int) : Calls Try.prog 31 #[.pointer p, .int .i64 x] w fun e w' => e = .returned (.tuple #[.int .u64 0, .int .i64 c]) ∧ Below w.heap.size w w' := by
  have hc : (c == 0) = false := by simpa using h.1
  have KL := hide (qbfload64 h x)
  clear h
  go_enter Try.func31, Try.ntmps31
  go_wp2_with (go_at_call 52; refine (KL.out).mono ?_; rintro e W1 ⟨rfl, hb1⟩; have HB1 := hide hb1; clear hb1)
  go_ret2
  exact ⟨rfl, HB1.out⟩
theorem qword {w : World} {p : Option Addr} (x : Int) (hx : x % 8 = 0) (hx0 : 0 ≤ x) (bs : List Nat) (hl : bs.length = 8) (hbs : ∀ y ∈ bs, y < 256) (kl : ∀ W, Below w.heap.size w W → Calls Try.prog 27 #[.pointer p, .int .i64 x, .int .i64 8] W fun e w' => ∃ R, e = .returned (.tuple #[.slice (some ⟨R, 0, none⟩) 8 8, .int .i64 0]) ∧ OwnB w' R bs ∧ Below W.heap.size W w') : Calls Try.prog 31 #[.pointer p, .int .i64 x] w fun e w' => e = .returned (.tuple #[.int .u64 (leV bs : Nat), .int .i64 0]) ∧ Below w.heap.size w w' := by
  have KL := hide (qfload64 x bs hl hbs kl)
  have tm : x.tmod 8 = 0 := by rw [Int.tmod_eq_emod_of_nonneg hx0]; exact hx
  clear kl
  go_enter Try.func31, Try.ntmps31
  go_wp2_with (go_at_call 52; refine (KL.out).mono ?_; rintro e W1 ⟨rfl, hb1⟩; have HB1 := hide hb1; clear hb1)
  go_ret2
  exact ⟨rfl, HB1.out⟩
/-- A device that was laid since w, and nothing else has changed. -/
structure AtQ (w W : World) (b : Nat) (L : Lay) (σ : St) : Prop where
  dev : DevL W b L σ
  ok : σ.Ok
  num : L.N ≤ σ.ops
  foot : ∀ k, Foot b L σ k → w.heap.size ≤ k
  bel : Below w.heap.size w W
theorem AtQ.step {w W W' : World} {b : Nat} {L L' : Lay} {σ σ' : St} (h : AtQ w W b L σ) (hd : DevL W' b L' σ') (hok : σ'.Ok) (hf : ∀ k, Foot b L' σ' k → Foot b L σ k ∨ W.heap.size ≤ k) {X : Nat → Prop} (hX : ∀ k, X k → Foot b L σ k) (hg : Gr X W W') (hN : L'.N ≤ σ'.ops) : AtQ w W' b L' σ' := by
  refine ⟨hd, hok, hN, fun k hk => ?_, hg.1.trans h.bel.os, hg.2.1.trans h.bel.tape, hg.2.2.1.trans h.bel.output, Nat.le_trans h.bel.size hg.size, fun k hk => (hg.block (Nat.lt_of_lt_of_le hk h.bel.size) (fun hx => by have := h.foot k (hX k hx); omega)).trans (h.bel.block k hk)⟩
  rcases hf k hk with h1 | h1
  · exact h.foot k h1
  · exact Nat.le_trans h.bel.size h1
theorem AtQ.below {w W W' : World} {b : Nat} {L : Lay} {σ : St} (h : AtQ w W b L σ) (hB : Below W.heap.size W W') : AtQ w W' b L σ := ⟨h.dev.below hB, h.ok, h.num, h.foot, h.bel.trans (hB.mono h.bel.size)⟩
theorem AtQ.atd {w W W' : World} {b : Nat} {L : Lay} {σ σ' : St} {m : Nat} (h : AtQ w W b L σ) (ha : Atd W b L σ W' σ' m) (hok : σ'.Ok) (hN : σ.ops + m ≤ σ'.ops) : ∃ L', AtQ w W' b L' σ' := by
  obtain ⟨hg, L', hd, hf, hn⟩ := ha
  exact ⟨L', h.step hd hok hf (fun k hk => hk) hg (by have := h.num; omega)⟩
/-- What stays as it is when bytes are made to last. -/
theorem bytes_like {bs : List Nat} {at_ : Nat} {σ : St} (hbs : ∀ x ∈ bs, x < 256) (hok : σ.Ok) (hlen : at_ + bs.length ≤ 64 * σ.n) (hops : σ.ops + 2000000 ≤ 1400000000000) :
    (bytesDo bs at_ σ).Ok ∧ (bytesDo bs at_ σ).n = σ.n ∧ (bytesDo bs at_ σ).ops = σ.ops + (wordsOf at_ bs.length).length + (linesOf at_ bs.length).length + 1 ∧ (bytesDo bs at_ σ).arms = σ.arms ∧ (bytesDo bs at_ σ).off = σ.off := by
  have hm := hok.max
  have hwl := wordsOf_len (at_ := at_) (n := bs.length) (by omega)
  have hll := linesOf_len (at_ := at_) (n := bs.length) (by omega)
  have hlk := write_like (at_ := at_) hbs (wordsOf at_ bs.length) σ hok (wordsOf_lt hlen hm) (by omega)
  obtain ⟨j1, j2, j3, j4, j5, _⟩ := lines_like (linesOf at_ bs.length) (writeDo bs at_ σ (wordsOf at_ bs.length)) hlk.ok (by rw [hlk.ops]; omega)
  rw [hlk.ops] at j3
  exact ⟨fence_ok j1 (by rw [j3]; omega), j2.trans hlk.n, by show (linesDo _ _).ops + 1 = _; rw [j3], j4.trans hlk.arms, j5.trans hlk.off⟩
def ones : List Nat := [1, 1, 1, 1, 1, 1, 1, 1]
def q1 : St := bytesDo ones 60 (newD 2)
def q2 : St := bytesDo (leB 8 258) 8 q1
theorem wQ60 : wordsOf 60 8 = [7, 8] := by rw [wordsOf_eq 60 8 (by omega)]; rfl
theorem wQ8 : wordsOf 8 8 = [1] := by rw [wordsOf_eq 8 8 (by omega)]; rfl
theorem lQ60 : linesOf 60 8 = [0, 1] := by decide +kernel
theorem lQ8 : linesOf 8 8 = [0] := by decide +kernel
theorem ones_lt : ∀ x ∈ ones, x < 256 := by decide
theorem q1_like : q1.Ok ∧ q1.n = 2 ∧ q1.ops = 5 ∧ q1.arms = [] ∧ q1.off = false := by
  obtain ⟨h1, h2, h3, h4, h5⟩ := bytes_like (bs := ones) (at_ := 60) (σ := newD 2) ones_lt (newD_ok (by omega) (by omega)) (by decide) (by show 0 + 2000000 ≤ _; omega)
  have e : ones.length = 8 := rfl
  rw [e, wQ60, lQ60] at h3
  exact ⟨h1, h2, h3, h4, h5⟩
theorem q2_like : q2.Ok ∧ q2.n = 2 ∧ q2.ops = 8 ∧ q2.arms = [] ∧ q2.off = false := by
  obtain ⟨g1, g2, g3, g4, g5⟩ := q1_like
  obtain ⟨h1, h2, h3, h4, h5⟩ := bytes_like (bs := leB 8 258) (at_ := 8) (σ := q1) (leB_lt 8 258) g1 (by rw [leB_length, g2]; omega) (by rw [g3]; omega)
  rw [leB_length, wQ8, lQ8, g3] at h3
  exact ⟨h1, h2.trans g2, h3, h4.trans g4, h5.trans g5⟩
theorem q2_eq : q2 = fenceDo (flushDo (wordDo (leB 8 258) 8 (fenceDo (flushDo (flushDo (wordDo ones 60 (wordDo ones 60 (newD 2) 7) 8) 0) 1)) 1) 0) := by
  have e : ones.length = 8 := rfl
  unfold q2 q1 bytesDo
  rw [leB_length, e, wQ60, lQ60, wQ8, lQ8]
  rfl
def lineQ : List Nat := [0, 0, 0, 0, 0, 0, 0, 0, 2, 1, 0, 0, 0, 0, 0, 0, 0, 0, 0, 0, 0, 0, 0, 0, 0, 0, 0, 0, 0, 0, 0, 0, 0, 0, 0, 0, 0, 0, 0, 0, 0, 0, 0, 0, 0, 0, 0, 0, 0, 0, 0, 0, 0, 0, 0, 0, 0, 0, 0, 0, 1, 1, 1, 1]
theorem q2_lost : lost q2 [] 0 = lineQ := by
  rw [q2_eq]
  kernel_rfl
end Go.Proofs.Ytmlhibkofalamaa
namespace Go.Proofs.Ytmlhibkofalamaa
open Go.RowKit Go.Shelf
set_option linter.unusedVariables false

/-- What Read tells: a plan, and the error. -/
structure RdI where
  a : Int
  b : Int
  c : Int
  d : Int
  e : Int
  err : Int
open Classical in
noncomputable def rd (σ : St) : RdI :=
  if σ.off = true then ⟨0, 0, 0, 0, 0, 5⟩
  else if okS ((64 * σ.n : Nat) : Int) ∧ σ.bytes.take 64 = sbX ((64 * σ.n : Nat) : Int) then ⟨((64 * σ.n : Nat) : Int), 128, 32768, 32896, (((64 * σ.n : Nat) : Int) - 32896) / 256, 0⟩
  else ⟨0, 0, 0, 0, 0, 100⟩
theorem rd_err (σ : St) : (rd σ).err = 0 ∨ (rd σ).err = 5 ∨ (rd σ).err = 100 := by
  unfold rd
  split
  · exact .inr (.inl rfl)
  · split
    · exact .inl rfl
    · exact .inr (.inr rfl)
theorem rd_on {σ : St} (h : (rd σ).err = 0) : σ.off = false ∧ 36992 ≤ 64 * σ.n := by
  unfold rd at h
  split at h
  · cases h
  · rename_i h1
    split at h
    · rename_i h2
      exact ⟨by simpa using h1, by have := h2.1.1; omega⟩
    · cases h
section
variable {w : World} {b : Nat} {L : Lay} {M : RLay} {σ : St} {mk : Nat → Int}
theorem read_all (h : DevL w b L σ) (hok : σ.Ok) : Calls Try.prog 9 #[.pointer (some ⟨b, 0, none⟩)] w fun e w' => e = .returned (.tuple #[.agg (suC (rd σ).a (rd σ).b (rd σ).c (rd σ).d (rd σ).e), .int .i64 (rd σ).err]) ∧ Below w.heap.size w w' := by
  unfold rd
  by_cases ho : σ.off = true
  · rw [if_pos ho]
    exact read_off h ho
  · have ho' : σ.off = false := by simpa using ho
    rw [if_neg ho]
    by_cases hs : okS ((64 * σ.n : Nat) : Int)
    · by_cases he : σ.bytes.take 64 = sbX ((64 * σ.n : Nat) : Int)
      · rw [if_pos ⟨hs, he⟩]
        have k := read_any h hok ho' hs
        rw [if_pos he] at k
        exact k
      · rw [if_neg (fun h => he h.2)]
        have k := read_any h hok ho' hs
        rw [if_neg he] at k
        exact k
    · rw [if_neg (fun h => hs h.1)]
      exact read_no h hok ho' hs
theorem rread_all (h : RefL w b M (rOf σ mk)) (hok : σ.Ok) : Calls Try.prog 10 #[.pointer (some ⟨b, 0, none⟩)] w fun e w' => e = .returned (.tuple #[.agg (suC (rd σ).a (rd σ).b (rd σ).c (rd σ).d (rd σ).e), .int .i64 (rd σ).err]) ∧ Below w.heap.size w w' := by
  unfold rd
  by_cases ho : σ.off = true
  · rw [if_pos ho]
    exact rread_off h ho
  · have ho' : σ.off = false := by simpa using ho
    rw [if_neg ho]
    by_cases hs : okS ((64 * σ.n : Nat) : Int)
    · by_cases he : σ.bytes.take 64 = sbX ((64 * σ.n : Nat) : Int)
      · rw [if_pos ⟨hs, he⟩]
        have k := rread_ok h hok ho' hs
        rw [if_pos he] at k
        exact k
      · rw [if_neg (fun h => he h.2)]
        have k := rread_ok h hok ho' hs
        rw [if_neg he] at k
        exact k
    · rw [if_neg (fun h => hs h.1)]
      exact rread_no h hok ho' hs
/-- The root's number. -/
noncomputable def rtV (σ : St) : Nat := if (rd σ).err = 0 then leV ((σ.bytes.drop 64).take 8) else 0
set_option maxHeartbeats 1000000 in
theorem root_all (h : DevL w b L σ) (hok : σ.Ok) : Calls Try.prog 11 #[.pointer (some ⟨b, 0, none⟩)] w fun e w' => e = .returned (.tuple #[.int .u64 ((rtV σ : Nat) : Int), .int .i64 (rd σ).err]) ∧ Below w.heap.size w w' := by
  have kr := read_all h hok
  unfold suC at kr
  by_cases h0 : (rd σ).err = 0
  · obtain ⟨hon, hsz⟩ := rd_on h0
    have kw : ∀ W, Below w.heap.size w W → Calls Try.prog 31 #[.pointer (some ⟨b, 0, none⟩), .int .i64 64] W fun e w' => e = .returned (.tuple #[.int .u64 ((rtV σ : Nat) : Int), .int .i64 0]) ∧ Below W.heap.size W w' := fun W hB => by
      unfold rtV
      rw [if_pos h0]
      exact qword (w := W) (p := some ⟨b, 0, none⟩) 64 (by omega) (by omega) ((σ.bytes.drop 64).take 8) (by rw [List.length_take, List.length_drop, hok.len]; omega) (fun y hy => hok.byte y (List.mem_of_mem_drop (List.mem_of_mem_take hy))) (fun X hX => (callsIn_wide.1 (pload_in (at_ := 64) (n := 8) ((h.below hB).below hX) hok hon (by omega))).mono fun e w' ⟨R, q1, _, q3, q4⟩ => ⟨R, q1, q3, q4⟩)
    rw [h0] at kr ⊢
    generalize rtV σ = v at *
    generalize (rd σ).a = a0 at *
    generalize (rd σ).b = a1 at *
    generalize (rd σ).c = a2 at *
    generalize (rd σ).d = a3 at *
    generalize (rd σ).e = a4 at *
    have KR := hide kr
    have KW := hide kw
    clear kr kw h hok h0 hon hsz
    go_enter Try.func11, Try.ntmps11
    go_upto_region 4 with (go_at_call 9; refine (KR.out).mono ?_; rintro e W1 ⟨rfl, hB1⟩; have HB1 := hide hB1; clear hB1)
    have hB2 : Below w.heap.size w (W1.alloc (.cells #[.int .i64 a0, .int .i64 a1, .int .i64 a2, .int .i64 a3, .int .i64 a4] 36)) := HB1.out.alloc HB1.out.size _
    have KW2 := hide (KW.out _ hB2)
    have HB2 := hide hB2
    clear hB2
    go_wp2_with (go_at_call 31; refine (KW2.out).mono ?_; rintro e W3 ⟨rfl, hB3⟩; have HB3 := hide hB3; clear hB3)
    go_ret2
    exact ⟨rfl, bseq HB2.out HB3.out⟩
  · have hv : rtV σ = 0 := by unfold rtV; rw [if_neg h0]
    rw [hv]
    have hne : ((rd σ).err == 0) = false := by simpa using h0
    have hb := rd_err σ
    generalize (rd σ).a = a0 at *
    generalize (rd σ).b = a1 at *
    generalize (rd σ).c = a2 at *
    generalize (rd σ).d = a3 at *
    generalize (rd σ).e = a4 at *
    generalize (rd σ).err = er at *
    have KR := hide kr
    clear kr h hok hv hb
    go_enter Try.func11, Try.ntmps11
    go_wp2_with (go_at_call 9; refine (KR.out).mono ?_; rintro e W1 ⟨rfl, hB1⟩; have HB1 := hide hB1; clear hB1)
    go_ret2
    exact ⟨rfl, HB1.out.alloc HB1.out.size _⟩
set_option maxHeartbeats 1000000 in
theorem rroot_all (h : RefL w b M (rOf σ mk)) (hok : σ.Ok) : Calls Try.prog 12 #[.pointer (some ⟨b, 0, none⟩)] w fun e w' => e = .returned (.tuple #[.int .u64 ((rtV σ : Nat) : Int), .int .i64 (rd σ).err]) ∧ Below w.heap.size w w' := by
  have kr := rread_all h hok
  unfold suC at kr
  by_cases h0 : (rd σ).err = 0
  · obtain ⟨hon, hsz⟩ := rd_on h0
    have kw : ∀ W, Below w.heap.size w W → Calls Try.prog 32 #[.pointer (some ⟨b, 0, none⟩), .int .i64 64] W fun e w' => e = .returned (.tuple #[.int .u64 ((rtV σ : Nat) : Int), .int .i64 0]) ∧ Below W.heap.size W w' := fun W hB => by
      unfold rtV
      rw [if_pos h0]
      exact rword_any 64 (h.below hB) hok hon (by omega) (by omega)
    rw [h0] at kr ⊢
    generalize rtV σ = v at *
    generalize (rd σ).a = a0 at *
    generalize (rd σ).b = a1 at *
    generalize (rd σ).c = a2 at *
    generalize (rd σ).d = a3 at *
    generalize (rd σ).e = a4 at *
    have KR := hide kr
    have KW := hide kw
    clear kr kw h hok h0 hon hsz
    go_enter Try.func12, Try.ntmps12
    go_upto_region 4 with (go_at_call 10; refine (KR.out).mono ?_; rintro e W1 ⟨rfl, hB1⟩; have HB1 := hide hB1; clear hB1)
    have hB2 : Below w.heap.size w (W1.alloc (.cells #[.int .i64 a0, .int .i64 a1, .int .i64 a2, .int .i64 a3, .int .i64 a4] 36)) := HB1.out.alloc HB1.out.size _
    have KW2 := hide (KW.out _ hB2)
    have HB2 := hide hB2
    clear hB2
    go_wp2_with (go_at_call 32; refine (KW2.out).mono ?_; rintro e W3 ⟨rfl, hB3⟩; have HB3 := hide hB3; clear hB3)
    go_ret2
    exact ⟨rfl, bseq HB2.out HB3.out⟩
  · have hv : rtV σ = 0 := by unfold rtV; rw [if_neg h0]
    rw [hv]
    have hne : ((rd σ).err == 0) = false := by simpa using h0
    generalize (rd σ).a = a0 at *
    generalize (rd σ).b = a1 at *
    generalize (rd σ).c = a2 at *
    generalize (rd σ).d = a3 at *
    generalize (rd σ).e = a4 at *
    generalize (rd σ).err = er at *
    have KR := hide kr
    clear kr h hok hv
    go_enter Try.func12, Try.ntmps12
    go_wp2_with (go_at_call 10; refine (KR.out).mono ?_; rintro e W1 ⟨rfl, hB1⟩; have HB1 := hide hB1; clear hB1)
    go_ret2
    exact ⟨rfl, HB1.out.alloc HB1.out.size _⟩
end
end Go.Proofs.Ytmlhibkofalamaa
namespace Go.Proofs.Ytmlhibkofalamaa
open Go.RowKit Go.Shelf
set_option linter.unusedVariables false

theorem wpAnyH_doS {P : Program} {ops : Array Oper} {Q : Exit → Act → World → Prop} {md : Region.Mode} {S : World → Prop} {i : Nat} {o : Oper} {fuel : Nat} {listed : Array Bool} {a : Act} {w : World} (hr : Region.ready md ops listed = [i]) (ho : ops[i]? = some o) (hw : Region.wanted o (yielded ops a.tmps) = true)
    (h : ∀ K' : Act → World → Prop, Shut (∀ a w, S w → wpAnyH P md ops Q S fuel (listed.setIfInBounds i true) a w → K' a w) → Oper.wp P o a w K' Q) : wpAnyH P md ops Q S (fuel + 1) listed a w := by
  refine wpAnyH_ready (rs := [i]) hr (by simp) (AllReadyH.cons ho (fun K hK => ?_) AllReadyH.nil)
  rw [if_pos hw]
  exact h K (fun a w hs hq => hK a w hs (fun _ => hq))
/-- May a device have that size? -/
def fitS (x : Int) : Prop := 64 ≤ x ∧ x ≤ 4194304 ∧ x % 64 = 0
theorem rfits_any (x : Int) (w : World) (hx : -9223372036854775808 ≤ x) (hx' : x ≤ 9223372036854775807) : Calls Try.prog 24 #[.int .i64 x] w fun e w' => (fitS x ∧ e = .returned (.bool true) ∨ ¬ fitS x ∧ e = .returned (.bool false)) ∧ w' = w := by
  unfold fitS
  by_cases h1 : 64 ≤ x
  · have htm : x.tmod 64 = x % 64 := Int.tmod_eq_emod_of_nonneg (by omega)
    by_cases h2 : x ≤ 4194304
    · by_cases h3 : x % 64 = 0
      · go_enter Try.func24, Try.ntmps24
        go_wp2
        go_ret
        exact ⟨.inl ⟨⟨h1, h2, h3⟩, rfl⟩, rfl⟩
      · have h3b : (x % 64 == 0) = false := by simpa using h3
        go_enter Try.func24, Try.ntmps24
        go_wp2
        go_ret
        exact ⟨.inr ⟨fun h => h3 h.2.2, rfl⟩, rfl⟩
    · go_enter Try.func24, Try.ntmps24
      go_wp2
      go_ret
      exact ⟨.inr ⟨fun h => by omega, rfl⟩, rfl⟩
  · go_enter Try.func24, Try.ntmps24
    go_wp2
    go_ret
    exact ⟨.inr ⟨fun h => by omega, rfl⟩, rfl⟩
theorem rfrom_no (a : Option Addr) (N cap : Nat) (w : World) (hN : N ≤ 140737488355328) (h : ¬ fitS (N : Int)) : Calls Try.prog 7 #[.slice a N cap] w fun e w' => e = .returned (.tuple #[.pointer none, .int .i64 80]) ∧ w' = w := by
  have kf : Calls Try.prog 24 #[.int .i64 (N : Int)] w fun e w' => e = .returned (.bool false) ∧ w' = w := (rfits_any (N : Int) w (by omega) (by omega)).mono fun e w' ⟨h1, h2⟩ => ⟨h1.elim (fun q => absurd q.1 h) (fun q => q.2), h2⟩
  have KF := hide kf
  clear kf h
  go_enter Try.func7, Try.ntmps7
  go_wp2_with (go_at_call 24; refine (KF.out).mono ?_; rintro e w' ⟨rfl, hw⟩; obtain rfl := hw.symm)
  go_ret2
  exact ⟨rfl, rfl⟩
/-- A From under way. -/
structure RFr (w wr : World) (b N : Nat) (σ : St) (j : Nat) (lv : Value) (vals : List Value) (A C : Nat → Nat) : Prop where
  dev : wr.heap[b]? = some (.cells #[.int .i64 (N : Int), lv, .int .i64 0, .slice none 0 0, .int .i64 0, .bool false] 67 (0, 0))
  own : wr.ownsRow w.heap.size 70 2 lv j vals
  at_ : ∀ i, i < j → vals[i * 2]? = some (.slice (some ⟨A i, 0, none⟩) 1 1) ∧ vals[i * 2 + 1]? = some (.int .i64 (-1)) ∧ wr.heap[A i]? = some (.cells #[.slice (some ⟨C i, 0, none⟩) 64 64] 22 (0, 0)) ∧ OwnB wr (C i) (σ.line i)
  new : ∀ i, i < j → w.heap.size ≤ A i ∧ w.heap.size ≤ C i
  nb : w.heap.size ≤ b
  bel : Below w.heap.size w wr
theorem RFr.step {w wr W1 W4 : World} {b N j c : Nat} {σ : St} {lv v' : Value} {vals : List Value} {A C : Nat → Nat} (h : RFr w wr b N σ j lv vals A C) (hB : Below wr.heap.size wr W1) (hc : OwnB W1 c (σ.line j)) (hcn : wr.heap.size ≤ c)
    (hg : ((W1.alloc (.cells #[.slice (some ⟨c, 0, none⟩) 64 64] 22)).alloc (.cells #[.slice (some ⟨W1.heap.size, 0, none⟩) 1 1, .int .i64 (-1)] 70)).grownBy W4 lv.ownBlock) (ho : W4.ownsRow w.heap.size 70 2 v' (j + 1) (vals ++ [.slice (some ⟨W1.heap.size, 0, none⟩) 1 1, .int .i64 (-1)])) :
    RFr w (W4.setCell ⟨b, 1, none⟩ v') b N σ (j + 1) v' (vals ++ [.slice (some ⟨W1.heap.size, 0, none⟩) 1 1, .int .i64 (-1)]) (fun i => if i = j then W1.heap.size else A i) (fun i => if i = j then c else C i) := by
  have hB2 : Below wr.heap.size wr ((W1.alloc (.cells #[.slice (some ⟨c, 0, none⟩) 64 64] 22)).alloc (.cells #[.slice (some ⟨W1.heap.size, 0, none⟩) 1 1, .int .i64 (-1)] 70)) := (hB.alloc hB.size _).alloc (by simp; have := hB.size; omega) _
  have hown1 : ∀ g, lv.ownBlock = some g → ∃ q, wr.heap[g]? = some (.cells q 70 (0, 0)) := fun g hg => own_type h.own hg
  have k4 : ∀ (k : Nat) (q : Array Value) (t : TypeId) (f : Nat × Nat), wr.heap[k]? = some (.cells q t f) → t ≠ 70 → W4.heap[k]? = wr.heap[k]? := fun k q t f hk ht => (hg.block k (Nat.lt_of_lt_of_le (lt_of_heap hk) hB2.size) (fun e => by
    obtain ⟨q', hq'⟩ := hown1 k e.symm
    exact ne_ty hk hq' ht rfl)).trans (hB2.block k (lt_of_heap hk))
  have k5 : ∀ (k : Nat) (q : Array Value) (t : TypeId) (f : Nat × Nat), wr.heap[k]? = some (.cells q t f) → t ≠ 70 → t ≠ 67 → (W4.setCell ⟨b, 1, none⟩ v').heap[k]? = wr.heap[k]? := fun k q t f hk ht ht2 => (heap_set_ne _ _ _ _ _ (ne_ty hk h.dev ht2)).trans (k4 k q t f hk ht)
  have hd4 := (k4 _ _ _ _ h.dev (by decide)).trans h.dev
  have hlo : ∀ g, lv.ownBlock = some g → g < wr.heap.size := fun g hg => by
    obtain ⟨q, hq⟩ := hown1 g hg
    exact lt_of_heap hq
  -- the new rows
  have kn : ∀ k, wr.heap.size ≤ k → k < ((W1.alloc (.cells #[.slice (some ⟨c, 0, none⟩) 64 64] 22)).alloc (.cells #[.slice (some ⟨W1.heap.size, 0, none⟩) 1 1, .int .i64 (-1)] 70)).heap.size → k ≠ b → (W4.setCell ⟨b, 1, none⟩ v').heap[k]? = ((W1.alloc (.cells #[.slice (some ⟨c, 0, none⟩) 64 64] 22)).alloc (.cells #[.slice (some ⟨W1.heap.size, 0, none⟩) 1 1, .int .i64 (-1)] 70)).heap[k]? := fun k hk hl hne => (heap_set_ne _ _ _ _ _ hne).trans (hg.block k hl (fun e => by have := hlo k e.symm; omega))
  have hbl := lt_of_heap h.dev
  have hA : ((W1.alloc (.cells #[.slice (some ⟨c, 0, none⟩) 64 64] 22)).alloc (.cells #[.slice (some ⟨W1.heap.size, 0, none⟩) 1 1, .int .i64 (-1)] 70)).heap[W1.heap.size]? = some (.cells #[.slice (some ⟨c, 0, none⟩) 64 64] 22 (0, 0)) := (((Below.refl _ _).alloc (Nat.le_refl _) _).block _ (by simp)).trans (heapNew W1 _)
  have hC : OwnB ((W1.alloc (.cells #[.slice (some ⟨c, 0, none⟩) 64 64] 22)).alloc (.cells #[.slice (some ⟨W1.heap.size, 0, none⟩) 1 1, .int .i64 (-1)] 70)) c (σ.line j) := (hc.below ((Below.refl _ _).alloc (Nat.le_refl _) _) hc.lt).below ((Below.refl _ _).alloc (Nat.le_refl _) _) (by simp; have := hc.lt; omega)
  have hs1 := hB.size
  have hbs := h.bel.size
  refine ⟨heap_set1 _ b 1 _ _ v' hd4, ownsRow_of_block ho (fun g hg' => heap_set_ne _ _ _ _ _ ?_), fun i hi => ?_, fun i hi => ?_, h.nb, ?_⟩
  · obtain ⟨q, hq⟩ := own_type ho hg'
    exact ne_ty hq hd4 (by decide)
  · have hvl : vals.length = j * 2 := h.own.1
    by_cases e : i = j
    · subst e
      simp only [if_true]
      refine ⟨?_, ?_, (kn _ hs1 (by rw [World.size_alloc, World.size_alloc]; omega) (by omega)).trans hA, hC.of_block (kn _ hcn hC.lt (by omega))⟩
      · rw [List.getElem?_append_right (by omega), hvl]; simp
      · rw [List.getElem?_append_right (by omega), hvl, show i * 2 + 1 - i * 2 = 1 by omega]; rfl
    · obtain ⟨a1, a2, a3, a4⟩ := h.at_ i (by omega)
      simp only [if_neg e]
      exact ⟨by rw [List.getElem?_append_left (by omega)]; exact a1, by rw [List.getElem?_append_left (by omega)]; exact a2, (k5 _ _ _ _ a3 (by decide) (by decide)).trans a3, a4.of_block (k5 _ _ _ _ a4 (by decide) (by decide))⟩
  · by_cases e : i = j
    · subst e
      simp only [if_true]
      exact ⟨by omega, by omega⟩
    · simp only [if_neg e]
      exact h.new i (by omega)
  · refine ⟨hg.os.trans (hB2.os.trans h.bel.os), hg.tape.trans (hB2.tape.trans h.bel.tape), hg.output.trans (hB2.output.trans h.bel.output), ?_, fun k hk => ?_⟩
    · rw [size_set]
      exact Nat.le_trans h.bel.size (Nat.le_trans hB2.size hg.size)
    · have hnb := h.nb
      refine (heap_set_ne W4 b 1 k v' (by omega)).trans ((hg.block k (by have := hB2.size; omega) (fun e => ?_)).trans ((hB2.block k (by omega)).trans (h.bel.block k hk)))
      rcases h.own.2 with ⟨e1, _⟩ | ⟨g', cap, cur, e1, e2, _⟩
      · rw [e1] at e; cases e
      · rw [e1] at e
        have e3 : k = g' := Option.some.inj e
        omega
/-- It is done. -/
theorem RFr.fin {w wr : World} {b m : Nat} {bs : List Nat} {lv : Value} {vals : List Value} {A C : Nat → Nat} (h : RFr w wr b (64 * m) (fromD m bs) m lv vals A C) (hm : 1 ≤ m) : ∃ M, RefL wr b M (rOf (fromD m bs) (fun _ => -1)) ∧ ∀ k, RFoot b M (rOf (fromD m bs) (fun _ => -1)) k → w.heap.size ≤ k := by
  rcases h.own.2 with ⟨_, e⟩ | ⟨lb, lc, cur, rfl, h1, h2, h3, h4, h5, h6⟩
  · omega
  · have hcur : ∀ (q : Nat) (u : Value), vals[q]? = some u → cur[q]? = some u := fun q u hu => by
      have hq := (List.getElem?_eq_some_iff.1 hu).1
      rw [← h6, List.getElem?_take] at hu
      split at hu
      · rwa [Array.getElem?_toList] at hu
      · cases hu
    refine ⟨⟨lb, lc, A, fun _ => 0, fun _ => 1, fun i _ => C i, .slice none 0 0⟩, ⟨h.dev, ⟨cur, h2, fun i hi => ?_⟩, fun i j c hi hc => ?_, fun i hi => ⟨_, (h.at_ i hi).2.2.1⟩⟩, fun k hk => ?_⟩
    · obtain ⟨a1, a2, _⟩ := h.at_ i hi
      exact ⟨hcur _ _ a1, hcur _ _ a2⟩
    · obtain ⟨_, _, a3, a4⟩ := h.at_ i hi
      have hc' : ([(fromD m bs).line i] : List (List Nat))[j]? = some c := hc
      have hj : j = 0 := by
        have := (List.getElem?_eq_some_iff.1 hc').1
        simpa using this
      subst hj
      simp at hc'
      subst hc'
      exact ⟨cell8 a3 0, a4⟩
    · rcases hk with rfl | rfl | ⟨i, hi, rfl⟩ | ⟨i, j, hi, hj, rfl⟩
      · exact h.nb
      · exact h1
      · exact (h.new i hi).1
      · exact (h.new i hi).2
theorem infoLn : ∃ i z, Try.prog.info? 70 = some i ∧ i.zero = some z ∧ z.cells.size = 2 ∧ i.size = 2 ∧ i.bytes = 32 := by
  have h : (Try.prog.info? 70).map (fun i => (i.zero.map (·.cells.size), i.size, i.bytes)) = some (some 2, 2, 32) := by kernel_rfl
  obtain ⟨i, h1, h2⟩ := Option.map_eq_some_iff.1 h
  simp only [Prod.mk.injEq] at h2
  obtain ⟨z, hz, hzs⟩ := Option.map_eq_some_iff.1 h2.1
  exact ⟨i, z, h1, hz, hzs, h2.2.1, h2.2.2⟩
theorem slice_mid (g o d e n cap : Nat) (hd : d + e ≤ n) (he : 1 ≤ e) (hn : n ≤ cap) (hsm : n ≤ 4194304) (w : World) : (Instr.sliceAt 22 (.slice (some ⟨g, o, none⟩) n cap) (some (.int .i64 (d : Int))) (some (.int .i64 ((d : Int) + (e : Int)))) none).run Try.prog w = .ok (.slice (some ⟨g, o + d, none⟩) e (cap - d)) w := by
  obtain ⟨it, h1, h2⟩ := info_of (t := 5) (n := 1) (by kernel_rfl)
  have hu : Try.prog.underlying 22 = some (.slice 5) := by kernel_rfl
  have c1 : (0 : Int) ≤ (d : Int) + (e : Int) ∧ (d : Int) + (e : Int) ≤ (cap : Int) := by omega
  have c2 : (0 : Int) ≤ (d : Int) ∧ (d : Int) ≤ (d : Int) + (e : Int) := by omega
  have e1 : ((d : Int) + (e : Int)).toNat = d + e := by omega
  have e2 : d + e - d = e := by omega
  have e3 : ¬ cap = d := by omega
  simp [Instr.sliceAt, Instr.slice, Sem.run_bind, run_underlying hu, Instr.sliceBounds, Instr.sliceBound, asIntOf, sizeOf, typeInfo, h1, h2, Addr.add_mid, c1, c2, e1, e2, e3]
set_option maxRecDepth 100000 in
set_option maxHeartbeats 2000000 in
theorem rfrom_any (w : World) (ab ao N cap m : Nat) (bs : List Nat) (hs : Seg w ab ao bs) (hab : ab < w.heap.size) (hNl : bs.length = N) (hNm : N = 64 * m) (h1 : 1 ≤ m) (h2 : m ≤ 65536) (hb : ∀ x ∈ bs, x < 256) (hnc : N ≤ cap) :
    Calls Try.prog 7 #[.slice (some ⟨ab, ao, none⟩) N cap] w fun e w' => ∃ b M, e = .returned (.tuple #[.pointer (some ⟨b, 0, none⟩), .int .i64 0]) ∧ RefL w' b M (rOf (fromD m bs) (fun _ => -1)) ∧ (∀ k, RFoot b M (rOf (fromD m bs) (fun _ => -1)) k → w.heap.size ≤ k) ∧ Below w.heap.size w w' := by
  obtain ⟨it, z, hit, hz, hzs, hz2, hz32⟩ := infoLn
  have hok := fromD_ok h1 h2 (hNl.trans hNm) hb
  have kf : Calls Try.prog 24 #[.int .i64 (N : Int)] w fun e w' => e = .returned (.bool true) ∧ w' = w := (rfits_any (N : Int) w (by omega) (by omega)).mono fun e w' ⟨h3, h4⟩ => ⟨h3.elim (fun q => q.2) (fun q => absurd ⟨by omega, by omega, by omega⟩ q.1), h4⟩
  have hA : Below w.heap.size w (w.alloc (.cells #[.int .i64 (N : Int), .slice none 0 0, .int .i64 0, .slice none 0 0, .int .i64 0, .bool false] 67)) := (Below.refl _ w).alloc (Nat.le_refl _) _
  have hfr : RFr w (w.alloc (.cells #[.int .i64 (N : Int), .slice none 0 0, .int .i64 0, .slice none 0 0, .int .i64 0, .bool false] 67)) w.heap.size N (fromD m bs) 0 (.slice none 0 0) [] (fun _ => 0) (fun _ => 0) := ⟨heapNew w _, ⟨rfl, .inl ⟨rfl, rfl⟩⟩, fun i hi => by omega, fun i hi => by omega, Nat.le_refl _, hA⟩
  have KF := hide kf
  have HFR := hide hfr
  have HOK := hide hok
  have HS := hide hs
  have HAB := hide hab
  have HNL := hide hNl
  have HNM := hide hNm
  have HNC := hide hnc
  have H1 := hide h1
  have hN4 : N ≤ 4194304 := by omega
  have mI : (m : Int) ≤ 65536 := by omega
  clear kf hfr hok hs hab hNl hNm hnc hb h1 h2 hA
  go_enter Try.func7, Try.ntmps7
  go_wp2_with (go_at_call 24; refine (KF.out).mono ?_; rintro e w' ⟨rfl, hw⟩; obtain rfl := hw.symm)
  obtain ⟨b, hb⟩ : ∃ b, w.heap.size = b := ⟨_, rfl⟩
  rw [hb] at HFR ⊢
  have HBB := hide hb
  clear hb
  try go_frame
  go_loopw [5] (fun iv wr => ∃ (j : Nat) (lv : Value) (vals : List Value) (A C : Nat → Nat), iv = .int .i64 ((64 * j : Nat) : Int) ∧ j ≤ m ∧ RFr w wr b N (fromD m bs) j lv vals A C) (fun iv _ => (64 * m - (intOf iv).toNat))
  case atStart => exact ⟨0, _, _, _, _, rfl, Nat.zero_le _, HFR.out⟩
  case round =>
    obtain ⟨j, lv, vals, A, C, rfl, hj, hF⟩ := hrel
    have hNm := HNM.out
    by_cases hlt : j < m
    · obtain ⟨p, hp⟩ : ∃ p, p = 64 * j := ⟨_, rfl⟩
      rw [← hp]
      have pI : (p : Int) < (N : Int) := by omega
      obtain ⟨la, lc, hlv⟩ := own_slice hF.own
      have c1 : wr.cell? ⟨b, 1, none⟩ = some (.slice la j lc) := by rw [← hlv]; exact cell8 hF.dev 1
      have hbl := lt_of_heap hF.dev
      have hll := line_len HOK.out (show j < (fromD m bs).n from hlt)
      have hbw : ab < wr.heap.size := Nat.lt_of_lt_of_le HAB.out hF.bel.size
      have hsw : Sl wr.drew (some ⟨ab, ao + p, none⟩) ((fromD m bs).line j) := .inr ⟨ab, ao + p, rfl, hbw, fun q x hx => by
        unfold St.line at hx
        rw [List.getElem?_take] at hx
        split at hx
        · rw [List.getElem?_drop, ← hp] at hx
          have h5 := HS.out _ _ hx
          rw [Nat.add_assoc]
          refine ⟨(World.cell?_of_block (a := ⟨ab, ao + (p + q), none⟩) ?_).trans h5.1, h5.2⟩
          exact hF.bel.block ab HAB.out
        · cases hx⟩
      have kc := copyBytes_any (some ⟨ab, ao + p, none⟩) (cap - p) ((fromD m bs).line j) wr.drew hsw (by rw [hll]; omega)
      rw [hll] at kc
      have hncc := HNC.out
      have SL : Hid (∀ X, (Instr.sliceAt 22 (.slice (some ⟨ab, ao, none⟩) N cap) (some (.int .i64 (p : Int))) (some (.int .i64 ((p : Int) + 64))) none).run Try.prog X = .ok (.slice (some ⟨ab, ao + p, none⟩) 64 (cap - p)) X) := fun X => slice_mid ab ao p 64 N cap (by omega) (by omega) hncc hN4 X
      have WM : Hid (IntKind.i64.wrap ((p : Int) + 64) = (p : Int) + 64) := by show IntKind.i64.wrap _ = _; rw [IntKind.wrap_i64]; omega
      have s0 : wr.drew.cell? ⟨b, 1, none⟩ = some (.slice la j lc) := c1
      have KC := hide kc
      have S0 := hide s0
      have HF := hide hF
      have HLV := hide hlv
      have HP := hide hp
      have hj5 : j ≤ 65536 := by omega
      clear kc s0 hsw hll hncc hbw hlv hp hF hNm
      go_wp2_with (fail)
      try go_frame
      refine wp_region_early 17 (fun X => X.cell? ⟨b, 1, none⟩ = some (.slice la j lc)) (by kernel_rfl) S0.out (fun hS => ?_)
      refine wpAnyE_take (i := 0) (v := (Value.pointer (some ⟨b, 0, none⟩))) rfl (by kernel_rfl) (by kernel_rfl) (by kernel_rfl) (by kernel_rfl) (fun _ _ _ h => h) (Or.inl ⟨by kernel_rfl, fun w' hw => by (go_simp)⟩) hS ?_
      refine wpAnyE_take (i := 1) (v := (Value.pointer (some ⟨b, 0, none⟩))) rfl (by kernel_rfl) (by kernel_rfl) (by kernel_rfl) (by kernel_rfl) (fun _ _ _ h => h) (Or.inl ⟨by kernel_rfl, fun w' hw => by (go_simp)⟩) hS ?_
      refine wpAnyE_take (i := 2) (v := (Value.pointer (some ⟨b, 0, none⟩))) rfl (by kernel_rfl) (by kernel_rfl) (by kernel_rfl) (by kernel_rfl) (fun _ _ _ h => h) (Or.inl ⟨by kernel_rfl, fun w' hw => by (go_simp)⟩) hS ?_
      refine wpAnyE_take (i := 3) (v := (Value.pointer (some ⟨b, 1, none⟩))) rfl (by kernel_rfl) (by kernel_rfl) (by kernel_rfl) (by kernel_rfl) (fun _ _ _ h => h) (Or.inl ⟨by kernel_rfl, fun w' hw => by (go_simp)⟩) hS ?_
      refine wpAnyE_take (i := 4) (v := (Value.slice la j lc)) rfl (by kernel_rfl) (by kernel_rfl) (by kernel_rfl) (by kernel_rfl) (fun _ _ _ h => h) (Or.inl ⟨by kernel_rfl, fun w' hw => by (go_simp)⟩) hS ?_
      refine wpAnyE_take (i := 5) (v := (Value.slice (some ⟨ab, ao, none⟩) N cap)) rfl (by kernel_rfl) (by kernel_rfl) (by kernel_rfl) (by kernel_rfl) (fun _ _ _ h => h) (Or.inl ⟨by kernel_rfl, fun w' hw => by (go_simp)⟩) hS ?_
      refine wpAnyE_take (i := 6) (v := (Value.int .i64 (p : Int))) rfl (by kernel_rfl) (by kernel_rfl) (by kernel_rfl) (by kernel_rfl) (fun _ _ _ h => h) (Or.inl ⟨by kernel_rfl, fun w' hw => by (go_simp)⟩) hS ?_
      refine wpAnyE_take (i := 7) (v := (Value.int .i64 (p : Int))) rfl (by kernel_rfl) (by kernel_rfl) (by kernel_rfl) (by kernel_rfl) (fun _ _ _ h => h) (Or.inl ⟨by kernel_rfl, fun w' hw => by (go_simp)⟩) hS ?_
      refine wpAnyE_take (i := 8) (v := (Value.int .i64 ((p : Int) + 64))) rfl (by kernel_rfl) (by kernel_rfl) (by kernel_rfl) (by kernel_rfl) (fun _ _ _ h => h) (Or.inl ⟨by kernel_rfl, fun w' hw => by (have wm := WM.out; go_simp)⟩) hS ?_
      refine wpAnyE_take (i := 9) (v := (Value.slice (some ⟨ab, ao + p, none⟩) 64 (cap - p))) rfl (by kernel_rfl) (by kernel_rfl) (by kernel_rfl) (by kernel_rfl) (fun _ _ _ h => h) (Or.inl ⟨by kernel_rfl, fun w' hw => by (have e := SL.out w'; go_simp)⟩) hS ?_
      refine wpAnyE_do (i := 10) (by kernel_rfl) rfl (by kernel_rfl) (fun K hK => ?_)
      go_wp2_with (go_at_call 6; refine (KC.out).mono ?_; rintro e W1 ⟨rfl, ho1, hb1⟩; replace ho1 : OwnB W1 wr.heap.size ((fromD m bs).line j) := ho1; have HO1 := hide ho1; have HB1 := hide (bseq (Below.refl _ wr).drew hb1 : Below wr.heap.size wr W1); clear ho1 hb1)
      have s1 : W1.cell? ⟨b, 1, none⟩ = some (.slice la j lc) := (HB1.out.cell hbl).trans S0.out
      refine hK.out _ _ (fun _ => s1) ?_
      clear hK K
      refine wpAnyE_do (i := 11) (by kernel_rfl) rfl (by kernel_rfl) (fun K hK => ?_)
      go_wp2_with (fail)
      have hB2 : Below W1.heap.size W1 (W1.alloc (.cells #[.slice (some ⟨wr.heap.size, 0, none⟩) 64 64] 22)) := (Below.refl _ _).alloc (Nat.le_refl _) _
      have hbl1 : b < W1.heap.size := Nat.lt_of_lt_of_le hbl HB1.out.size
      have s2 := (hB2.cell (p := ⟨b, 1, none⟩) hbl1).trans s1
      refine hK.out _ _ (fun _ => s2) ?_
      clear hK K
      refine wpAnyE_take (i := 12) (v := (Value.agg #[.slice (some ⟨W1.heap.size, 0, none⟩) 1 1, .int .i64 (-1)])) rfl (by kernel_rfl) (by kernel_rfl) (by kernel_rfl) (by kernel_rfl) (fun _ _ _ h => h) (Or.inl ⟨by kernel_rfl, fun w' hw => by (go_simp)⟩) s2 ?_
      refine wpAnyE_do (i := 13) (by kernel_rfl) rfl (by kernel_rfl) (fun K hK => ?_)
      go_wp2_with (fail)
      have hB3 : Below (W1.alloc (.cells #[.slice (some ⟨wr.heap.size, 0, none⟩) 64 64] 22)).heap.size (W1.alloc (.cells #[.slice (some ⟨wr.heap.size, 0, none⟩) 64 64] 22)) ((W1.alloc (.cells #[.slice (some ⟨wr.heap.size, 0, none⟩) 64 64] 22)).alloc (.cells #[.slice (some ⟨W1.heap.size, 0, none⟩) 1 1, .int .i64 (-1)] 70)) := (Below.refl _ _).alloc (Nat.le_refl _) _
      have s3 := (hB3.cell (p := ⟨b, 1, none⟩) (by rw [World.size_alloc]; show b < _; omega)).trans s2
      have hB13 : Below wr.heap.size wr ((W1.alloc (.cells #[.slice (some ⟨wr.heap.size, 0, none⟩) 64 64] 22)).alloc (.cells #[.slice (some ⟨W1.heap.size, 0, none⟩) 1 1, .int .i64 (-1)] 70)) := bseq HB1.out (hB2.trans (hB3.mono (by rw [World.size_alloc]; omega)))
      have hd3 := (hB13.block b hbl).trans HF.out.dev
      have hown3 : (((W1.alloc (.cells #[.slice (some ⟨wr.heap.size, 0, none⟩) 64 64] 22)).alloc (.cells #[.slice (some ⟨W1.heap.size, 0, none⟩) 1 1, .int .i64 (-1)] 70))).ownsRow w.heap.size 70 2 (.slice la j lc) j vals := by
        rw [← HLV.out]
        refine ownsRow_of_block HF.out.own (fun g hg => ?_)
        obtain ⟨q, hq⟩ := own_type HF.out.own hg
        exact hB13.block g (lt_of_heap hq)
      have hn3 : ∀ (q : Nat) (u : Value), ([Value.slice (some ⟨W1.heap.size, 0, none⟩) 1 1, .int .i64 (-1)] : List Value)[q]? = some u → (((W1.alloc (.cells #[.slice (some ⟨wr.heap.size, 0, none⟩) 64 64] 22)).alloc (.cells #[.slice (some ⟨W1.heap.size, 0, none⟩) 1 1, .int .i64 (-1)] 70))).cell? ((⟨W1.heap.size + 1, 0, none⟩ : Addr).add q) = some u := fun q u hu => by
        have h5 := heapNew (W1.alloc (.cells #[.slice (some ⟨wr.heap.size, 0, none⟩) 64 64] 22)) (.cells #[.slice (some ⟨W1.heap.size, 0, none⟩) 1 1, .int .i64 (-1)] 70)
        rw [World.size_alloc] at h5
        rw [Addr.add_mid, Nat.zero_add]
        exact (cell8 h5 q).trans (by rw [List.getElem?_toArray]; exact hu)
      refine hK.out _ _ (fun _ => s3) ?_
      clear hK K
      refine wpAnyE_do (i := 14) (by kernel_rfl) rfl (by kernel_rfl) (fun K hK => ?_)
      refine wp_append_at (.tmp 24) (.tmp 33) 65 (by kernel_rfl) w.heap.size 70 it z 2 32 Try.underlying65 hit hz hz2 hz32 hzs (by decide) (.slice la j lc) j vals (by kernel_rfl) hown3 ⟨W1.heap.size + 1, 0, none⟩ 1 1 [.slice (some ⟨W1.heap.size, 0, none⟩) 1 1, .int .i64 (-1)] (by kernel_rfl) rfl hn3 (by simp [Value.oneCell']) (by unfold maxLen; omega) (by omega) (Nat.le_trans HF.out.bel.size hB13.size) ?_
      intro v4 W4 ho4 hg4 _ _
      obtain ⟨va, vc, rfl⟩ := own_slice ho4
      have hd4 : W4.heap[b]? = _ := (hg4.block b (Nat.lt_of_lt_of_le hbl hB13.size) (fun e => by
        obtain ⟨q, hq⟩ := own_type hown3 e.symm
        exact ne_ty hq hd3 (by decide) rfl)).trans hd3
      have s4 : W4.cell? ⟨b, 1, none⟩ = some (.slice la j lc) := by rw [← HLV.out]; exact cell8 hd4 1
      have f4 := froz8 hd4 1
      have HO4 := hide ho4
      have HG4 := hide hg4
      refine hK.out _ _ (fun _ => s4) ?_
      clear hK K ho4 hg4 hd4 hown3 hn3 hd3 hB13 hB3 s3 s2 hB2
      refine wpAnyE_do (i := 15) (by kernel_rfl) rfl (by kernel_rfl) (fun K hK => ?_)
      go_wp2_with (fail)
      refine hK.out _ _ (fun _ => s4) ?_
      clear hK K
      refine wpAnyE_take (i := 16) (v := (Value.pointer (some ⟨b, 1, none⟩))) rfl (by kernel_rfl) (by kernel_rfl) (by kernel_rfl) (by kernel_rfl) (fun _ _ _ h => h) (Or.inl ⟨by kernel_rfl, fun w' hw => by (go_simp)⟩) s4 ?_
      refine wpAnyE_last (by kernel_rfl) rfl (by kernel_rfl) (by kernel_rfl) (fun K hK => ?_)
      go_wp2_with (fail)
      refine hK.out _ _ ?_
      clear hK K
      go_wp2_with (fail)
      go_roundw
      case rel => exact ⟨j + 1, _, _, _, _, int_congrP (by have := HP.out; omega), by omega, RFr.step HF.out HB1.out HO1.out (Nat.le_refl _) (by rw [HLV.out]; exact HG4.out) HO4.out⟩
      case measure =>
        have := HNM.out
        simp [intOf]
        omega
    · have hjm : j = m := by omega
      subst hjm
      have jI : ¬ ((64 * j : Nat) : Int) < (N : Int) := by omega
      rw [hNm] at hF
      obtain ⟨M, hM, hf⟩ := hF.fin H1.out
      have HM := hide hM
      have HFF := hide hf
      have HBL := hide hF.bel
      clear hF hM hf hNm
      go_wp2
      go_ret2
      exact ⟨b, rfl, M, HM.out, HFF.out, HBL.out⟩
end Go.Proofs.Ytmlhibkofalamaa
namespace Go.Proofs.Ytmlhibkofalamaa
open Go.RowKit Go.Shelf
set_option linter.unusedVariables false

/-- One line has one content, its first. -/
def RSt.one (ρ : RSt) (i : Nat) (c : List Nat) : RSt := { ρ with con := fun k => if k = i then [c] else ρ.con k, mark := fun k => if k = i then -1 else ρ.mark k }
def RLay.one (M : RLay) (i g : Nat) : RLay := { M with ab := fun k => if k = i then g else M.ab k, ao := fun k => if k = i then 0 else M.ao k, ac := fun k => if k = i then 1 else M.ac k, cb := fun k j => if k = i then M.cb i 0 else M.cb k j }
theorem RefL.one {w : World} {b i : Nat} {M : RLay} {ρ : RSt} {c : List Nat} (h : RefL w b M ρ) (hi : i < ρ.n) (hc : (ρ.con i)[0]? = some c) :
    RefL ((w.alloc (.cells #[.slice (some ⟨M.cb i 0, 0, none⟩) 64 64] 22)).setCells M.lb (i * 2) [.slice (some ⟨w.heap.size, 0, none⟩) 1 1, .int .i64 (-1)]) b (M.one i w.heap.size) (ρ.one i c) := by
  have hA : Below w.heap.size w (w.alloc (.cells #[.slice (some ⟨M.cb i 0, 0, none⟩) 64 64] 22)) := (Below.refl _ w).alloc (Nat.le_refl _) _
  have h1 := h.below hA
  obtain ⟨cur, hr, hr2⟩ := h1.row
  have hcl : cur = cur.toList.toArray := by simp
  have hsz : i * 2 + 1 < cur.toList.length := by
    have := (Array.getElem?_eq_some_iff.1 (hr2 i hi).2).1
    simpa using this
  have kt : ∀ (k : Nat) (q : Array Value) (t : TypeId) (f : Nat × Nat), (w.alloc (.cells #[.slice (some ⟨M.cb i 0, 0, none⟩) 64 64] 22)).heap[k]? = some (.cells q t f) → t ≠ 70 → ((w.alloc (.cells #[.slice (some ⟨M.cb i 0, 0, none⟩) 64 64] 22)).setCells M.lb (i * 2) [.slice (some ⟨w.heap.size, 0, none⟩) 1 1, .int .i64 (-1)]).heap[k]? = (w.alloc (.cells #[.slice (some ⟨M.cb i 0, 0, none⟩) 64 64] 22)).heap[k]? := fun k q t f hk ht => heap_setCells_ne _ _ _ _ _ (ne_ty hk hr ht)
  have hnew := heapNew w (.cells #[.slice (some ⟨M.cb i 0, 0, none⟩) 64 64] 22)
  refine ⟨(kt _ _ _ _ h1.dev (by decide)).trans h1.dev, ?_, fun k j c' hk hc' => ?_, fun k hk => ?_⟩
  · rw [hcl] at hr
    refine ⟨_, heap_setCells M.lb _ [.slice (some ⟨w.heap.size, 0, none⟩) 1 1, .int .i64 (-1)] (i * 2) _ cur.toList hr (by simp; simp at hsz; omega), fun k hk => ?_⟩
    have hg : ∀ q, (splice cur.toList (i * 2) [Value.slice (some ⟨w.heap.size, 0, none⟩) 1 1, .int .i64 (-1)])[q]? = if q < i * 2 then cur.toList[q]? else if q < i * 2 + 2 then [Value.slice (some ⟨w.heap.size, 0, none⟩) 1 1, .int .i64 (-1)][q - i * 2]? else cur.toList[q]? := fun q => by
      unfold splice
      by_cases q1 : q < i * 2
      · rw [if_pos q1, List.getElem?_append_left (by rw [List.length_take]; omega), List.getElem?_take, if_pos q1]
      · rw [if_neg q1, List.getElem?_append_right (by rw [List.length_take]; omega), List.length_take, Nat.min_eq_left (by omega)]
        by_cases q2 : q < i * 2 + 2
        · rw [if_pos q2, List.getElem?_append_left (by simp; omega)]
        · rw [if_neg q2, List.getElem?_append_right (by simp; omega), List.getElem?_drop]
          have e9 : i * 2 + 2 + (q - i * 2 - 2) = q := by omega
          exact congrArg (fun z => cur.toList[z]?) e9
    rw [List.getElem?_toArray, List.getElem?_toArray, hg, hg]
    by_cases e : k = i
    · subst e
      rw [if_neg (by omega), if_pos (by omega), if_neg (by omega), if_pos (by omega)]
      simp [RLay.one, RSt.one]
    · have h5 := hr2 k hk
      rw [← Array.getElem?_toList, ← Array.getElem?_toList] at h5
      simp only [RLay.one, RSt.one, if_neg e]
      refine ⟨?_, ?_⟩
      · split
        · exact h5.1
        · rw [if_neg (by omega)]; exact h5.1
      · split
        · exact h5.2
        · rw [if_neg (by omega)]; exact h5.2
  · by_cases e : k = i
    · subst e
      simp only [RSt.one, if_true] at hc'
      have hj : j = 0 := by
        have := (List.getElem?_eq_some_iff.1 hc').1
        simpa using this
      subst hj
      simp at hc'
      subst hc'
      obtain ⟨a1, a2⟩ := h1.all k 0 _ hk hc
      simp only [RLay.one, if_true]
      exact ⟨(World.cell?_of_block (a := ⟨w.heap.size, 0 + 0, none⟩) (kt _ _ _ _ hnew (by decide))).trans (cell8 hnew 0), a2.of_block (kt _ _ _ _ a2 (by decide))⟩
    · simp only [RSt.one, if_neg e] at hc'
      obtain ⟨a1, a2⟩ := h1.all k j c' hk hc'
      obtain ⟨q, hq⟩ := h1.ty k hk
      simp only [RLay.one, if_neg e]
      exact ⟨(World.cell?_of_block (a := ⟨M.ab k, M.ao k + j, none⟩) (kt _ _ _ _ hq (by decide))).trans a1, a2.of_block (kt _ _ _ _ a2 (by decide))⟩
  · by_cases e : k = i
    · subst e
      simp only [RLay.one, if_true]
      exact ⟨_, (kt _ _ _ _ hnew (by decide)).trans hnew⟩
    · obtain ⟨q, hq⟩ := h1.ty k hk
      simp only [RLay.one, if_neg e]
      exact ⟨q, (kt _ _ _ _ hq (by decide)).trans hq⟩
/-- While the power goes: the first lines have one content. -/
def RSt.upto (ρ : RSt) (j : Nat) : RSt := { ρ with con := fun k => if k < j then (ρ.con k).take 1 else ρ.con k, mark := fun k => if k < j then -1 else ρ.mark k }
theorem upto_zero (ρ : RSt) : ρ.upto 0 = ρ := by simp [RSt.upto]
theorem upto_next (ρ : RSt) (j : Nat) (c : List Nat) (hc : (ρ.con j)[0]? = some c) : (ρ.upto j).one j c = ρ.upto (j + 1) := by
  have e : (ρ.con j).take 1 = [c] := by
    cases h : ρ.con j with
    | nil => rw [h] at hc; cases hc
    | cons x l => rw [h] at hc; simp at hc; simp [hc]
  unfold RSt.one RSt.upto
  congr 1
  · funext k
    by_cases h1 : k = j
    · subst h1
      simp [e]
    · by_cases h2 : k < j
      · simp [h1, h2, show k < j + 1 by omega]
      · simp [h1, h2, show ¬ k < j + 1 by omega]
  · funext k
    by_cases h1 : k = j
    · subst h1
      simp
    · by_cases h2 : k < j
      · simp [h1, h2, show k < j + 1 by omega]
      · simp [h1, h2, show ¬ k < j + 1 by omega]
/-- Behind a loss of power. -/
def RSt.lost0 (ρ : RSt) : RSt := { ρ.upto ρ.n with gone := true }
theorem RefL.re {w w' : World} {b : Nat} {M : RLay} {ρ : RSt} {g : Bool} (h : RefL w b M ρ) (hd : w'.heap[b]? = some (.cells (refC M { ρ with gone := g }) 67 (0, 0))) (hk : ∀ k, k ≠ b → k < w.heap.size → w'.heap[k]? = w.heap[k]?) : RefL w' b M { ρ with gone := g } := by
  obtain ⟨cur, hr, hr2⟩ := h.row
  refine ⟨hd, ⟨cur, (hk _ (ne_ty hr h.dev (by decide)) (lt_of_heap hr)).trans hr, hr2⟩, fun i j c hi hc => ?_, fun i hi => ?_⟩
  · obtain ⟨a1, a2⟩ := h.all i j c hi hc
    obtain ⟨q, hq⟩ := h.ty i hi
    exact ⟨(World.cell?_of_block (a := ⟨M.ab i, M.ao i + j, none⟩) (hk _ (ne_ty hq h.dev (by decide)) (lt_of_heap hq))).trans a1, a2.of_block (hk _ (ne_ty a2 h.dev (by decide)) a2.lt)⟩
  · obtain ⟨q, hq⟩ := h.ty i hi
    exact ⟨q, (hk _ (ne_ty hq h.dev (by decide)) (lt_of_heap hq)).trans hq⟩
set_option maxRecDepth 100000 in
set_option maxHeartbeats 2000000 in
theorem rgoes_nil {w : World} {b : Nat} {M : RLay} {ρ : RSt} (h : RefL w b M ρ) (hok : ρ.Ok) : Calls Try.prog 40 #[.pointer (some ⟨b, 0, none⟩), .slice none 0 0] w fun e w' => e = .returned (.tuple #[]) ∧ ∃ M', (RefL w' b M' ρ.lost0 ∧ M'.lb = M.lb) ∧ Gr (fun k => k = b ∨ k = M.lb) w w' := by
  have HR := hide h
  have HOK := hide hok
  have hmx := hok.max
  clear h hok
  go_enter Try.func40, Try.ntmps40
  go_wp2
  go_loopw [4] (fun iv wr => ∃ (j : Nat) (M' : RLay), iv = .int .i64 (j : Int) ∧ j ≤ ρ.n ∧ RefL wr b M' (ρ.upto j) ∧ M'.lb = M.lb ∧ Gr (fun k => k = b ∨ k = M.lb) w wr) (fun iv _ => (ρ.n - (intOf iv).toNat))
  case atStart => exact ⟨0, M, rfl, Nat.zero_le _, by rw [upto_zero]; exact HR.out, rfl, Gr.refl _ _⟩
  case round =>
    obtain ⟨j, M', rfl, hj, hR, hlb, hgr⟩ := hrel
    have c1 : wr.cell? ⟨b, 1, none⟩ = some (.slice (some ⟨M'.lb, 0, none⟩) ρ.n M'.lc) := hR.c 1
    by_cases hlt : j < ρ.n
    · have jI : (j : Int) < (ρ.n : Int) := by omega
      have j0 : ¬ (j : Int) < 0 := by omega
      obtain ⟨c, hc⟩ : ∃ c, (ρ.con j)[0]? = some c := ⟨_, List.getElem?_eq_getElem (List.length_pos_iff.2 (HOK.out.ne j hlt))⟩
      have hcon : (ρ.upto j).con j = ρ.con j := by simp [RSt.upto]
      have hl := hR.line (i := j) hlt
      rw [hcon] at hl
      have hfew := HOK.out.few j hlt
      have hpos := List.length_pos_iff.2 (HOK.out.ne j hlt)
      generalize hq : (ρ.con j).length = q at *
      have hall := (hR.all j 0 c hlt (by rw [hcon]; exact hc)).1
      rw [Nat.add_zero] at hall
      have L0 := hide (fun X => index_rline M'.lb j ρ.n M'.lc hlt X)
      have l1 := fun X => index_rrow (M'.ab j) (M'.ao j) 0 q (M'.ac j) hpos X
      simp only [Nat.add_zero, Int.ofNat_zero] at l1
      have L1 := hide l1
      have s0 : wr.drew.cell? ⟨b, 1, none⟩ = some (.slice (some ⟨M'.lb, 0, none⟩) ρ.n M'.lc) ∧ wr.drew.cell? ⟨M'.lb, j * 2, none⟩ = some (.slice (some ⟨M'.ab j, M'.ao j, none⟩) q (M'.ac j)) ∧ wr.drew.cell? ⟨M'.ab j, M'.ao j, none⟩ = some (.slice (some ⟨M'.cb j 0, 0, none⟩) 64 64) := ⟨c1, hl, hall⟩
      have hone := hR.one (i := j) (c := c) hlt (by rw [hcon]; exact hc)
      rw [upto_next ρ j c hc] at hone
      obtain ⟨cur, hrow, hrow2⟩ := hR.row
      have hsz : j * 2 + 1 < cur.size := (Array.getElem?_eq_some_iff.1 (hrow2 j hlt).2).1
      have S0 := hide s0
      have HONE := hide hone
      have HROW := hide hrow
      have HGR := hide hgr
      have HLB := hide hlb
      have hbl := lt_of_heap hR.dev
      have hll := lt_of_heap hrow
      have hal := World.block_lt_of_cell? _ _ hall
      clear s0 hone hrow hrow2 hR hlb hgr hl hall l1 hc hcon hq
      go_wp2_with (fail)
      try go_frame
      refine wp_region_early 19 (fun X => X.cell? ⟨b, 1, none⟩ = some (.slice (some ⟨M'.lb, 0, none⟩) ρ.n M'.lc) ∧ X.cell? ⟨M'.lb, j * 2, none⟩ = some (.slice (some ⟨M'.ab j, M'.ao j, none⟩) q (M'.ac j)) ∧ X.cell? ⟨M'.ab j, M'.ao j, none⟩ = some (.slice (some ⟨M'.cb j 0, 0, none⟩) 64 64)) (by kernel_rfl) S0.out (fun hS => ?_)
      refine wpAnyE_take (i := 0) (v := (Value.pointer (some ⟨b, 0, none⟩))) rfl (by kernel_rfl) (by kernel_rfl) (by kernel_rfl) (by kernel_rfl) (fun _ _ _ h => h) (Or.inl ⟨by kernel_rfl, fun w' hw => by (go_simp)⟩) hS ?_
      refine wpAnyE_take (i := 1) (v := (Value.pointer (some ⟨b, 0, none⟩))) rfl (by kernel_rfl) (by kernel_rfl) (by kernel_rfl) (by kernel_rfl) (fun _ _ _ h => h) (Or.inl ⟨by kernel_rfl, fun w' hw => by (go_simp)⟩) hS ?_
      refine wpAnyE_take (i := 2) (v := (Value.pointer (some ⟨b, 1, none⟩))) rfl (by kernel_rfl) (by kernel_rfl) (by kernel_rfl) (by kernel_rfl) (fun _ _ _ h => h) (Or.inl ⟨by kernel_rfl, fun w' hw => by (go_simp)⟩) hS ?_
      refine wpAnyE_take (i := 3) (v := (Value.slice (some ⟨M'.lb, 0, none⟩) ρ.n M'.lc)) rfl (by kernel_rfl) (by kernel_rfl) (by kernel_rfl) (by kernel_rfl) (fun _ _ _ h => h) (Or.inl ⟨by kernel_rfl, fun w' hw => by (obtain ⟨z0, z1, z2⟩ := hw; go_simp)⟩) hS ?_
      refine wpAnyE_take (i := 4) (v := (Value.int .i64 (j : Int))) rfl (by kernel_rfl) (by kernel_rfl) (by kernel_rfl) (by kernel_rfl) (fun _ _ _ h => h) (Or.inl ⟨by kernel_rfl, fun w' hw => by (go_simp)⟩) hS ?_
      refine wpAnyE_take (i := 5) (v := (Value.pointer (some ⟨b, 0, none⟩))) rfl (by kernel_rfl) (by kernel_rfl) (by kernel_rfl) (by kernel_rfl) (fun _ _ _ h => h) (Or.inl ⟨by kernel_rfl, fun w' hw => by (go_simp)⟩) hS ?_
      refine wpAnyE_take (i := 6) (v := (Value.pointer (some ⟨b, 0, none⟩))) rfl (by kernel_rfl) (by kernel_rfl) (by kernel_rfl) (by kernel_rfl) (fun _ _ _ h => h) (Or.inl ⟨by kernel_rfl, fun w' hw => by (go_simp)⟩) hS ?_
      refine wpAnyE_take (i := 7) (v := (Value.pointer (some ⟨b, 1, none⟩))) rfl (by kernel_rfl) (by kernel_rfl) (by kernel_rfl) (by kernel_rfl) (fun _ _ _ h => h) (Or.inl ⟨by kernel_rfl, fun w' hw => by (go_simp)⟩) hS ?_
      refine wpAnyE_take (i := 8) (v := (Value.slice (some ⟨M'.lb, 0, none⟩) ρ.n M'.lc)) rfl (by kernel_rfl) (by kernel_rfl) (by kernel_rfl) (by kernel_rfl) (fun _ _ _ h => h) (Or.inl ⟨by kernel_rfl, fun w' hw => by (obtain ⟨z0, z1, z2⟩ := hw; go_simp)⟩) hS ?_
      refine wpAnyE_take (i := 9) (v := (Value.int .i64 (j : Int))) rfl (by kernel_rfl) (by kernel_rfl) (by kernel_rfl) (by kernel_rfl) (fun _ _ _ h => h) (Or.inl ⟨by kernel_rfl, fun w' hw => by (go_simp)⟩) hS ?_
      refine wpAnyE_take (i := 10) (v := (Value.pointer (some ⟨M'.lb, j * 2, none⟩))) rfl (by kernel_rfl) (by kernel_rfl) (by kernel_rfl) (by kernel_rfl) (fun _ _ _ h => h) (Or.inl ⟨by kernel_rfl, fun w' hw => by (have e := L0.out w'; go_simp)⟩) hS ?_
      refine wpAnyE_take (i := 11) (v := (Value.pointer (some ⟨M'.lb, j * 2, none⟩))) rfl (by kernel_rfl) (by kernel_rfl) (by kernel_rfl) (by kernel_rfl) (fun _ _ _ h => h) (Or.inl ⟨by kernel_rfl, fun w' hw => by (go_simp)⟩) hS ?_
      refine wpAnyE_take (i := 12) (v := (Value.slice (some ⟨M'.ab j, M'.ao j, none⟩) q (M'.ac j))) rfl (by kernel_rfl) (by kernel_rfl) (by kernel_rfl) (by kernel_rfl) (fun _ _ _ h => h) (Or.inl ⟨by kernel_rfl, fun w' hw => by (obtain ⟨z0, z1, z2⟩ := hw; go_simp)⟩) hS ?_
      refine wpAnyE_take (i := 13) (v := (Value.int .i64 0)) rfl (by kernel_rfl) (by kernel_rfl) (by kernel_rfl) (by kernel_rfl) (fun _ _ _ h => h) (Or.inl ⟨by kernel_rfl, fun w' hw => by (go_simp)⟩) hS ?_
      refine wpAnyE_take (i := 14) (v := (Value.pointer (some ⟨M'.ab j, M'.ao j, none⟩))) rfl (by kernel_rfl) (by kernel_rfl) (by kernel_rfl) (by kernel_rfl) (fun _ _ _ h => h) (Or.inl ⟨by kernel_rfl, fun w' hw => by (have e := L1.out w'; go_simp)⟩) hS ?_
      refine wpAnyE_take (i := 15) (v := (Value.slice (some ⟨M'.cb j 0, 0, none⟩) 64 64)) rfl (by kernel_rfl) (by kernel_rfl) (by kernel_rfl) (by kernel_rfl) (fun _ _ _ h => h) (Or.inl ⟨by kernel_rfl, fun w' hw => by (obtain ⟨z0, z1, z2⟩ := hw; go_simp)⟩) hS ?_
      refine wpAnyE_do (i := 16) (by kernel_rfl) rfl (by kernel_rfl) (fun K hK => ?_)
      go_wp2_with (fail)
      have hB2 : Below wr.heap.size wr (wr.alloc (.cells #[.slice (some ⟨M'.cb j 0, 0, none⟩) 64 64] 22)).drew := ((Below.refl _ _).alloc (Nat.le_refl _) _).drew
      have s2 : (wr.alloc (.cells #[.slice (some ⟨M'.cb j 0, 0, none⟩) 64 64] 22)).drew.cell? ⟨b, 1, none⟩ = some (.slice (some ⟨M'.lb, 0, none⟩) ρ.n M'.lc) ∧ (wr.alloc (.cells #[.slice (some ⟨M'.cb j 0, 0, none⟩) 64 64] 22)).drew.cell? ⟨M'.lb, j * 2, none⟩ = some (.slice (some ⟨M'.ab j, M'.ao j, none⟩) q (M'.ac j)) ∧ (wr.alloc (.cells #[.slice (some ⟨M'.cb j 0, 0, none⟩) 64 64] 22)).drew.cell? ⟨M'.ab j, M'.ao j, none⟩ = some (.slice (some ⟨M'.cb j 0, 0, none⟩) 64 64) := ⟨(hB2.cell hbl).trans S0.out.1, (hB2.cell hll).trans S0.out.2.1, (hB2.cell hal).trans S0.out.2.2⟩
      have hr2 := (hB2.block _ (lt_of_heap HROW.out)).trans HROW.out
      have TH : Hid ((wr.alloc (.cells #[.slice (some ⟨M'.cb j 0, 0, none⟩) 64 64] 22)).drew.there M'.lb (j * 2) 2) := by
        refine there_row (cur := cur.toList) (t := 70) ?_ _ _ ?_
        · simpa using hr2
        · simp; omega
      refine hK.out _ _ (fun _ => s2) ?_
      clear hK K hr2
      refine wpAnyE_take (i := 17) (v := (Value.agg #[.slice (some ⟨wr.heap.size, 0, none⟩) 1 1, .int .i64 (-1)])) rfl (by kernel_rfl) (by kernel_rfl) (by kernel_rfl) (by kernel_rfl) (fun _ _ _ h => h) (Or.inl ⟨by kernel_rfl, fun w' hw => by (go_simp)⟩) s2 ?_
      refine wpAnyE_take (i := 18) (v := (Value.pointer (some ⟨M'.lb, j * 2, none⟩))) rfl (by kernel_rfl) (by kernel_rfl) (by kernel_rfl) (by kernel_rfl) (fun _ _ _ h => h) (Or.inl ⟨by kernel_rfl, fun w' hw => by (have e := L0.out w'; go_simp)⟩) s2 ?_
      refine wpAnyE_store 70 (.tmp 51) (.tmp 50) M'.lb (j * 2) #[.slice (some ⟨wr.heap.size, 0, none⟩) 1 1, .int .i64 (-1)] (by kernel_rfl) rfl (by kernel_rfl) (by kernel_rfl) (by kernel_rfl) (by kernel_rfl) (by kernel_rfl) TH.out (by kernel_rfl) (by kernel_rfl) ?_
      simp only [Act.put, List.getElem_toArray, List.getElem_cons_zero, List.getElem_cons_succ, List.setIfInBounds_toArray, List.set_cons_zero, List.set_cons_succ]
      go_wp2_with (fail)
      go_roundw
      case rel => exact ⟨j + 1, _, int_congrP (by omega), by omega, HONE.out.keep (fun k _ => rfl), HLB.out, (HGR.out.trans (Gr.of_below hB2 : Gr (fun k => k = b ∨ k = M.lb) wr _) (fun i h => .inl h)).trans (Gr.setCells (wr.alloc (.cells #[.slice (some ⟨M'.cb j 0, 0, none⟩) 64 64] 22)).drew M'.lb _ _ (X := fun k => k = b ∨ k = M.lb) (.inr HLB.out)) (fun i h => .inl h)⟩
      case measure => simp [intOf]; omega
    · have hjn : j = ρ.n := by omega
      have jI : ¬ (j : Int) < (ρ.n : Int) := by omega
      subst hjn
      have c5 : wr.cell? ⟨b, 5, none⟩ = some (.bool ρ.gone) := hR.c 5
      have f5 := froz8 hR.dev 5
      have hre : RefL (wr.setCell ⟨b, 5, none⟩ (.bool true)) b M' ρ.lost0 := RefL.re (g := true) hR (heap_set1 wr b 5 _ _ (.bool true) hR.dev) (fun k hk _ => heap_set_ne _ _ _ _ _ hk)
      have HRE := hide hre
      have HGR := hide (hgr.trans (Gr.set wr b 5 (.bool true) (X := fun k => k = b ∨ k = M.lb) (.inl rfl)) (fun i h => .inl h))
      have HLB := hide hlb
      clear hre hgr hR hlb
      go_wp2
      go_end0
      exact ⟨rfl, ⟨M', HRE.out, HLB.out⟩, HGR.out⟩
theorem rbelow_nil (w : World) : Calls Try.prog 39 #[.slice none 0 0] w fun e w' => e = .returned (.bool false) ∧ w' = w := by
  go_enter Try.func39, Try.ntmps39
  go_wp2
  go_loopw [3] (fun iv wr => iv = .int .i64 0 ∧ wr = w) (fun _ _ => 0)
  case atStart => exact ⟨rfl, rfl⟩
  case round =>
    obtain ⟨rfl, rfl⟩ := hrel
    go_wp2
    go_ret
    exact ⟨rfl, rfl⟩
theorem rcrash_nil {w : World} {b : Nat} {M : RLay} {ρ : RSt} (h : RefL w b M ρ) (hok : ρ.Ok) (hg : ρ.gone = false) : Calls Try.prog 19 #[.pointer (some ⟨b, 0, none⟩), .slice none 0 0] w fun e w' => e = .returned (.int .i64 0) ∧ ∃ M', (RefL w' b M' ρ.lost0 ∧ M'.lb = M.lb) ∧ Gr (fun k => k = b ∨ k = M.lb) w w' := by
  have c5 : w.cell? ⟨b, 5, none⟩ = some (.bool false) := by rw [← hg]; exact h.c 5
  have KG := hide (rgoes_nil h hok)
  have KB := hide (rbelow_nil w)
  clear h hok hg
  go_enter Try.func19, Try.ntmps19
  go_wp2_with (first | (go_at_call 39; refine (KB.out).mono ?_; rintro e w' ⟨rfl, hw⟩; obtain rfl := hw.symm) | (go_at_call 40; refine (KG.out).mono ?_; rintro e W1 ⟨rfl, hw⟩; have HW := hide hw; clear hw))
  go_ret
  exact ⟨rfl, HW.out⟩
end Go.Proofs.Ytmlhibkofalamaa
namespace Go.Proofs.Ytmlhibkofalamaa
open Go.RowKit Go.Shelf
set_option linter.unusedVariables false

/-- A row of bytes under way, and what it is made by. -/
structure BkR (w wr : World) (g1 g N : Nat) (box : Array Value) : Prop where
  box : wr.heap[g1]? = some (.cells box 24 (0, 0))
  own : ∃ bs : List Nat, OwnB wr g bs ∧ bs.length = N ∧ ∀ x ∈ bs, x < 256
  nw : w.heap.size ≤ g
  bel : Below w.heap.size w wr
theorem BkR.at {w wr : World} {g1 g N i : Nat} {box : Array Value} (h : BkR w wr g1 g N box) (hi : i < N) : ∃ y : Nat, y < 256 ∧ wr.cell? ⟨g, i, none⟩ = some (.int .u8 (y : Int)) ∧ wr.frozen? ⟨g, i, none⟩ = false := by
  obtain ⟨bs, h1, h2, h3⟩ := h.own
  obtain ⟨y, hy⟩ : ∃ y, bs[i]? = some y := ⟨_, List.getElem?_eq_getElem (by omega)⟩
  exact ⟨y, h3 y (List.mem_of_getElem? hy), h1.cell i y hy, h1.frozen i⟩
theorem BkR.set {w wr : World} {g1 g N i x : Nat} {box : Array Value} (h : BkR w wr g1 g N box) (hx : x < 256) : BkR w (wr.setCell ⟨g, i, none⟩ (.int .u8 (x : Int))) g1 g N box := by
  obtain ⟨bs, h1, h2, h3⟩ := h.own
  refine ⟨(heap_set_ne _ _ _ _ _ (ne_ty h.box h1 (by decide))).trans h.box, ⟨bs.set i x, h1.set i x, by rw [List.length_set]; exact h2, fun y hy => (List.mem_or_eq_of_mem_set hy).elim (h3 y) (fun e => e ▸ hx)⟩, h.nw, h.bel.setCell h.nw _⟩
theorem BkR.drew {w wr : World} {g1 g N : Nat} {box : Array Value} (h : BkR w wr g1 g N box) : BkR w wr.drew g1 g N box := ⟨h.box, h.own, h.nw, h.bel.drew⟩
theorem BkR.below {w wr w' : World} {g1 g N : Nat} {box : Array Value} (h : BkR w wr g1 g N box) (hB : Below wr.heap.size wr w') : BkR w w' g1 g N box := by
  obtain ⟨bs, h1, h2, h3⟩ := h.own
  exact ⟨(hB.block _ (lt_of_heap h.box)).trans h.box, ⟨bs, h1.below hB h1.lt, h2, h3⟩, h.nw, bseq h.bel hB⟩
/-- Cells of bytes. -/
def U8s (w : World) (pb po n : Nat) : Prop := ∀ i, i < n → ∃ x : Nat, x < 256 ∧ w.cell? ⟨pb, po + i, none⟩ = some (.int .u8 (x : Int))
theorem U8s.set {w : World} {pb po n g i x : Nat} (h : U8s w pb po n) (hx : x < 256) (hg : ∃ c t, w.heap[g]? = some (.cells c t (0, 0))) : U8s (w.setCell ⟨g, i, none⟩ (.int .u8 (x : Int))) pb po n := fun j hj => by
  obtain ⟨y, hy, hc⟩ := h j hj
  by_cases e : pb = g ∧ po + j = i
  · obtain ⟨rfl, rfl⟩ := e
    obtain ⟨c, t, hg⟩ := hg
    refine ⟨x, hx, ?_⟩
    have hlt : po + j < c.size := by
      rw [cell8 hg] at hc
      exact (Array.getElem?_eq_some_iff.1 hc).1
    rw [cell8 (heap_set1 w pb (po + j) c t _ hg)]
    simp [hlt]
  · refine ⟨y, hy, ?_⟩
    rw [← hc]
    by_cases e1 : pb = g
    · subst e1
      have hne : i ≠ po + j := fun h => e ⟨rfl, h.symm⟩
      obtain ⟨c, t, hg⟩ := hg
      rw [cell8 (heap_set1 w pb i c t _ hg), cell8 hg]
      simp [hne]
    · exact World.cell?_of_block (a := ⟨pb, po + j, none⟩) (heap_set_ne _ _ _ _ _ e1)
theorem index_b8o (g o i len cap : Nat) (hi : i < len) (w : World) : (Instr.indexAt 22 (.slice (some ⟨g, o, none⟩) len cap) (.int .i64 (i : Int))).run Try.prog w = .ok (.pointer (some ⟨g, o + i, none⟩)) w := by
  have h := index_at (t := 22) (e := 5) (sz := 1) Try.underlying22 (by kernel_rfl) g o i len cap hi w
  rwa [Nat.mul_one] at h
theorem makeB_more (n : Nat) (hn : n ≤ 4194368) (w : World) : (Instr.makeSlice 22 (.int .i64 (n : Int)) (.int .i64 (n : Int))).run Try.prog w = .ok (.slice (some ⟨w.heap.size, 0, none⟩) n n) (w.alloc (.cells ((List.replicate n 0).map B8).toArray 5)) := by
  have h := run_make_row' (P := Try.prog) 22 5 (.int .u8 0) 1 Try.underlying22 (by kernel_rfl) rfl .i64 .i64 n (by omega) (by omega) w
  rw [h, madeB]
theorem shl_oneI (j : Nat) (hj : j < 8) : IntKind.u8.wrap ((2 : Int) ^ j) = ((2 ^ j : Nat) : Int) := by
  match j, hj with
  | 0, _ => rfl
  | 1, _ => rfl
  | 2, _ => rfl
  | 3, _ => rfl
  | 4, _ => rfl
  | 5, _ => rfl
  | 6, _ => rfl
  | 7, _ => rfl
/-- What bytes tells. -/
def ImD (w : World) (e : Ending) (w' : World) : Prop := ∃ (N : Nat) (bs : List Nat), bs.length = N ∧ (∀ x ∈ bs, x < 256) ∧ N ≤ 4194368 ∧ (e = .returned (.slice none 0 0) ∧ N = 0 ∨ ∃ g, e = .returned (.slice (some ⟨g, 0, none⟩) N N) ∧ OwnB w' g bs ∧ w.heap.size ≤ g) ∧ Below w.heap.size w w'
set_option maxRecDepth 100000 in
set_option maxHeartbeats 4000000 in
theorem imbytes_any (w : World) (sz tu : Int) (fi : Nat) (ha : Option Addr) (hl hc : Nat) (rt : Bool) (hd : List Nat) (hs : Sl w ha hd) (hdl : hd.length = hl) (hll : hl ≤ 9223372036854775807) (hfi : fi < 256) (hsz : -9223372036854775808 ≤ sz ∧ sz ≤ 9223372036854775807) (htu : -9223372036854775808 ≤ tu ∧ tu ≤ 9223372036854775807) :
    Calls Try.prog 4 #[.agg #[.int .i64 sz, .int .u8 (fi : Int), .slice ha hl hc, .bool rt, .int .i64 tu]] w fun e w' => ImD w e w' := by
  have hA : Below w.heap.size w (w.alloc (.cells #[.int .i64 sz, .int .u8 (fi : Int), .slice ha hl hc, .bool rt, .int .i64 tu] 24)) := (Below.refl _ w).alloc (Nat.le_refl _) _
  have hbx := heap_alloc_new w (.cells #[.int .i64 sz, .int .u8 (fi : Int), .slice ha hl hc, .bool rt, .int .i64 tu] 24)
  by_cases hn : sz < 0 ∨ 4194368 < sz
  · have HA := hide hA
    rcases hn with h1 | h1
    · clear hA hbx
      go_enter Try.func4, Try.ntmps4
      go_wp2
      go_ret
      exact ⟨0, [], rfl, by simp, by omega, .inl ⟨rfl, rfl⟩, HA.out⟩
    · have h0 : ¬ sz < 0 := by omega
      clear hA hbx
      go_enter Try.func4, Try.ntmps4
      go_wp2
      go_ret
      exact ⟨0, [], rfl, by simp, by omega, .inl ⟨rfl, rfl⟩, HA.out⟩
  · obtain ⟨N, rfl⟩ : ∃ N : Nat, sz = (N : Int) := ⟨sz.toNat, by omega⟩
    have hN : N ≤ 4194368 := by omega
    have n1 : ¬ (N : Int) < 0 := by omega
    have n2 : ¬ 4194368 < (N : Int) := by omega
    have hmk := makeB_more N hN (w.alloc (.cells #[.int .i64 (N : Int), .int .u8 (fi : Int), .slice ha hl hc, .bool rt, .int .i64 tu] 24))
    rw [World.size_alloc] at hmk
    have hb0 : BkR w ((w.alloc (.cells #[.int .i64 (N : Int), .int .u8 (fi : Int), .slice ha hl hc, .bool rt, .int .i64 tu] 24)).alloc (.cells ((List.replicate N 0).map B8).toArray 5)) w.heap.size (w.heap.size + 1) N #[.int .i64 (N : Int), .int .u8 (fi : Int), .slice ha hl hc, .bool rt, .int .i64 tu] := by
      have h5 := heap_alloc_new (w.alloc (.cells #[.int .i64 (N : Int), .int .u8 (fi : Int), .slice ha hl hc, .bool rt, .int .i64 tu] 24)) (.cells ((List.replicate N 0).map B8).toArray 5)
      rw [World.size_alloc] at h5
      refine ⟨row_keep hbx ((Below.refl _ _).alloc (Nat.le_refl _) _), ⟨List.replicate N 0, h5, by simp, fun x hx => ?_⟩, by omega, hA.alloc (by simp) _⟩
      have := (List.mem_replicate.1 hx).2
      omega
    obtain ⟨RZ, hRZ⟩ : ∃ RZ, RZ = ((List.replicate N 0).map B8).toArray := ⟨_, rfl⟩
    rw [← hRZ] at hmk hb0
    have HB0 := hide hb0
    have HA := hide hA
    have HS := hide hs
    have HDL := hide hdl
    clear hb0 hA hs hdl hRZ hbx hn
    go_enter Try.func4, Try.ntmps4
    go_wp2_with (fail)
    obtain ⟨g1, hg1⟩ : ∃ g1, g1 = w.heap.size := ⟨_, rfl⟩
    obtain ⟨g, hg⟩ : ∃ g, g = g1 + 1 := ⟨_, rfl⟩
    rw [← hg1, ← hg] at HB0 ⊢
    have hgw : w.heap.size ≤ g1 := by omega
    clear hg hg1 hmk
    try go_frame
    go_loopw [4] (fun iv wr => ∃ j : Nat, iv = .int .i64 (j : Int) ∧ j ≤ N ∧ BkR w wr g1 g N #[.int .i64 (N : Int), .int .u8 (fi : Int), .slice ha hl hc, .bool rt, .int .i64 tu]) (fun iv _ => (N - (intOf iv).toNat))
    case atStart => exact ⟨0, rfl, Nat.zero_le _, HB0.out⟩
    case round =>
      obtain ⟨j, rfl, hj, hbk⟩ := hrel
      by_cases hlt : j < N
      · have jI : (j : Int) < (N : Int) := by omega
        obtain ⟨y, hy, cy, fy⟩ := hbk.at hlt
        have b1 : wr.cell? ⟨g1, 1, none⟩ = some (.int .u8 (fi : Int)) := cell8 hbk.box 1
        have l1 := fun X => index_b8 g j N N hlt X
        have HST := hide (hbk.set (i := j) hfi)
        clear hbk hy
        go_wp2_with (fail)
        go_roundw
        case rel => exact ⟨j + 1, int_congrP (by omega), by omega, HST.out⟩
        case measure => simp [intOf]; omega
      · have jI : ¬ (j : Int) < (N : Int) := by omega
        have HBK := hide hbk
        clear hbk
        go_wp2_with (fail)
        go_loopw [5] (fun iv wr => ∃ j : Nat, iv = .int .i64 (j : Int) ∧ j ≤ N ∧ j ≤ hl ∧ BkR w wr g1 g N #[.int .i64 (N : Int), .int .u8 (fi : Int), .slice ha hl hc, .bool rt, .int .i64 tu]) (fun iv _ => (N - (intOf iv).toNat))
        case atStart => exact ⟨0, rfl, Nat.zero_le _, Nat.zero_le _, HBK.out⟩
        case round =>
          obtain ⟨j, rfl, hj, hjh, hbk⟩ := hrel
          have b2 : wr.cell? ⟨g1, 2, none⟩ = some (.slice ha hl hc) := cell8 hbk.box 2
          by_cases h1 : j < N
          · have jI : (j : Int) < (N : Int) := by omega
            by_cases h2 : j < hl
            · have jH : (j : Int) < (hl : Int) := by omega
              obtain ⟨hb, ho, rfl, hbl, hseg⟩ : ∃ hb ho, ha = some ⟨hb, ho, none⟩ ∧ hb < w.heap.size ∧ Seg w hb ho hd := HS.out.resolve_left (fun h => by have := HDL.out; rw [h] at this; simp at this; omega)
              obtain ⟨x, hx⟩ : ∃ x, hd[j]? = some x := ⟨_, List.getElem?_eq_getElem (by rw [HDL.out]; exact h2)⟩
              have hxl := (hseg j x hx).2
              have cx : wr.cell? ⟨hb, ho + j, none⟩ = some (.int .u8 (x : Int)) := (hbk.bel.cell (p := ⟨hb, ho + j, none⟩) hbl).trans (hseg j x hx).1
              obtain ⟨y, hy, cy, fy⟩ := hbk.at h1
              have l0 := fun X => index_b8o hb ho j hl hc h2 X
              have l1 := fun X => index_b8 g j N N h1 X
              have HST := hide (hbk.set (i := j) hxl)
              clear hbk hy hx hseg hxl
              go_wp2_with (fail)
              go_roundw
              case rel => exact ⟨j + 1, int_congrP (by omega), by omega, by omega, HST.out⟩
              case measure => simp [intOf]; omega
            · have jH : ¬ (j : Int) < (hl : Int) := by omega
              have HK2 := hide hbk
              have b0 : wr.cell? ⟨g1, 0, none⟩ = some (.int .i64 (N : Int)) := cell8 hbk.box 0
              clear hbk
              by_cases hok : okS (N : Int)
              · have kp : ∀ W, Calls Try.prog 20 #[.int .i64 (N : Int)] W fun r w' => r = .returned (.tuple #[.agg #[.int .i64 (N : Int), .int .i64 128, .int .i64 32768, .int .i64 32896, .int .i64 (((N : Int) - 32896) / 256)], .int .i64 0]) ∧ Below W.heap.size W w' := fun W => rplan_ok (N : Int) W hok
                have kln : ∀ W, Calls Try.prog 21 #[.agg #[.int .i64 (N : Int), .int .i64 128, .int .i64 32768, .int .i64 32896, .int .i64 (((N : Int) - 32896) / 256)]] W fun r w' => ∃ p cp, r = .returned (.tuple #[.slice p 64 cp, .int .i64 0]) ∧ Sl w' p (sbX (N : Int)) ∧ Below W.heap.size W w' := fun W => rline_pl (N : Int) 128 32768 32896 (((N : Int) - 32896) / 256) W ⟨hok, rfl, rfl, rfl, rfl⟩
                have h369 : 36992 ≤ N := by have := hok.1; omega
                have hsl := sbX_len (N : Int)
                generalize sbX (N : Int) = sb at *
                generalize ((N : Int) - 32896) / 256 = q at *
                have KP := hide kp
                have KLN := hide kln
                have HSL := hide hsl
                clear kp kln hsl hok
                go_upto_region 13 with (go_at_call 20; refine (KP.out _).mono ?_; rintro e V1 ⟨rfl, hB1⟩; have HB1 := hide hB1; clear hB1)
                have hB2 : Below wr.heap.size wr (V1.alloc (.cells #[.int .i64 (N : Int), .int .i64 128, .int .i64 32768, .int .i64 32896, .int .i64 q] 36)) := HB1.out.alloc HB1.out.size _
                have hp2 := heap_alloc_new V1 (.cells #[.int .i64 (N : Int), .int .i64 128, .int .i64 32768, .int .i64 32896, .int .i64 q] 36)
                have hk2 := HK2.out.below hB2
                obtain ⟨y0, y1, y2, y3, y4⟩ := suBox hp2
                have b3 : (V1.alloc (.cells #[.int .i64 (N : Int), .int .i64 128, .int .i64 32768, .int .i64 32896, .int .i64 q] 36)).cell? ⟨g1, 3, none⟩ = some (.bool rt) := cell8 hk2.box 3
                have HK3 := hide hk2
                generalize V1.alloc (.cells #[.int .i64 (N : Int), .int .i64 128, .int .i64 32768, .int .i64 32896, .int .i64 q] 36) = V2 at *
                clear hB2 hp2 hk2 b0
                cases rt with
                | false =>
                  go_wp2
                  go_ret
                  obtain ⟨bs, o1, o2, o3⟩ := HK3.out.own
                  exact ⟨N, bs, o2, o3, hN, .inr ⟨g, rfl, o1, HK3.out.nw⟩, HK3.out.bel⟩
                | true =>
                  go_wp2_with (go_at_call 21; refine (KLN.out _).mono ?_; rintro e V3 ⟨pp, cp, rfl, hs3, hB3⟩; have HS3 := hide hs3; have HB3 := hide hB3; clear hs3 hB3)
                  obtain ⟨pb, po, rfl, hpb, hseg⟩ : ∃ pb po, pp = some ⟨pb, po, none⟩ ∧ pb < V3.heap.size ∧ Seg V3 pb po sb := HS3.out.resolve_left (fun h => by have := HSL.out; rw [h] at this; cases this)
                  have hu8 : U8s V3 pb po 64 := fun i hi => by
                    obtain ⟨x, hx⟩ : ∃ x, sb[i]? = some x := ⟨_, List.getElem?_eq_getElem (by rw [HSL.out]; exact hi)⟩
                    exact ⟨x, (hseg i x hx).2, (hseg i x hx).1⟩
                  have HU := hide hu8
                  have HK4 := hide (HK3.out.below HB3.out)
                  clear hseg hpb hu8 y0 y1 y2 y3 y4 b3
                  try go_frame
                  go_loopw [10] (fun iv X => ∃ i : Nat, iv = .int .i64 (i : Int) ∧ i ≤ 64 ∧ BkR w X g1 g N #[.int .i64 (N : Int), .int .u8 (fi : Int), .slice ha hl hc, .bool true, .int .i64 tu] ∧ U8s X pb po 64) (fun iv _ => (64 - (intOf iv).toNat))
                  case atStart => exact ⟨0, rfl, Nat.zero_le _, HK4.out, HU.out⟩
                  case round =>
                    rename World => X
                    obtain ⟨i, rfl, hi, hbk, hu⟩ := hrel
                    by_cases hlt : i < 64
                    · have iI : (i : Int) < 64 := by omega
                      obtain ⟨x, hx, cx⟩ := hu i hlt
                      obtain ⟨y, hy, cy, fy⟩ := hbk.at (i := i) (by omega)
                      have l0 := fun X => index_b8o pb po i 64 cp hlt X
                      have l1 := fun X => index_b8 g i N N (by omega) X
                      have hst := hbk.set (i := i) hx
                      obtain ⟨bs, o1, _⟩ := hbk.own
                      have hus := hu.set (i := i) hx ⟨_, _, o1⟩
                      have HST := hide hst
                      have HUS := hide hus
                      clear hst hus o1 hbk hu hy hx
                      go_wp2_with (fail)
                      go_roundw
                      case rel => exact ⟨i + 1, int_congrP (by omega), by omega, HST.out, HUS.out⟩
                      case measure => simp [intOf]; omega
                    · have iI : ¬ (i : Int) < 64 := by omega
                      have HK := hide hbk
                      clear hbk hu
                      have c4 : X.cell? ⟨g1, 4, none⟩ = some (.int .i64 tu) := cell8 HK.out.box 4
                      by_cases ht1 : 0 < tu
                      · by_cases ht2 : tu ≤ 512
                        · obtain ⟨k, hk⟩ : ∃ k : Nat, tu - 1 = (k : Int) := ⟨(tu - 1).toNat, by omega⟩
                          obtain ⟨ki, hki⟩ : ∃ ki : Nat, ki = k / 8 := ⟨_, rfl⟩
                          obtain ⟨j, hj⟩ : ∃ j : Nat, j = k % 8 := ⟨_, rfl⟩
                          have kI : (k : Int) < 512 := by omega
                          have wk : IntKind.i64.wrap (tu - 1) = (k : Int) := by rw [IntKind.wrap_i64]; omega
                          have q1 : (k : Int).tdiv 8 = (ki : Int) := by rw [Int.tdiv_eq_ediv_of_nonneg (by omega)]; omega
                          have q2 : (k : Int) / 8 = (ki : Int) := by omega
                          have r1 : (k : Int).tmod 8 = (j : Int) := by rw [Int.tmod_eq_emod_of_nonneg (by omega)]; omega
                          have r2 : (k : Int) % 8 = (j : Int) := by omega
                          have hki2 : ki < 64 := by omega
                          have hj2 : j < 8 := by omega
                          have wki : IntKind.i64.wrap (ki : Int) = (ki : Int) := by rw [IntKind.wrap_i64]; omega
                          obtain ⟨y, hy, cy, fy⟩ := HK.out.at (i := ki) (by omega)
                          obtain ⟨p, hp⟩ : ∃ p : Nat, p = 2 ^ j := ⟨_, rfl⟩
                          have hp2 : p < 256 := by rw [hp]; exact Nat.lt_of_lt_of_le (Nat.pow_lt_pow_right (by omega) hj2) (by decide)
                          have hsh : IntKind.u8.wrap ((2 : Int) ^ j) = (p : Int) := by rw [hp]; exact shl_oneI j hj2
                          have hxo : bits BinOp.xor IntKind.u8 (y : Int) (p : Int) = ((y ^^^ p : Nat) : Int) := u8_xor_nat y p hy hp2
                          have hzl : y ^^^ p < 256 := Nat.xor_lt_two_pow (n := 8) hy hp2
                          generalize y ^^^ p = zz at *
                          have X2 := hide (fun X => index_b8 g ki N N (by omega) X)
                          have s0 : X.drew.cell? ⟨g, ki, none⟩ = some (.int .u8 (y : Int)) ∧ X.drew.cell? ⟨g1, 4, none⟩ = some (.int .i64 tu) := ⟨cy, c4⟩
                          have S0 := hide s0
                          have HZL := hide hzl
                          have FY := hide fy
                          clear hk hki hj hy hp hp2 hzl s0 fy
                          go_wp2_with (fail)
                          try go_frame
                          refine wp_region_early 19 (fun X => X.cell? ⟨g, ki, none⟩ = some (.int .u8 (y : Int)) ∧ X.cell? ⟨g1, 4, none⟩ = some (.int .i64 tu)) (by kernel_rfl) S0.out (fun hS => ?_)
                          refine wpAnyE_take (i := 0) (v := (Value.slice (some ⟨g, 0, none⟩) N N)) rfl (by kernel_rfl) (by kernel_rfl) (by kernel_rfl) (by kernel_rfl) (fun _ _ _ h => h) (Or.inl ⟨by kernel_rfl, fun w' hw => by (go_simp)⟩) hS ?_
                          refine wpAnyE_take (i := 1) (v := (Value.pointer (some ⟨g1, 4, none⟩))) rfl (by kernel_rfl) (by kernel_rfl) (by kernel_rfl) (by kernel_rfl) (fun _ _ _ h => h) (Or.inl ⟨by kernel_rfl, fun w' hw => by (go_simp)⟩) hS ?_
                          refine wpAnyE_take (i := 2) (v := (Value.int .i64 tu)) rfl (by kernel_rfl) (by kernel_rfl) (by kernel_rfl) (by kernel_rfl) (fun _ _ _ h => h) (Or.inl ⟨by kernel_rfl, fun w' hw => by (obtain ⟨z0, z1⟩ := hw; go_simp)⟩) hS ?_
                          refine wpAnyE_take (i := 3) (v := (Value.int .i64 (k : Int))) rfl (by kernel_rfl) (by kernel_rfl) (by kernel_rfl) (by kernel_rfl) (fun _ _ _ h => h) (Or.inl ⟨by kernel_rfl, fun w' hw => by (go_simp)⟩) hS ?_
                          refine wpAnyE_take (i := 4) (v := (Value.int .i64 (ki : Int))) rfl (by kernel_rfl) (by kernel_rfl) (by kernel_rfl) (by kernel_rfl) (fun _ _ _ h => h) (Or.inl ⟨by kernel_rfl, fun w' hw => by (go_simp)⟩) hS ?_
                          refine wpAnyE_take (i := 5) (v := (Value.slice (some ⟨g, 0, none⟩) N N)) rfl (by kernel_rfl) (by kernel_rfl) (by kernel_rfl) (by kernel_rfl) (fun _ _ _ h => h) (Or.inl ⟨by kernel_rfl, fun w' hw => by (go_simp)⟩) hS ?_
                          refine wpAnyE_take (i := 6) (v := (Value.pointer (some ⟨g1, 4, none⟩))) rfl (by kernel_rfl) (by kernel_rfl) (by kernel_rfl) (by kernel_rfl) (fun _ _ _ h => h) (Or.inl ⟨by kernel_rfl, fun w' hw => by (go_simp)⟩) hS ?_
                          refine wpAnyE_take (i := 7) (v := (Value.int .i64 tu)) rfl (by kernel_rfl) (by kernel_rfl) (by kernel_rfl) (by kernel_rfl) (fun _ _ _ h => h) (Or.inl ⟨by kernel_rfl, fun w' hw => by (obtain ⟨z0, z1⟩ := hw; go_simp)⟩) hS ?_
                          refine wpAnyE_take (i := 8) (v := (Value.int .i64 (k : Int))) rfl (by kernel_rfl) (by kernel_rfl) (by kernel_rfl) (by kernel_rfl) (fun _ _ _ h => h) (Or.inl ⟨by kernel_rfl, fun w' hw => by (go_simp)⟩) hS ?_
                          refine wpAnyE_take (i := 9) (v := (Value.int .i64 (ki : Int))) rfl (by kernel_rfl) (by kernel_rfl) (by kernel_rfl) (by kernel_rfl) (fun _ _ _ h => h) (Or.inl ⟨by kernel_rfl, fun w' hw => by (go_simp)⟩) hS ?_
                          refine wpAnyE_take (i := 10) (v := (Value.pointer (some ⟨g, ki, none⟩))) rfl (by kernel_rfl) (by kernel_rfl) (by kernel_rfl) (by kernel_rfl) (fun _ _ _ h => h) (Or.inl ⟨by kernel_rfl, fun w' hw => by (have e := X2.out w'; go_simp)⟩) hS ?_
                          refine wpAnyE_take (i := 11) (v := (Value.int .u8 (y : Int))) rfl (by kernel_rfl) (by kernel_rfl) (by kernel_rfl) (by kernel_rfl) (fun _ _ _ h => h) (Or.inl ⟨by kernel_rfl, fun w' hw => by (obtain ⟨z0, z1⟩ := hw; go_simp)⟩) hS ?_
                          refine wpAnyE_take (i := 12) (v := (Value.pointer (some ⟨g1, 4, none⟩))) rfl (by kernel_rfl) (by kernel_rfl) (by kernel_rfl) (by kernel_rfl) (fun _ _ _ h => h) (Or.inl ⟨by kernel_rfl, fun w' hw => by (go_simp)⟩) hS ?_
                          refine wpAnyE_take (i := 13) (v := (Value.int .i64 tu)) rfl (by kernel_rfl) (by kernel_rfl) (by kernel_rfl) (by kernel_rfl) (fun _ _ _ h => h) (Or.inl ⟨by kernel_rfl, fun w' hw => by (obtain ⟨z0, z1⟩ := hw; go_simp)⟩) hS ?_
                          refine wpAnyE_take (i := 14) (v := (Value.int .i64 (k : Int))) rfl (by kernel_rfl) (by kernel_rfl) (by kernel_rfl) (by kernel_rfl) (fun _ _ _ h => h) (Or.inl ⟨by kernel_rfl, fun w' hw => by (go_simp)⟩) hS ?_
                          refine wpAnyE_take (i := 15) (v := (Value.int .i64 (j : Int))) rfl (by kernel_rfl) (by kernel_rfl) (by kernel_rfl) (by kernel_rfl) (fun _ _ _ h => h) (Or.inl ⟨by kernel_rfl, fun w' hw => by (go_simp)⟩) hS ?_
                          refine wpAnyE_take (i := 16) (v := (Value.int .u8 (p : Int))) rfl (by kernel_rfl) (by kernel_rfl) (by kernel_rfl) (by kernel_rfl) (fun _ _ _ h => h) (Or.inl ⟨by kernel_rfl, fun w' hw => by (go_simp)⟩) hS ?_
                          refine wpAnyE_take (i := 17) (v := (Value.int .u8 (zz : Int))) rfl (by kernel_rfl) (by kernel_rfl) (by kernel_rfl) (by kernel_rfl) (fun _ _ _ h => h) (Or.inl ⟨by kernel_rfl, fun w' hw => by (go_simp)⟩) hS ?_
                          refine wpAnyE_take (i := 18) (v := (Value.pointer (some ⟨g, ki, none⟩))) rfl (by kernel_rfl) (by kernel_rfl) (by kernel_rfl) (by kernel_rfl) (fun _ _ _ h => h) (Or.inl ⟨by kernel_rfl, fun w' hw => by (have e := X2.out w'; go_simp)⟩) hS ?_
                          refine wpAnyE_last (by kernel_rfl) rfl (by kernel_rfl) (by kernel_rfl) (fun K hK => ?_)
                          have f4 := FY.out
                          have c9 := S0.out.1
                          go_simp
                          refine hK.out _ _ ?_
                          try simp only [Act.put, List.getElem_toArray, List.getElem_cons_zero, List.getElem_cons_succ, List.setIfInBounds_toArray, List.set_cons_zero, List.set_cons_succ]
                          clear hK K
                          have hk9 := (HK.out.set (i := ki) HZL.out).drew
                          have HK9 := hide hk9
                          clear hk9 c9 f4 cy c4
                          go_wp2_with (fail)
                          go_ret
                          obtain ⟨bs, o1, o2, o3⟩ := HK9.out.own
                          exact ⟨N, bs, o2, o3, hN, .inr ⟨g, rfl, o1, HK9.out.nw⟩, HK9.out.bel⟩
                        · have ht3 : ¬ tu ≤ 512 := ht2
                          go_wp2
                          go_ret
                          obtain ⟨bs, o1, o2, o3⟩ := HK.out.own
                          exact ⟨N, bs, o2, o3, hN, .inr ⟨g, rfl, o1, HK.out.nw⟩, HK.out.bel⟩
                      · go_wp2
                        go_ret
                        obtain ⟨bs, o1, o2, o3⟩ := HK.out.own
                        exact ⟨N, bs, o2, o3, hN, .inr ⟨g, rfl, o1, HK.out.nw⟩, HK.out.bel⟩
              · have kp : ∀ W, Calls Try.prog 20 #[.int .i64 (N : Int)] W fun r w' => r = .returned (.tuple #[.agg #[.int .i64 0, .int .i64 0, .int .i64 0, .int .i64 0, .int .i64 0], .int .i64 80]) ∧ Below W.heap.size W w' := fun W => rplan_no (N : Int) W (by omega) (by omega) hok
                have KP := hide kp
                clear kp hok
                go_upto_region 13 with (go_at_call 20; refine (KP.out _).mono ?_; rintro e V1 ⟨rfl, hB1⟩; have HB1 := hide hB1; clear hB1)
                have hB2 : Below wr.heap.size wr (V1.alloc (.cells #[.int .i64 0, .int .i64 0, .int .i64 0, .int .i64 0, .int .i64 0] 36)) := HB1.out.alloc HB1.out.size _
                have hk2 := HK2.out.below hB2
                have b3 : (V1.alloc (.cells #[.int .i64 0, .int .i64 0, .int .i64 0, .int .i64 0, .int .i64 0] 36)).cell? ⟨g1, 3, none⟩ = some (.bool rt) := cell8 hk2.box 3
                have HK3 := hide hk2
                generalize V1.alloc (.cells #[.int .i64 0, .int .i64 0, .int .i64 0, .int .i64 0, .int .i64 0] 36) = V2 at *
                clear hB2 hk2 b0
                cases rt with
                | false =>
                  go_wp2
                  go_ret
                  obtain ⟨bs, o1, o2, o3⟩ := HK3.out.own
                  exact ⟨N, bs, o2, o3, hN, .inr ⟨g, rfl, o1, HK3.out.nw⟩, HK3.out.bel⟩
                | true =>
                  go_wp2
                  go_ret
                  obtain ⟨bs, o1, o2, o3⟩ := HK3.out.own
                  exact ⟨N, bs, o2, o3, hN, .inr ⟨g, rfl, o1, HK3.out.nw⟩, HK3.out.bel⟩
          · have jI : ¬ (j : Int) < (N : Int) := by omega
            have HK2 := hide hbk
            have b0 : wr.cell? ⟨g1, 0, none⟩ = some (.int .i64 (N : Int)) := cell8 hbk.box 0
            clear hbk
            by_cases hok : okS (N : Int)
            · have kp : ∀ W, Calls Try.prog 20 #[.int .i64 (N : Int)] W fun r w' => r = .returned (.tuple #[.agg #[.int .i64 (N : Int), .int .i64 128, .int .i64 32768, .int .i64 32896, .int .i64 (((N : Int) - 32896) / 256)], .int .i64 0]) ∧ Below W.heap.size W w' := fun W => rplan_ok (N : Int) W hok
              have kln : ∀ W, Calls Try.prog 21 #[.agg #[.int .i64 (N : Int), .int .i64 128, .int .i64 32768, .int .i64 32896, .int .i64 (((N : Int) - 32896) / 256)]] W fun r w' => ∃ p cp, r = .returned (.tuple #[.slice p 64 cp, .int .i64 0]) ∧ Sl w' p (sbX (N : Int)) ∧ Below W.heap.size W w' := fun W => rline_pl (N : Int) 128 32768 32896 (((N : Int) - 32896) / 256) W ⟨hok, rfl, rfl, rfl, rfl⟩
              have h369 : 36992 ≤ N := by have := hok.1; omega
              have hsl := sbX_len (N : Int)
              generalize sbX (N : Int) = sb at *
              generalize ((N : Int) - 32896) / 256 = q at *
              have KP := hide kp
              have KLN := hide kln
              have HSL := hide hsl
              clear kp kln hsl hok
              go_upto_region 13 with (go_at_call 20; refine (KP.out _).mono ?_; rintro e V1 ⟨rfl, hB1⟩; have HB1 := hide hB1; clear hB1)
              have hB2 : Below wr.heap.size wr (V1.alloc (.cells #[.int .i64 (N : Int), .int .i64 128, .int .i64 32768, .int .i64 32896, .int .i64 q] 36)) := HB1.out.alloc HB1.out.size _
              have hp2 := heap_alloc_new V1 (.cells #[.int .i64 (N : Int), .int .i64 128, .int .i64 32768, .int .i64 32896, .int .i64 q] 36)
              have hk2 := HK2.out.below hB2
              obtain ⟨y0, y1, y2, y3, y4⟩ := suBox hp2
              have b3 : (V1.alloc (.cells #[.int .i64 (N : Int), .int .i64 128, .int .i64 32768, .int .i64 32896, .int .i64 q] 36)).cell? ⟨g1, 3, none⟩ = some (.bool rt) := cell8 hk2.box 3
              have HK3 := hide hk2
              generalize V1.alloc (.cells #[.int .i64 (N : Int), .int .i64 128, .int .i64 32768, .int .i64 32896, .int .i64 q] 36) = V2 at *
              clear hB2 hp2 hk2 b0
              cases rt with
              | false =>
                go_wp2
                go_ret
                obtain ⟨bs, o1, o2, o3⟩ := HK3.out.own
                exact ⟨N, bs, o2, o3, hN, .inr ⟨g, rfl, o1, HK3.out.nw⟩, HK3.out.bel⟩
              | true =>
                go_wp2_with (go_at_call 21; refine (KLN.out _).mono ?_; rintro e V3 ⟨pp, cp, rfl, hs3, hB3⟩; have HS3 := hide hs3; have HB3 := hide hB3; clear hs3 hB3)
                obtain ⟨pb, po, rfl, hpb, hseg⟩ : ∃ pb po, pp = some ⟨pb, po, none⟩ ∧ pb < V3.heap.size ∧ Seg V3 pb po sb := HS3.out.resolve_left (fun h => by have := HSL.out; rw [h] at this; cases this)
                have hu8 : U8s V3 pb po 64 := fun i hi => by
                  obtain ⟨x, hx⟩ : ∃ x, sb[i]? = some x := ⟨_, List.getElem?_eq_getElem (by rw [HSL.out]; exact hi)⟩
                  exact ⟨x, (hseg i x hx).2, (hseg i x hx).1⟩
                have HU := hide hu8
                have HK4 := hide (HK3.out.below HB3.out)
                clear hseg hpb hu8 y0 y1 y2 y3 y4 b3
                try go_frame
                go_loopw [10] (fun iv X => ∃ i : Nat, iv = .int .i64 (i : Int) ∧ i ≤ 64 ∧ BkR w X g1 g N #[.int .i64 (N : Int), .int .u8 (fi : Int), .slice ha hl hc, .bool true, .int .i64 tu] ∧ U8s X pb po 64) (fun iv _ => (64 - (intOf iv).toNat))
                case atStart => exact ⟨0, rfl, Nat.zero_le _, HK4.out, HU.out⟩
                case round =>
                  rename World => X
                  obtain ⟨i, rfl, hi, hbk, hu⟩ := hrel
                  by_cases hlt : i < 64
                  · have iI : (i : Int) < 64 := by omega
                    obtain ⟨x, hx, cx⟩ := hu i hlt
                    obtain ⟨y, hy, cy, fy⟩ := hbk.at (i := i) (by omega)
                    have l0 := fun X => index_b8o pb po i 64 cp hlt X
                    have l1 := fun X => index_b8 g i N N (by omega) X
                    have hst := hbk.set (i := i) hx
                    obtain ⟨bs, o1, _⟩ := hbk.own
                    have hus := hu.set (i := i) hx ⟨_, _, o1⟩
                    have HST := hide hst
                    have HUS := hide hus
                    clear hst hus o1 hbk hu hy hx
                    go_wp2_with (fail)
                    go_roundw
                    case rel => exact ⟨i + 1, int_congrP (by omega), by omega, HST.out, HUS.out⟩
                    case measure => simp [intOf]; omega
                  · have iI : ¬ (i : Int) < 64 := by omega
                    have HK := hide hbk
                    clear hbk hu
                    have c4 : X.cell? ⟨g1, 4, none⟩ = some (.int .i64 tu) := cell8 HK.out.box 4
                    by_cases ht1 : 0 < tu
                    · by_cases ht2 : tu ≤ 512
                      · obtain ⟨k, hk⟩ : ∃ k : Nat, tu - 1 = (k : Int) := ⟨(tu - 1).toNat, by omega⟩
                        obtain ⟨ki, hki⟩ : ∃ ki : Nat, ki = k / 8 := ⟨_, rfl⟩
                        obtain ⟨j, hj⟩ : ∃ j : Nat, j = k % 8 := ⟨_, rfl⟩
                        have kI : (k : Int) < 512 := by omega
                        have wk : IntKind.i64.wrap (tu - 1) = (k : Int) := by rw [IntKind.wrap_i64]; omega
                        have q1 : (k : Int).tdiv 8 = (ki : Int) := by rw [Int.tdiv_eq_ediv_of_nonneg (by omega)]; omega
                        have q2 : (k : Int) / 8 = (ki : Int) := by omega
                        have r1 : (k : Int).tmod 8 = (j : Int) := by rw [Int.tmod_eq_emod_of_nonneg (by omega)]; omega
                        have r2 : (k : Int) % 8 = (j : Int) := by omega
                        have hki2 : ki < 64 := by omega
                        have hj2 : j < 8 := by omega
                        have wki : IntKind.i64.wrap (ki : Int) = (ki : Int) := by rw [IntKind.wrap_i64]; omega
                        obtain ⟨y, hy, cy, fy⟩ := HK.out.at (i := ki) (by omega)
                        obtain ⟨p, hp⟩ : ∃ p : Nat, p = 2 ^ j := ⟨_, rfl⟩
                        have hp2 : p < 256 := by rw [hp]; exact Nat.lt_of_lt_of_le (Nat.pow_lt_pow_right (by omega) hj2) (by decide)
                        have hsh : IntKind.u8.wrap ((2 : Int) ^ j) = (p : Int) := by rw [hp]; exact shl_oneI j hj2
                        have hxo : bits BinOp.xor IntKind.u8 (y : Int) (p : Int) = ((y ^^^ p : Nat) : Int) := u8_xor_nat y p hy hp2
                        have hzl : y ^^^ p < 256 := Nat.xor_lt_two_pow (n := 8) hy hp2
                        generalize y ^^^ p = zz at *
                        have X2 := hide (fun X => index_b8 g ki N N (by omega) X)
                        have s0 : X.drew.cell? ⟨g, ki, none⟩ = some (.int .u8 (y : Int)) ∧ X.drew.cell? ⟨g1, 4, none⟩ = some (.int .i64 tu) := ⟨cy, c4⟩
                        have S0 := hide s0
                        have HZL := hide hzl
                        have FY := hide fy
                        clear hk hki hj hy hp hp2 hzl s0 fy
                        go_wp2_with (fail)
                        try go_frame
                        refine wp_region_early 19 (fun X => X.cell? ⟨g, ki, none⟩ = some (.int .u8 (y : Int)) ∧ X.cell? ⟨g1, 4, none⟩ = some (.int .i64 tu)) (by kernel_rfl) S0.out (fun hS => ?_)
                        refine wpAnyE_take (i := 0) (v := (Value.slice (some ⟨g, 0, none⟩) N N)) rfl (by kernel_rfl) (by kernel_rfl) (by kernel_rfl) (by kernel_rfl) (fun _ _ _ h => h) (Or.inl ⟨by kernel_rfl, fun w' hw => by (go_simp)⟩) hS ?_
                        refine wpAnyE_take (i := 1) (v := (Value.pointer (some ⟨g1, 4, none⟩))) rfl (by kernel_rfl) (by kernel_rfl) (by kernel_rfl) (by kernel_rfl) (fun _ _ _ h => h) (Or.inl ⟨by kernel_rfl, fun w' hw => by (go_simp)⟩) hS ?_
                        refine wpAnyE_take (i := 2) (v := (Value.int .i64 tu)) rfl (by kernel_rfl) (by kernel_rfl) (by kernel_rfl) (by kernel_rfl) (fun _ _ _ h => h) (Or.inl ⟨by kernel_rfl, fun w' hw => by (obtain ⟨z0, z1⟩ := hw; go_simp)⟩) hS ?_
                        refine wpAnyE_take (i := 3) (v := (Value.int .i64 (k : Int))) rfl (by kernel_rfl) (by kernel_rfl) (by kernel_rfl) (by kernel_rfl) (fun _ _ _ h => h) (Or.inl ⟨by kernel_rfl, fun w' hw => by (go_simp)⟩) hS ?_
                        refine wpAnyE_take (i := 4) (v := (Value.int .i64 (ki : Int))) rfl (by kernel_rfl) (by kernel_rfl) (by kernel_rfl) (by kernel_rfl) (fun _ _ _ h => h) (Or.inl ⟨by kernel_rfl, fun w' hw => by (go_simp)⟩) hS ?_
                        refine wpAnyE_take (i := 5) (v := (Value.slice (some ⟨g, 0, none⟩) N N)) rfl (by kernel_rfl) (by kernel_rfl) (by kernel_rfl) (by kernel_rfl) (fun _ _ _ h => h) (Or.inl ⟨by kernel_rfl, fun w' hw => by (go_simp)⟩) hS ?_
                        refine wpAnyE_take (i := 6) (v := (Value.pointer (some ⟨g1, 4, none⟩))) rfl (by kernel_rfl) (by kernel_rfl) (by kernel_rfl) (by kernel_rfl) (fun _ _ _ h => h) (Or.inl ⟨by kernel_rfl, fun w' hw => by (go_simp)⟩) hS ?_
                        refine wpAnyE_take (i := 7) (v := (Value.int .i64 tu)) rfl (by kernel_rfl) (by kernel_rfl) (by kernel_rfl) (by kernel_rfl) (fun _ _ _ h => h) (Or.inl ⟨by kernel_rfl, fun w' hw => by (obtain ⟨z0, z1⟩ := hw; go_simp)⟩) hS ?_
                        refine wpAnyE_take (i := 8) (v := (Value.int .i64 (k : Int))) rfl (by kernel_rfl) (by kernel_rfl) (by kernel_rfl) (by kernel_rfl) (fun _ _ _ h => h) (Or.inl ⟨by kernel_rfl, fun w' hw => by (go_simp)⟩) hS ?_
                        refine wpAnyE_take (i := 9) (v := (Value.int .i64 (ki : Int))) rfl (by kernel_rfl) (by kernel_rfl) (by kernel_rfl) (by kernel_rfl) (fun _ _ _ h => h) (Or.inl ⟨by kernel_rfl, fun w' hw => by (go_simp)⟩) hS ?_
                        refine wpAnyE_take (i := 10) (v := (Value.pointer (some ⟨g, ki, none⟩))) rfl (by kernel_rfl) (by kernel_rfl) (by kernel_rfl) (by kernel_rfl) (fun _ _ _ h => h) (Or.inl ⟨by kernel_rfl, fun w' hw => by (have e := X2.out w'; go_simp)⟩) hS ?_
                        refine wpAnyE_take (i := 11) (v := (Value.int .u8 (y : Int))) rfl (by kernel_rfl) (by kernel_rfl) (by kernel_rfl) (by kernel_rfl) (fun _ _ _ h => h) (Or.inl ⟨by kernel_rfl, fun w' hw => by (obtain ⟨z0, z1⟩ := hw; go_simp)⟩) hS ?_
                        refine wpAnyE_take (i := 12) (v := (Value.pointer (some ⟨g1, 4, none⟩))) rfl (by kernel_rfl) (by kernel_rfl) (by kernel_rfl) (by kernel_rfl) (fun _ _ _ h => h) (Or.inl ⟨by kernel_rfl, fun w' hw => by (go_simp)⟩) hS ?_
                        refine wpAnyE_take (i := 13) (v := (Value.int .i64 tu)) rfl (by kernel_rfl) (by kernel_rfl) (by kernel_rfl) (by kernel_rfl) (fun _ _ _ h => h) (Or.inl ⟨by kernel_rfl, fun w' hw => by (obtain ⟨z0, z1⟩ := hw; go_simp)⟩) hS ?_
                        refine wpAnyE_take (i := 14) (v := (Value.int .i64 (k : Int))) rfl (by kernel_rfl) (by kernel_rfl) (by kernel_rfl) (by kernel_rfl) (fun _ _ _ h => h) (Or.inl ⟨by kernel_rfl, fun w' hw => by (go_simp)⟩) hS ?_
                        refine wpAnyE_take (i := 15) (v := (Value.int .i64 (j : Int))) rfl (by kernel_rfl) (by kernel_rfl) (by kernel_rfl) (by kernel_rfl) (fun _ _ _ h => h) (Or.inl ⟨by kernel_rfl, fun w' hw => by (go_simp)⟩) hS ?_
                        refine wpAnyE_take (i := 16) (v := (Value.int .u8 (p : Int))) rfl (by kernel_rfl) (by kernel_rfl) (by kernel_rfl) (by kernel_rfl) (fun _ _ _ h => h) (Or.inl ⟨by kernel_rfl, fun w' hw => by (go_simp)⟩) hS ?_
                        refine wpAnyE_take (i := 17) (v := (Value.int .u8 (zz : Int))) rfl (by kernel_rfl) (by kernel_rfl) (by kernel_rfl) (by kernel_rfl) (fun _ _ _ h => h) (Or.inl ⟨by kernel_rfl, fun w' hw => by (go_simp)⟩) hS ?_
                        refine wpAnyE_take (i := 18) (v := (Value.pointer (some ⟨g, ki, none⟩))) rfl (by kernel_rfl) (by kernel_rfl) (by kernel_rfl) (by kernel_rfl) (fun _ _ _ h => h) (Or.inl ⟨by kernel_rfl, fun w' hw => by (have e := X2.out w'; go_simp)⟩) hS ?_
                        refine wpAnyE_last (by kernel_rfl) rfl (by kernel_rfl) (by kernel_rfl) (fun K hK => ?_)
                        have f4 := FY.out
                        have c9 := S0.out.1
                        go_simp
                        refine hK.out _ _ ?_
                        try simp only [Act.put, List.getElem_toArray, List.getElem_cons_zero, List.getElem_cons_succ, List.setIfInBounds_toArray, List.set_cons_zero, List.set_cons_succ]
                        clear hK K
                        have hk9 := (HK.out.set (i := ki) HZL.out).drew
                        have HK9 := hide hk9
                        clear hk9 c9 f4 cy c4
                        go_wp2_with (fail)
                        go_ret
                        obtain ⟨bs, o1, o2, o3⟩ := HK9.out.own
                        exact ⟨N, bs, o2, o3, hN, .inr ⟨g, rfl, o1, HK9.out.nw⟩, HK9.out.bel⟩
                      · have ht3 : ¬ tu ≤ 512 := ht2
                        go_wp2
                        go_ret
                        obtain ⟨bs, o1, o2, o3⟩ := HK.out.own
                        exact ⟨N, bs, o2, o3, hN, .inr ⟨g, rfl, o1, HK.out.nw⟩, HK.out.bel⟩
                    · go_wp2
                      go_ret
                      obtain ⟨bs, o1, o2, o3⟩ := HK.out.own
                      exact ⟨N, bs, o2, o3, hN, .inr ⟨g, rfl, o1, HK.out.nw⟩, HK.out.bel⟩
            · have kp : ∀ W, Calls Try.prog 20 #[.int .i64 (N : Int)] W fun r w' => r = .returned (.tuple #[.agg #[.int .i64 0, .int .i64 0, .int .i64 0, .int .i64 0, .int .i64 0], .int .i64 80]) ∧ Below W.heap.size W w' := fun W => rplan_no (N : Int) W (by omega) (by omega) hok
              have KP := hide kp
              clear kp hok
              go_upto_region 13 with (go_at_call 20; refine (KP.out _).mono ?_; rintro e V1 ⟨rfl, hB1⟩; have HB1 := hide hB1; clear hB1)
              have hB2 : Below wr.heap.size wr (V1.alloc (.cells #[.int .i64 0, .int .i64 0, .int .i64 0, .int .i64 0, .int .i64 0] 36)) := HB1.out.alloc HB1.out.size _
              have hk2 := HK2.out.below hB2
              have b3 : (V1.alloc (.cells #[.int .i64 0, .int .i64 0, .int .i64 0, .int .i64 0, .int .i64 0] 36)).cell? ⟨g1, 3, none⟩ = some (.bool rt) := cell8 hk2.box 3
              have HK3 := hide hk2
              generalize V1.alloc (.cells #[.int .i64 0, .int .i64 0, .int .i64 0, .int .i64 0, .int .i64 0] 36) = V2 at *
              clear hB2 hk2 b0
              cases rt with
              | false =>
                go_wp2
                go_ret
                obtain ⟨bs, o1, o2, o3⟩ := HK3.out.own
                exact ⟨N, bs, o2, o3, hN, .inr ⟨g, rfl, o1, HK3.out.nw⟩, HK3.out.bel⟩
              | true =>
                go_wp2
                go_ret
                obtain ⟨bs, o1, o2, o3⟩ := HK3.out.own
                exact ⟨N, bs, o2, o3, hN, .inr ⟨g, rfl, o1, HK3.out.nw⟩, HK3.out.bel⟩
end Go.Proofs.Ytmlhibkofalamaa
namespace Go.Proofs.Ytmlhibkofalamaa
open Go.RowKit Go.Shelf
set_option linter.unusedVariables false

theorem pnew_no (x : Int) (w : World) (hx : -9223372036854775808 ≤ x) (hx' : x ≤ 9223372036854775807) (h : ¬ fitS x) : Calls Try.prog 22 #[.int .i64 x] w fun e w' => e = .returned (.tuple #[.pointer none, .int .i64 80]) ∧ w' = w := by
  by_cases h1 : x < 64
  · clear h
    go_enter Try.func22, Try.ntmps22
    go_wp2
    go_ret2
    exact ⟨rfl, rfl⟩
  · have htm : x.tmod 64 = x % 64 := Int.tmod_eq_emod_of_nonneg (by omega)
    by_cases h2 : 4194304 < x
    · clear h
      go_enter Try.func22, Try.ntmps22
      go_wp2
      go_ret2
      exact ⟨rfl, rfl⟩
    · have h3 : ¬ x % 64 = 0 := fun e => h ⟨by omega, by omega, e⟩
      have h3b : (x % 64 == 0) = false := by simpa using h3
      clear h
      go_enter Try.func22, Try.ntmps22
      go_wp2
      go_ret2
      exact ⟨rfl, rfl⟩
theorem pfrom_no (a : Option Addr) (N cap : Nat) (w : World) (hN : N ≤ 140737488355328) (h : ¬ fitS (N : Int)) : Calls Try.prog 5 #[.slice a N cap] w fun e w' => e = .returned (.tuple #[.pointer none, .int .i64 80]) ∧ w' = w := by
  have KN := hide (pnew_no (N : Int) w (by omega) (by omega) h)
  clear h
  go_enter Try.func5, Try.ntmps5
  go_wp2_with (go_at_call 22; refine (KN.out).mono ?_; rintro e w' ⟨rfl, hw⟩; obtain rfl := hw.symm)
  go_ret2
  exact ⟨rfl, rfl⟩
theorem RefL.congr {w : World} {b : Nat} {M : RLay} {ρ ρ' : RSt} (h : RefL w b M ρ) (h1 : ρ'.n = ρ.n) (h2 : ρ'.ops = ρ.ops) (h3 : ρ'.cnt = ρ.cnt) (h4 : ρ'.gone = ρ.gone) (hc : ∀ i, i < ρ.n → ρ'.con i = ρ.con i ∧ ρ'.mark i = ρ.mark i) : RefL w b M ρ' := by
  obtain ⟨cur, hr, hr2⟩ := h.row
  refine ⟨?_, ⟨cur, hr, fun i hi => ?_⟩, fun i j c hi hcc => ?_, fun i hi => h.ty i (by rw [← h1]; exact hi)⟩
  · have h5 := h.dev
    unfold refC at h5 ⊢
    rw [h1, h2, h3, h4]
    exact h5
  · rw [h1] at hi
    obtain ⟨e1, e2⟩ := hc i hi
    rw [e1, e2]
    exact hr2 i hi
  · rw [h1] at hi
    rw [(hc i hi).1] at hcc
    exact h.all i j c hi hcc
/-- The two devices, in one world. -/
structure Pr (w W : World) (b d : Nat) (L : Lay) (M : RLay) (σ : St) : Prop where
  dev : DevL W b L σ
  ref : RefL W d M (rOf σ (fun _ => -1))
  ok : σ.Ok
  fd : ∀ k, Foot b L σ k → w.heap.size ≤ k
  fr : w.heap.size ≤ d ∧ w.heap.size ≤ M.lb
  bel : Below w.heap.size w W
section
variable {w W W' : World} {b d : Nat} {L : Lay} {M : RLay} {σ : St}
theorem Pr.below (h : Pr w W b d L M σ) (hB : Below W.heap.size W W') : Pr w W' b d L M σ := ⟨h.dev.below hB, h.ref.below hB, h.ok, h.fd, h.fr, bseq h.bel hB⟩
/-- Blocks of the document's device are none of the device's: they are of other types. -/
theorem foot_rty {k : Nat} {q : Array Value} {t : TypeId} {f : Nat × Nat} (h : DevL W b L σ) (hk : Foot b L σ k) (hc : W.heap[k]? = some (.cells q t f)) (ht : t = 67 ∨ t = 70) : False := by
  have hne : t ≠ 58 ∧ t ≠ 62 ∧ t ≠ 103 ∧ t ≠ 115 ∧ t ≠ 131 ∧ t ≠ 3 := by rcases ht with rfl | rfl <;> decide
  rcases hk with rfl | rfl | rfl | rfl | ⟨i, hi, rfl | hr⟩ | ha | hb
  · exact ne_ty hc h.dev hne.1 rfl
  · exact ne_ty hc h.seen hne.2.1 rfl
  · obtain ⟨es, q, hm⟩ := h.old.block
    exact ne_map hc hm rfl
  · obtain ⟨es, q, hm⟩ := h.flm.block
    exact ne_map hc hm rfl
  · exact ne_ty hc (h.pasts i hi).1 hne.2.2.1 rfl
  · obtain ⟨c', hc'⟩ := (h.pasts i hi).row hr
    exact ne_ty hc hc' hne.2.2.2.1 rfl
  · obtain ⟨c', hc'⟩ := h.av_row ha
    exact ne_ty hc hc' hne.2.2.2.2.1 rfl
  · obtain ⟨c', hc'⟩ := h.kbt k hb
    exact ne_ty hc hc' hne.2.2.2.2.2 rfl
theorem rfoot_ty {ρ : RSt} {k : Nat} (h : RefL W d M ρ) (hk : RFoot d M ρ k) : ∃ q t f, W.heap[k]? = some (.cells q t f) ∧ t ≠ 58 ∧ t ≠ 62 := by
  rcases hk with rfl | rfl | ⟨i, hi, rfl⟩ | ⟨i, j, hi, hj, rfl⟩
  · exact ⟨_, _, _, h.dev, by decide, by decide⟩
  · obtain ⟨cur, hr, _⟩ := h.row
    exact ⟨_, _, _, hr, by decide, by decide⟩
  · obtain ⟨cur, hr⟩ := h.ty i hi
    exact ⟨_, _, _, hr, by decide, by decide⟩
  · exact ⟨_, _, _, (h.all i j _ hi (List.getElem?_eq_getElem hj)).2, by decide, by decide⟩
/-- The power goes on both, where each line has one content. -/
theorem pr_crash (h : Pr w W b d L M σ) (hp : ∀ i, σ.past i = []) (ho : σ.off = false) :
    Calls Try.prog 18 #[.pointer (some ⟨b, 0, none⟩), .slice none 0 0] W fun e W1 => e = .returned (.int .i64 0) ∧
      Calls Try.prog 19 #[.pointer (some ⟨d, 0, none⟩), .slice none 0 0] W1 fun e W2 => e = .returned (.int .i64 0) ∧ ∃ L' M' σ', Pr w W2 b d L' M' σ' := by
  refine (pcrash_any (a := none) (kp := []) 0 h.dev h.ok ho ⟨by simp, .inl ⟨rfl, rfl⟩⟩ (by simp)).mono ?_
  rintro e W1 ⟨rfl, L', σ', q1, q2, q3, q4, _⟩
  refine ⟨rfl, ?_⟩
  have hr1 : RefL W1 d M (rOf σ (fun _ => -1)) := h.ref.keep fun k hk => q4.block (h.ref.lt hk) (fun hx => by
    obtain ⟨q, t, f, hc, n1, n2⟩ := rfoot_ty h.ref hk
    rcases hx with e | e
    · rw [e] at hc; exact ne_ty hc h.dev.dev n1 rfl
    · rw [e] at hc; exact ne_ty hc h.dev.seen n2 rfl)
  refine (rcrash_nil hr1 (rOf_ok h.ok _) ho).mono ?_
  rintro e W2 ⟨rfl, M', ⟨r1, hlb⟩, r2⟩
  obtain ⟨cur, hrow, _⟩ := hr1.row
  have hd2 : DevL W2 b L' σ' := q2.keep fun k hk => r2.block (q2.foot_is hk) (fun hx => by
    rcases hx with e | e
    · rw [e] at hk; exact foot_rty q2 hk hr1.dev (.inl rfl)
    · rw [e] at hk; exact foot_rty q2 hk hrow (.inr rfl))
  have hB1 : Below w.heap.size w W1 := ⟨q4.1.trans h.bel.os, q4.2.1.trans h.bel.tape, q4.2.2.1.trans h.bel.output, Nat.le_trans h.bel.size q4.size, fun k hk => (q4.block (Nat.lt_of_lt_of_le hk h.bel.size) (fun hx => by
    rcases hx with e | e
    · have := h.fd b (.inl rfl); omega
    · have := h.fd L.sb (.inr (.inl rfl)); omega)).trans (h.bel.block k hk)⟩
  have hB2 : Below w.heap.size w W2 := ⟨r2.1.trans hB1.os, r2.2.1.trans hB1.tape, r2.2.2.1.trans hB1.output, Nat.le_trans hB1.size r2.size, fun k hk => (r2.block (Nat.lt_of_lt_of_le hk hB1.size) (fun hx => by
    have := h.fr
    omega)).trans (hB1.block k hk)⟩
  have hl : ∀ i, i < σ.n → σ'.line i = σ.line i := fun i hi => by
    rw [q1.lines i hi]
    unfold lost
    rw [hp]
    simp
  refine ⟨rfl, L', M', σ', hd2, r1.congr q1.n q1.ops q1.cnt (by show σ'.off = true; exact q1.off) (fun i hi => ?_), Lost.ok h.ok q1, fun k hk => ?_, ⟨h.fr.1, ?_⟩, hB2⟩
  · have hi' : i < σ.n := hi
    refine ⟨?_, ?_⟩
    · show σ'.past i ++ [σ'.line i] = if i < σ.n then (σ.past i ++ [σ.line i]).take 1 else σ.past i ++ [σ.line i]
      rw [if_pos hi', q1.past, hp i, hl i hi']
      rfl
    · show (-1 : Int) = if i < σ.n then -1 else -1
      rw [if_pos hi']
  · rcases q3 k hk with h5 | h5
    · exact h.fd k h5
    · exact Nat.le_trans h.bel.size h5
  · rw [hlb]; exact h.fr.2
end
end Go.Proofs.Ytmlhibkofalamaa
namespace Go.Proofs.Ytmlhibkofalamaa
open Go.RowKit Go.Shelf
set_option linter.unusedVariables false

def nmU : List UInt8 := [86, 69, 76, 76, 85, 77, 48, 49]
theorem sb_name (x : Int) (j : Nat) (hj : j < nmU.length) : (sbX x)[j]? = some (nmU[j]).toNat := by
  have h : (sbX x)[j]? = sbName[j]? := by
    unfold sbX sbB sbPre
    have l8 : sbName.length = 8 := rfl
    have l9 : nmU.length = 8 := rfl
    rw [List.append_assoc, List.getElem?_append_left (by omega)]
  rw [h]
  have l9 : nmU.length = 8 := rfl
  obtain rfl | rfl | rfl | rfl | rfl | rfl | rfl | rfl : j = 0 ∨ j = 1 ∨ j = 2 ∨ j = 3 ∨ j = 4 ∨ j = 5 ∨ j = 6 ∨ j = 7 := by omega
  all_goals rfl
theorem OwnL.cell {w : World} {g : Nat} {bs : List Nat} (h : OwnL w g bs) (i x : Nat) (hx : bs[i]? = some x) : w.cell? ⟨g, i, none⟩ = some (.int .u8 (x : Int)) := by
  rw [cell8 h]
  simp [hx, B8]
theorem name_str {w : World} {g : Nat} {x : Int} (cap : Nat) (h : OwnL w g (sbX x)) : (convert 22 9 (.slice (some ⟨g, 0, none⟩) 8 cap)).run Try.prog w = .ok (.string ⟨#[86, 69, 76, 76, 85, 77, 48, 49]⟩) w := by
  refine run_convert_bytes_back (P := Try.prog) w 22 9 5 ⟨g, 0, none⟩ cap nmU Try.underlying22 Try.underlying5 Try.underlying9 (fun j hj => ?_)
  have e := h.cell j _ (sb_name x j hj)
  rw [Addr.add_mid, Nat.zero_add]
  exact e
theorem sb_8 : (sbX 36992)[8]? = some 128 ∧ (sbX 36992)[9]? = some 144 := by decide +kernel
set_option maxRecDepth 100000 in
set_option maxHeartbeats 400000 in
theorem works_any (w : World) : Calls Try.prog 8 #[] w fun e w' => e = .returned (.bool true) ∧ Below w.heap.size w w' := by
  have hk : okS 36992 := by unfold okS; omega
  have kp : ∀ W, Calls Try.prog 25 #[.int .i64 36992] W fun e w' => e = .returned (.tuple #[.agg #[.int .i64 36992, .int .i64 128, .int .i64 32768, .int .i64 32896, .int .i64 16], .int .i64 0]) ∧ Below W.heap.size W w' := fun W => plan_ok 36992 W hk
  have kl : ∀ W, Calls Try.prog 26 #[.agg #[.int .i64 36992, .int .i64 128, .int .i64 32768, .int .i64 32896, .int .i64 16]] W fun e w' => ∃ g, e = .returned (.tuple #[.slice (some ⟨g, 0, none⟩) 64 64, .int .i64 0]) ∧ OwnL w' g (sbX 36992) ∧ W.heap.size ≤ g ∧ Below W.heap.size W w' := fun W => line_ok 36992 W hk
  have s8 := sb_8
  have hg := Try.noGuard36
  have he := fun W => eql_su 36992 128 32768 32896 16 36992 128 32768 32896 16 W
  have hs : sameS 36992 128 32768 32896 16 36992 128 32768 32896 16 = true := by simp [sameS]
  rw [hs] at he
  have nm := fun W g cap h => name_str (w := W) (g := g) (x := 36992) cap h
  generalize sbX 36992 = sb at *
  have KP := hide kp
  have KL := hide kl
  have NM := hide nm
  have S8 := hide s8
  clear kp kl nm s8 hs hk
  go_enter Try.func8, Try.ntmps8
  go_wp2_with (first
    | (go_at_call 25; refine (KP.out _).mono ?_; rintro e W1 ⟨rfl, hB1⟩; have HB1 := hide hB1; clear hB1)
    | (go_at_call 26; refine (KL.out _).mono ?_; rintro e W2 ⟨g, rfl, ho2, hg2, hB2⟩; obtain ⟨c0, c1, c2, c3, c4⟩ := suBox (row_after hB2); have b8 := ho2.cell 8 _ S8.out.1; have b9 := ho2.cell 9 _ S8.out.2; have nm := NM.out W2 g 64 ho2; have h1 := HB1.out.alloc (o := .cells #[.int .i64 36992, .int .i64 128, .int .i64 32768, .int .i64 32896, .int .i64 16] 36) HB1.out.size; have HB2 := hide (h1.trans (hB2.mono h1.size)); clear ho2 hg2 hB2 h1))
  go_ret
  exact ⟨by simp, HB2.out⟩
end Go.Proofs.Ytmlhibkofalamaa
namespace Go.Proofs.Ytmlhibkofalamaa
open Go.RowKit Go.Shelf
set_option linter.unusedVariables false

section
variable {w W : World} {b d : Nat} {L : Lay} {M : RLay} {σ : St}
/-- The two images, held against one another. -/
theorem pr_images (h : Pr w W b d L M σ) (X : World) (hX : Below W.heap.size W X) :
    Calls Try.prog 16 #[.pointer (some ⟨b, 0, none⟩)] X fun e XA => ∃ v1, e = .returned v1 ∧
      Calls Try.prog 17 #[.pointer (some ⟨d, 0, none⟩)] XA fun e XB => ∃ v2, e = .returned v2 ∧
        Calls Try.prog 15 #[v1, v2] XB fun e XC => e = .returned (.bool true) ∧ Below W.heap.size W XC := by
  have hbl := h.ok.len
  have hmx := h.ok.max
  have h1 := h.below hX
  refine (pimg_any h1.dev h1.ok).mono ?_
  rintro e XA ⟨rfl, o1, b1⟩
  refine ⟨_, rfl, ?_⟩
  have h2 := h1.below b1
  refine (rimg_any h2.ref h2.ok).mono ?_
  rintro e XB ⟨v2, rfl, o2, b2⟩
  obtain ⟨a2, c2, rfl, s2⟩ := own_slB o2 h.ok.byte hbl
  refine ⟨_, rfl, ?_⟩
  have ke := eqBytes_any (some ⟨X.heap.size, 0, none⟩) a2 (64 * σ.n) c2 σ.bytes σ.bytes XB ((o1.below b2 o1.lt).sl h.ok.byte) s2 (by rw [hbl]; omega)
  rw [hbl, decide_eq_true rfl] at ke
  refine ke.mono ?_
  rintro e XC ⟨rfl, nq, rfl⟩
  exact ⟨rfl, bseq hX (bseq b1 (bseq b2 (below_drewN (Below.refl _ _) nq)))⟩
end
set_option maxRecDepth 100000 in
set_option maxHeartbeats 4000000 in
theorem superReads_walk (w : World) (sz tu : Int) (fi : Nat) (ha : Option Addr) (hl hc : Nat) (rt : Bool) (hd : List Nat) (hs : Sl w ha hd) (hdl : hd.length = hl) (hll : hl ≤ 9223372036854775807) (hfi : fi < 256) (hsz : -9223372036854775808 ≤ sz ∧ sz ≤ 9223372036854775807) (htu : -9223372036854775808 ≤ tu ∧ tu ≤ 9223372036854775807) :
    Calls Try.prog 3 #[.agg #[.int .i64 sz, .int .u8 (fi : Int), .slice ha hl hc, .bool rt, .int .i64 tu]] w fun e w' => e = .returned (.bool true) ∧ Below w.heap.size w w' := by
  have hA : Below w.heap.size w (w.alloc (.cells #[.int .i64 sz, .int .u8 (fi : Int), .slice ha hl hc, .bool rt, .int .i64 tu] 24)) := (Below.refl _ w).alloc (Nat.le_refl _) _
  have KB := hide (imbytes_any (w.alloc (.cells #[.int .i64 sz, .int .u8 (fi : Int), .slice ha hl hc, .bool rt, .int .i64 tu] 24)) sz tu fi ha hl hc rt hd (hs.below hA) hdl hll hfi hsz htu)
  have HA := hide hA
  have KWK := hide (fun W => works_any W)
  clear hA hs hdl
  go_enter Try.func3, Try.ntmps3
  go_upto_region 2 with (go_at_call 4; refine (KB.out).mono ?_; rintro e W1 ⟨N, bs, hbl, hbb, hN, hres, hB1⟩; have HBL := hide hbl; have HBB := hide hbb; have HB1 := hide (bseq HA.out hB1); clear hbl hbb hB1; rcases hres with ⟨rfl, hN0⟩ | ⟨g, rfl, hown, hgn⟩)
  · have hbs : bs = [] := List.eq_nil_of_length_eq_zero (by rw [HBL.out, hN0])
    have kc := copyBytes_any none 0 [] W1 (.inl rfl) (by simp)
    have hnf : ¬ fitS ((0 : Nat) : Int) := fun h => by have := h.1; omega
    have KC := hide kc
    have KR := hide (fun (X : World) => rfrom_no none 0 0 X (by omega) hnf)
    have KF := hide (fun (a : Option Addr) (X : World) => pfrom_no a 0 0 X (by omega) hnf)
    clear kc hnf hbs
    go_wp2_with (first
      | (go_at_call 6; refine (KC.out).mono ?_; rintro e W2 ⟨rfl, ho2, hB2⟩; have HB2 := hide (bseq HB1.out hB2); clear ho2 hB2)
      | (go_at_call 5; refine (KF.out _ W2).mono ?_; rintro e w' ⟨rfl, hw⟩; obtain rfl := hw.symm)
      | (go_at_call 7; refine (KR.out W2).mono ?_; rintro e w' ⟨rfl, hw⟩; obtain rfl := hw.symm)
      | (go_at_call 8; refine (KWK.out W2).mono ?_; rintro e W3 ⟨rfl, hB3⟩; have HB3 := hide (bseq HB2.out hB3); clear hB3))
    go_ret
    exact ⟨rfl, HB3.out⟩
  · have kc := copyBytes_any (some ⟨g, 0, none⟩) N bs W1 (hown.sl HBB.out) (by rw [HBL.out]; omega)
    rw [HBL.out] at kc
    have KC := hide kc
    have HOW := hide hown
    clear kc hown
    by_cases hf : fitS (N : Int)
    · obtain ⟨f1, f2, f3⟩ := hf
      obtain ⟨m, hm⟩ : ∃ m, N = 64 * m := ⟨N / 64, by omega⟩
      have hm1 : 1 ≤ m := by omega
      have hm2 : m ≤ 65536 := by omega
      have HM := hide hm
      clear hm f1 f2 f3
      go_upto_region 8 with (first
        | (go_at_call 6; refine (KC.out).mono ?_; rintro e W2 ⟨rfl, ho2, hB2⟩; have KF := hide (pfrom_any W2 W1.heap.size 0 N N m bs (by have h5 := ho2; exact fun i x hx => ⟨by rw [Nat.zero_add]; exact h5.cell i x hx, HBB.out x (List.mem_of_getElem? hx)⟩) ho2.lt HBL.out HM.out hm1 hm2 HBB.out (Nat.le_refl _)); have HB2 := hide hB2; clear ho2 hB2)
        | (go_at_call 5; refine (KF.out).mono ?_; rintro e W3 ⟨b, L, rfl, hd3, hf3, hB3, hN3⟩; have HD3 := hide hd3; have HF3 := hide hf3; have HB3 := hide hB3; have KR := hide (rfrom_any W3 g 0 N N m bs (by have h5 := (HOW.out.below HB2.out HOW.out.lt).below hB3 (Nat.lt_of_lt_of_le HOW.out.lt HB2.out.size); exact fun i x hx => ⟨by rw [Nat.zero_add]; exact h5.cell i x hx, HBB.out x (List.mem_of_getElem? hx)⟩) (Nat.lt_of_lt_of_le HOW.out.lt (Nat.le_trans HB2.out.size hB3.size)) HBL.out HM.out hm1 hm2 HBB.out (Nat.le_refl _)); clear hd3 hf3 hB3 hN3)
        | (go_at_call 7; refine (KR.out).mono ?_; rintro e W4 ⟨d, M, rfl, hr4, hf4, hB4⟩; have HR4 := hide hr4; have HF4 := hide hf4; have HB4 := hide hB4; clear hr4 hf4 hB4))
      have hpr : Pr w W4 b d L M (fromD m bs) := by
        have e1 := HB1.out.size
        have e2 := HB2.out.size
        have e3 := HB3.out.size
        refine ⟨HD3.out.below HB4.out, HR4.out, fromD_ok hm1 hm2 (HBL.out.trans HM.out) HBB.out, fun k hk => ?_, ⟨?_, ?_⟩, bseq (bseq (bseq HB1.out HB2.out) HB3.out) HB4.out⟩
        · have := HF3.out k hk; omega
        · have := HF4.out d (.inl rfl); omega
        · have := HF4.out M.lb (.inr (.inl rfl)); omega
      have HPR := hide hpr
      clear hpr KC HD3 HF3 HB3 HR4 HF4 HB4 HB2 KF KR
      go_wp2_with (fail)
      go_loopw [8] (fun iv wr => ∃ (t : Nat) (L : Lay) (M : RLay) (σ : St), iv = .int .i64 (t : Int) ∧ t ≤ 2 ∧ Pr w wr b d L M σ ∧ (t = 0 → σ.off = false ∧ ∀ i, σ.past i = [])) (fun iv _ => (2 - (intOf iv).toNat))
      case atStart => exact ⟨0, L, M, _, rfl, by omega, HPR.out, fun _ => ⟨rfl, fun _ => rfl⟩⟩
      case round =>
        obtain ⟨t, L2, M2, σ, rfl, ht, hp, ht0⟩ := hrel
        by_cases hlt : t < 2
        · have tI : (t : Int) < 2 := by omega
          have kr1 := fun X (hX : Below wr.heap.size wr X) => read_all (hp.below hX).dev hp.ok
          have kr2 := fun X (hX : Below wr.heap.size wr X) => rread_all (hp.below hX).ref hp.ok
          have kt1 := fun X (hX : Below wr.heap.size wr X) => root_all (hp.below hX).dev hp.ok
          have kt2 := fun X (hX : Below wr.heap.size wr X) => rroot_all (hp.below hX).ref hp.ok
          have ko1 := fun X (hX : Below wr.heap.size wr X) => pops_any (hp.below hX).dev
          have ko2 := fun X (hX : Below wr.heap.size wr X) => rops_any (hp.below hX).ref
          have KI := hide (pr_images hp)
          have KCR := hide (fun (h0 : t = 0) X (hX : Below wr.heap.size wr X) => pr_crash (hp.below hX) (ht0 h0).2 (ht0 h0).1)
          have HP := hide hp
          unfold suC at kr1 kr2
          have eops : ((rOf σ (fun _ => -1)).ops : Int) = (σ.ops : Int) := rfl
          simp only [eops] at ko2
          generalize (rd σ).a = a0 at *
          generalize (rd σ).b = a1 at *
          generalize (rd σ).c = a2 at *
          generalize (rd σ).d = a3 at *
          generalize (rd σ).e = a4 at *
          generalize (rd σ).err = er at *
          generalize rtV σ = rv at *
          generalize σ.ops = op at *
          have KR1 := hide kr1
          have KR2 := hide kr2
          have KT1 := hide kt1
          have KT2 := hide kt2
          have KO1 := hide ko1
          have KO2 := hide ko2
          clear kr1 kr2 kt1 kt2 ko1 ko2 hp ht0 eops
          go_upto_region 15 with (first
            | (go_at_call 9; refine (KR1.out wr (Below.refl _ _)).mono ?_; rintro e V1 ⟨rfl, hB⟩; have HV1 := hide (hB.alloc (o := (.cells #[.int .i64 a0, .int .i64 a1, .int .i64 a2, .int .i64 a3, .int .i64 a4] 36)) hB.size); clear hB)
            | (go_at_call 10; refine (KR2.out _ HV1.out).mono ?_; rintro e V2 ⟨rfl, hB⟩; have HK2 := hide (hB.alloc (o := (.cells #[.int .i64 a0, .int .i64 a1, .int .i64 a2, .int .i64 a3, .int .i64 a4] 36)) hB.size); have HV2 := hide (bseq HV1.out (hB.alloc (o := (.cells #[.int .i64 a0, .int .i64 a1, .int .i64 a2, .int .i64 a3, .int .i64 a4] 36)) hB.size)); clear hB)
            | (go_at_call 11; refine (KT1.out _ HV2.out).mono ?_; rintro e V3 ⟨rfl, hB⟩; have HK3 := hide hB; have HV3 := hide (bseq HV2.out hB); clear hB)
            | (go_at_call 12; refine (KT2.out _ HV3.out).mono ?_; rintro e V4 ⟨rfl, hB⟩; have HK4 := hide hB; have HV4 := hide (bseq HV3.out hB); clear hB))
          have r9 := row_keep (row_keep (row_after HK2.out) HK3.out) HK4.out
          have r11 := row_keep (row_keep (heap_alloc_new V2 _) HK3.out) HK4.out
          obtain ⟨c0, c1, c2, c3, c4⟩ := suBox r9
          obtain ⟨k0, k1, k2, k3, k4⟩ := suBox r11
          have hg := Try.noGuard36
          have he := fun W => eql_su a0 a1 a2 a3 a4 a0 a1 a2 a3 a4 W
          have hs : sameS a0 a1 a2 a3 a4 a0 a1 a2 a3 a4 = true := by simp [sameS]
          rw [hs] at he
          have hec : (er != er) = false := by simp
          have hrv : ((rv : Int) != (rv : Int)) = false := by simp
          have hop : ((op : Int) != (op : Int)) = false := by simp
          have KI4 := hide (KI.out V4 HV4.out)
          have KO14 := hide (KO1.out V4 HV4.out)
          have KO24 := hide (KO2.out V4 HV4.out)
          clear r9 r11 hs
          go_upto_region 17 with (first
            | (go_at_call 13; refine (KO14.out).mono ?_; rintro e w' ⟨rfl, hw⟩; obtain rfl := hw.symm)
            | (go_at_call 14; refine (KO24.out).mono ?_; rintro e w' ⟨rfl, hw⟩; obtain rfl := hw.symm)
            | (go_at_call 16; refine (KI4.out).mono ?_; rintro e VA ⟨v1, rfl, hq⟩; have KI5 := hide hq; clear hq)
            | (go_at_call 17; refine (KI5.out).mono ?_; rintro e VB ⟨v2, rfl, hq⟩; have KI6 := hide hq; clear hq)
            | (go_at_call 15; refine (KI6.out).mono ?_; rintro e VC ⟨rfl, hB⟩; have HVC := hide hB; clear hB))
          clear c0 c1 c2 c3 c4 k0 k1 k2 k3 k4 hg he hec hrv hop
          by_cases h0 : t = 0
          · have hz : (t : Int) = 0 := by omega
            have KC0 := hide (KCR.out h0 VC HVC.out)
            have H0 := hide h0
            clear h0
            go_wp2_with (first
              | (go_at_call 18; refine (KC0.out).mono ?_; rintro e VD ⟨rfl, hq⟩; have KC1 := hide hq; clear hq)
              | (go_at_call 19; refine (KC1.out).mono ?_; rintro e VE ⟨rfl, L3, M3, σ3, hp3⟩; have HP3 := hide hp3; clear hp3))
            go_roundw
            case rel => exact ⟨t + 1, L3, M3, σ3, int_congrP (by omega), by omega, HP3.out, fun h => by omega⟩
            case measure => simp [intOf]; omega
          · have hz : ¬ (t : Int) = 0 := by omega
            have hzb : ((t : Int) == 0) = false := by simpa using hz
            go_wp2_with (fail)
            go_roundw
            case rel => exact ⟨t + 1, L2, M2, σ, int_congrP (by omega), by omega, HP.out.below HVC.out, fun h => by omega⟩
            case measure => simp [intOf]; omega
        · have tI : ¬ (t : Int) < 2 := by omega
          have HBW := hide hp.bel
          clear hp ht0
          go_wp2_with (go_at_call 8; refine (KWK.out _).mono ?_; rintro e W9 ⟨rfl, hB9⟩; have HB9 := hide hB9; clear hB9)
          go_ret
          exact ⟨rfl, bseq HBW.out HB9.out⟩
    · have KR := hide (fun (X : World) => rfrom_no (some ⟨g, 0, none⟩) N N X (by omega) hf)
      have KF := hide (fun (a : Option Addr) (X : World) => pfrom_no a N N X (by omega) hf)
      clear hf
      go_wp2_with (first
        | (go_at_call 6; refine (KC.out).mono ?_; rintro e W2 ⟨rfl, ho2, hB2⟩; have HB2 := hide (bseq HB1.out hB2); clear ho2 hB2)
        | (go_at_call 5; refine (KF.out _ W2).mono ?_; rintro e w' ⟨rfl, hw⟩; obtain rfl := hw.symm)
        | (go_at_call 7; refine (KR.out W2).mono ?_; rintro e w' ⟨rfl, hw⟩; obtain rfl := hw.symm)
        | (go_at_call 8; refine (KWK.out W2).mono ?_; rintro e W3 ⟨rfl, hB3⟩; have HB3 := hide (bseq HB2.out hB3); clear hB3))
      go_ret
      exact ⟨rfl, HB3.out⟩
end Go.Proofs.Ytmlhibkofalamaa
namespace Go.Proofs.Ytmlhibkofalamaa
open Go.ChangeShapes Go.WideShapes Go.ChangeAt Go.RowKit
set_option linter.unusedVariables false

theorem own : ownKnob Try.prog.godebug = none := by kernel_rfl
theorem laidOut : laidOutB Try.prog = true := by kernel_rfl
theorem Try.bytes5 : Try.prog.bytesOf 5 = 1 := by kernel_rfl

/-- Numbers that fit a byte, as naturals. -/
theorem nats_of (zs : List Int) (h : ∀ n ∈ zs, (Lit.int .u8 n).wf = true) : ∃ bs : List Nat, zs = bs.map (fun (x : Nat) => (x : Int)) ∧ ∀ x ∈ bs, x < 256 := by
  refine ⟨zs.map Int.toNat, ?_, ?_⟩
  · rw [List.map_map]
    refine (List.map_id zs).symm.trans (List.map_congr_left fun z hz => ?_)
    have := bounds_u8 (h z hz)
    simp
    omega
  · intro x hx
    obtain ⟨z, hz, rfl⟩ := List.mem_map.1 hx
    have := bounds_u8 (h z hz)
    omega

theorem open_bytes {H : Type} {enc : TypeId × Value → H} {W : World} {a : Option Addr} {len cap : Nat} {d : DataW H} {p : List MemPlace} (h : DataW.Trod enc Try.prog W 0 (fun _ => true) true 22 (.slice a len cap) d p)
    (hz : ∀ el sp, d = .slice el sp → (el.length + sp.length) * Try.prog.bytesOf 5 ≤ reachBytes) : ∃ bs : List Nat, len = bs.length ∧ Sl W a bs ∧ bs.length ≤ 140737488351232 ∧ (a = none → cap = 0) ∧ len ≤ cap ∧ cap ≤ maxLen ∧ (d = .nil ∧ bs = [] ∨ ∃ el sp, d = .slice el sp ∧ el.length = bs.length) := by
  obtain ⟨fuel, hf⟩ := h
  rcases open_ints Try.underlying22 Try.underlying5 (by kernel_rfl) hf with ⟨hcs, _⟩ | ⟨x, l, c, zs, hcs, _, hl, hm, hzl, hx, hcell, hwz⟩
  · simp [Value.cells] at hcs
    obtain ⟨rfl, rfl, rfl⟩ := hcs
    rename_i hx0
    simp only [Prod.mk.injEq] at hx0
    exact ⟨[], rfl, .inl rfl, by simp, fun _ => rfl, Nat.le_refl _, Nat.zero_le _, .inl ⟨hx0.1, rfl⟩⟩
  · simp [Value.cells] at hcs
    obtain ⟨rfl, rfl, rfl⟩ := hcs
    simp only [Prod.mk.injEq] at hx
    obtain ⟨hd, _⟩ := hx
    have hw := hz _ _ hd
    obtain ⟨bs, rfl, hb⟩ := nats_of zs hwz
    simp only [if_true, List.length_map] at hzl
    rw [Try.bytes5] at hw
    simp only [lits, List.length_map, List.length_take, List.length_drop, reachBytes] at hw
    refine ⟨bs.take len, by rw [List.length_take]; omega, ?_, by rw [List.length_take]; omega, fun h => (by cases h), hl, hm, .inr ⟨_, _, hd, by simp [lits]⟩⟩
    by_cases h0 : len = 0
    · subst h0; exact .inl (by simp)
    · obtain ⟨b, off, spot⟩ := x
      have hc := hcell 0 (by simp; omega)
      have hspot : spot = none := by simpa [Addr.add] using World.cell?_spot hc
      subst hspot
      refine .inr ⟨b, off, rfl, ?_, fun i y hy => ?_⟩
      · exact World.block_lt_of_cell? _ _ hc
      · have hi : i < len := by
          have := (List.getElem?_eq_some_iff.1 hy).1
          rw [List.length_take] at this
          omega
        rw [List.getElem?_take, if_pos hi] at hy
        have h1 := hcell i (by simp; omega)
        refine ⟨?_, hb y (List.mem_of_getElem? hy)⟩
        have e : (⟨b, off, none⟩ : Addr).add i = ⟨b, off + i, none⟩ := by simp [Addr.add]
        rw [e] at h1
        rw [h1, List.getD_eq_getElem?_getD, List.getElem?_map, hy]
        rfl
theorem open_bytes_up {H : Type} {enc : TypeId × Value → H} {W : World} {a : Option Addr} {len cap : Nat} {d : DataW H} {p : List MemPlace} (h : DataW.Trod enc Try.prog W 0 (fun _ => true) true 22 (.slice a len cap) d p) : ∃ bs : List Nat, len = bs.length ∧ Sl W a bs ∧ bs.length ≤ maxLen ∧ (a = none → cap = 0) ∧ len ≤ cap ∧ cap ≤ maxLen ∧ (d = .nil ∧ bs = [] ∨ ∃ el sp, d = .slice el sp ∧ el.length = bs.length) := by
  obtain ⟨fuel, hf⟩ := h
  rcases open_ints Try.underlying22 Try.underlying5 (by kernel_rfl) hf with ⟨hcs, _⟩ | ⟨x, l, c, zs, hcs, _, hl, hm, hzl, hx, hcell, hwz⟩
  · simp [Value.cells] at hcs
    obtain ⟨rfl, rfl, rfl⟩ := hcs
    rename_i hx0
    simp only [Prod.mk.injEq] at hx0
    exact ⟨[], rfl, .inl rfl, by simp, fun _ => rfl, Nat.le_refl _, Nat.zero_le _, .inl ⟨hx0.1, rfl⟩⟩
  · simp [Value.cells] at hcs
    obtain ⟨rfl, rfl, rfl⟩ := hcs
    simp only [Prod.mk.injEq] at hx
    obtain ⟨hd, _⟩ := hx
    obtain ⟨bs, rfl, hb⟩ := nats_of zs hwz
    simp only [if_true, List.length_map] at hzl
    refine ⟨bs.take len, by rw [List.length_take]; omega, ?_, by rw [List.length_take]; omega, fun h => (by cases h), hl, hm, .inr ⟨_, _, hd, by simp [lits]⟩⟩
    by_cases h0 : len = 0
    · subst h0; exact .inl (by simp)
    · obtain ⟨b, off, spot⟩ := x
      have hc := hcell 0 (by simp; omega)
      have hspot : spot = none := by simpa [Addr.add] using World.cell?_spot hc
      subst hspot
      refine .inr ⟨b, off, rfl, ?_, fun i y hy => ?_⟩
      · exact World.block_lt_of_cell? _ _ hc
      · have hi : i < len := by
          have := (List.getElem?_eq_some_iff.1 hy).1
          rw [List.length_take] at this
          omega
        rw [List.getElem?_take, if_pos hi] at hy
        have h1 := hcell i (by simp; omega)
        refine ⟨?_, hb y (List.mem_of_getElem? hy)⟩
        have e : (⟨b, off, none⟩ : Addr).add i = ⟨b, off + i, none⟩ := by simp [Addr.add]
        rw [e] at h1
        rw [h1, List.getD_eq_getElem?_getD, List.getElem?_map, hy]
        rfl
theorem open_nums_up {H : Type} {enc : TypeId × Value → H} {W : World} {a : Option Addr} {len cap : Nat} {d : DataW H} {p : List MemPlace} (h : DataW.Trod enc Try.prog W 0 (fun _ => true) true 79 (.slice a len cap) d p) :
    ∃ zs : List Int, len = zs.length ∧ SlI W a zs ∧ (∀ z ∈ zs, -9223372036854775808 ≤ z ∧ z ≤ 9223372036854775807) ∧ (d = .nil ∧ zs = [] ∨ ∃ el sp, d = .slice el sp ∧ el.length = zs.length) := by
  obtain ⟨fuel, hf⟩ := h
  rcases open_ints Try.underlying79 Try.underlying3 (by kernel_rfl) hf with ⟨hcs, hx0⟩ | ⟨x, l, c, zs, hcs, _, hl, hm, hzl, hx, hcell, hwz⟩
  · simp [Value.cells] at hcs
    obtain ⟨rfl, rfl, rfl⟩ := hcs
    simp only [Prod.mk.injEq] at hx0
    exact ⟨[], rfl, .inl rfl, by simp, .inl ⟨hx0.1, rfl⟩⟩
  · simp [Value.cells] at hcs
    obtain ⟨rfl, rfl, rfl⟩ := hcs
    simp only [Prod.mk.injEq] at hx
    obtain ⟨hd, _⟩ := hx
    simp only [if_true] at hzl
    refine ⟨zs.take len, by rw [List.length_take]; omega, ?_, fun z hz => bounds_i64 (hwz z (List.mem_of_mem_take hz)), .inr ⟨_, _, hd, by simp [lits]⟩⟩
    by_cases h0 : len = 0
    · subst h0; exact .inl (by simp)
    · obtain ⟨b, off, spot⟩ := x
      have hc := hcell 0 (by omega)
      have hspot : spot = none := by simpa [Addr.add] using World.cell?_spot hc
      subst hspot
      refine .inr ⟨b, off, rfl, World.block_lt_of_cell? _ _ hc, fun i y hy => ?_⟩
      have hi : i < len := by
        have := (List.getElem?_eq_some_iff.1 hy).1
        rw [List.length_take] at this
        omega
      rw [List.getElem?_take, if_pos hi] at hy
      have h1 := hcell i (by omega)
      have e : (⟨b, off, none⟩ : Addr).add i = ⟨b, off + i, none⟩ := by simp [Addr.add]
      rw [e] at h1
      rw [h1, List.getD_eq_getElem?_getD, hy]
      rfl

theorem bulk_pos {H : Type} (d : DataW H) : 1 ≤ Rows.uptoBulk d := by
  cases d with
  | lit l => cases l <;> simp [Rows.uptoBulk]
  | _ => simp [Rows.uptoBulk]
theorem bulk_len {H : Type} (l : List (DataW H)) : l.length ≤ Rows.uptoBulkAll l := by
  induction l with
  | nil => simp [Rows.uptoBulkAll]
  | cons d r ih =>
    have := bulk_pos d
    simp only [Rows.uptoBulkAll, List.length_cons]
    omega
/-- What the bound says of bytes that came in. -/
theorem bulk_bytes {H : Type} {d : DataW H} {bs : List Nat} (h : d = .nil ∧ bs = [] ∨ ∃ el sp, d = .slice el sp ∧ el.length = bs.length) : bs.length ≤ Rows.uptoBulk d := by
  rcases h with ⟨_, rfl⟩ | ⟨el, sp, rfl, h⟩
  · simp
  · have := bulk_len el
    simp only [Rows.uptoBulk]
    omega
theorem bulk_nums {H : Type} {d : DataW H} {zs : List Int} (h : d = .nil ∧ zs = [] ∨ ∃ el sp, d = .slice el sp ∧ el.length = zs.length) : zs.length ≤ Rows.uptoBulk d := by
  rcases h with ⟨_, rfl⟩ | ⟨el, sp, rfl, h⟩
  · simp
  · have := bulk_len el
    simp only [Rows.uptoBulk]
    omega
theorem bulk_of {H : Type} {l : List (DataW H)} (h : Rows.uptoSmall H l = true) : Rows.uptoBulkAll l ≤ 1048576 := of_decide_eq_true h

end Go.Proofs.Ytmlhibkofalamaa
namespace Go.Proofs.Ytmlhibkofalamaa
open Go.ChangeShapes Go.WideShapes Go.ChangeAt Go.RowKit
set_option linter.unusedVariables false
set_option maxRecDepth 100000

theorem Try.cellsIm : Try.prog.cellsOf 24 = 5 := by kernel_rfl
theorem Try.cellsII : Try.prog.cellsOf 3 = 1 := by kernel_rfl
theorem Try.cellsIB : Try.prog.cellsOf 5 = 1 := by kernel_rfl
theorem Try.cellsIY : Try.prog.cellsOf 22 = 1 := by kernel_rfl
theorem Try.cellsIO : Try.prog.cellsOf 4 = 1 := by kernel_rfl
/-- The five cells. -/
theorem image_cells {H : Type} {enc : TypeId × Value → H} {W : World} {fuel : Nat} {cs : List Value} {x : DataW H × List MemPlace}
    (h : DataW.trod enc Try.prog W 0 (fun _ => true) true fuel 24 cs = some x) :
    ∃ (sz tu : Int) (fi : Nat) (a : Option Addr) (cap : Nat) (bs : List Nat) (rt : Bool), cs = [.int .i64 sz, .int .u8 (fi : Int), .slice a bs.length cap, .bool rt, .int .i64 tu] ∧ Sl W a bs ∧ bs.length ≤ 9223372036854775807 ∧ (-9223372036854775808 ≤ sz ∧ sz ≤ 9223372036854775807) ∧ (-9223372036854775808 ≤ tu ∧ tu ≤ 9223372036854775807) ∧ fi < 256 := by
  obtain ⟨xs, n, _, hx, hl, hlen, hf⟩ := DataW.trod_struct Try.underlying24 h
  rw [Try.cellsIm] at hl
  match cs, hl with
  | [c0, c1, c2, c3, c4], _ =>
    match xs, hlen with
    | [y0, y1, y2, y3, y4], _ =>
      have h0 := hf 0 _ rfl
      have h1 := hf 1 _ rfl
      have h2 := hf 2 _ rfl
      have h3 := hf 3 _ rfl
      have h4 := hf 4 _ rfl
      simp [Try.cellsII, Try.cellsIB, Try.cellsIY, Try.cellsIO] at h0 h1 h2 h3 h4
      obtain ⟨a, l, c, rfl⟩ : ∃ a l c, c2 = .slice a l c := by
        rcases open_ints Try.underlying22 Try.underlying5 (by kernel_rfl) h2 with ⟨e, _⟩ | ⟨a, l, c, _, e, _⟩
        · simp at e; exact ⟨_, _, _, e⟩
        · simp at e; exact ⟨_, _, _, e⟩
      obtain ⟨bs, rfl, hs, hbl, _⟩ := open_bytes_up (d := y2.1) (p := y2.2) ⟨n, h2⟩
      obtain ⟨sz, e0, _, w0⟩ := DataW.trod_int Try.underlying3 h0
      obtain ⟨z, e1, _, w1⟩ := DataW.trod_int Try.underlying5 h1
      obtain ⟨rt, e3, _⟩ := DataW.trod_bool Try.underlying4 h3
      obtain ⟨tu, e4, _, w4⟩ := DataW.trod_int Try.underlying3 h4
      simp at e0 e1 e3 e4
      subst e0 e1 e3 e4
      have b1 := bounds_u8 w1
      obtain ⟨fi, rfl⟩ : ∃ v : Nat, z = (v : Int) := ⟨z.toNat, by omega⟩
      exact ⟨sz, tu, fi, a, c, bs, rt, rfl, hs, hbl, bounds_i64 w0, bounds_i64 w4, by omega⟩
theorem open_image {H : Type} {enc : TypeId × Value → H} {W : World} {r : Reach} {b0 : Nat} {v : Value} {d : DataW H} {p : List MemPlace}
    (hv : Value.okWide Try.prog W r b0 24 v) (h : DataW.Trod enc Try.prog W 0 (fun _ => true) true 24 v d p) :
    ∃ (sz tu : Int) (fi : Nat) (a : Option Addr) (cap : Nat) (bs : List Nat) (rt : Bool), v = .agg #[.int .i64 sz, .int .u8 (fi : Int), .slice a bs.length cap, .bool rt, .int .i64 tu] ∧ Sl W a bs ∧ bs.length ≤ 9223372036854775807 ∧ (-9223372036854775808 ≤ sz ∧ sz ≤ 9223372036854775807) ∧ (-9223372036854775808 ≤ tu ∧ tu ≤ 9223372036854775807) ∧ fi < 256 := by
  obtain ⟨cs, rfl, hsz⟩ := okWide_struct Try.underlying24 hv
  obtain ⟨fuel, hf⟩ := h
  obtain ⟨sz, tu, fi, a, cap, bs, rt, e5, hb⟩ := image_cells hf
  refine ⟨sz, tu, fi, a, cap, bs, rt, ?_, hb⟩
  have e' : cs.toList = [.int .i64 sz, .int .u8 (fi : Int), .slice a bs.length cap, .bool rt, .int .i64 tu] := by simpa [Value.cells] using e5
  rw [← Array.toArray_toList (xs := cs), e']
end Go.Proofs.Ytmlhibkofalamaa
namespace Go.Proofs.Ytmlhibkofalamaa.superReads
open Go.ChangeShapes Go.WideShapes Go.ChangeAt Go.RowKit Go.Proofs.Ytmlhibkofalamaa
set_option linter.unusedVariables false

set_option maxRecDepth 100000 in
theorem lifted (os : Os) (started : os.Started) (H : Type) (enc : TypeId × Value → H) :
    ReturnsInHanded {} Try.checked os 3 .any (Rows.superReadsSpec.pre6 enc Try.prog Try.f3 Rows.superReadsRow.domain false) (Rows.superReadsSpec.post enc Try.prog Try.f3 false true false false) := by
  refine returnsInHanded_of_change (C := Try.checked) own started (by kernel_rfl) Try.func3
    (ChangeSpec.witness6 (enc := enc) (C := Try.checked) false ⟨#[], #[.agg #[.int .i64 0, .int .u8 0, .slice none 0 0, .bool false, .int .i64 0]], []⟩ 8 (by kernel_rfl) (by kernel_rfl) (by kernel_rfl) (by kernel_rfl)) ?_
  intro W base args ds gs before hval0 hW hcnd _
  have hval : ∀ (j : Nat) t v, Try.f3.params[j]? = some t → args[j]? = some v → Value.okWide Try.prog W .any base t v := hval0
  have hW' := hW
  obtain ⟨p, q, hA0, hV, rfl, hfz, hnd⟩ := hW
  have hA : DataW.TrodAll enc Try.prog W 0 (fun _ => true) true Try.f3.params.toList args.toList ds p := hA0
  rw [Try.params3] at hA hval
  obtain ⟨v0, vs0, d0, ds0, p0, q0, hargs, rfl, rfl, h0, r0⟩ := trodAll_cons hA
  obtain ⟨rfl, rfl, rfl⟩ := trodAll_nil r0
  obtain rfl : args = #[v0] := by cases args; simp_all
  obtain ⟨rfl, rfl⟩ := trodVars_none hV
  have k0 := h0
  have lt0 : ∀ x ∈ p0, x.block < W.heap.size := by obtain ⟨m, hm⟩ := k0; exact DataW.trod_lt m _ _ _ hm
  obtain ⟨sz0, tu0, fi0, ia0, ic0, ib0, rt0, rfl, s0, l0, z0, t0, f0⟩ := open_image (hval 0 24 v0 rfl rfl) h0
  clear hval0
  clear hA0
  refine (superReads_walk W sz0 tu0 fi0 ia0 ib0.length ic0 rt0 ib0 s0 rfl l0 f0 z0 t0).mono fun e W' ⟨he, bel⟩ => ?_
  subst he
  exact ⟨_, rfl, _, _, _, [], _, [], hW', trodAll_mk1 (shut_bool Try.underlying4 _), (trodAll_cons_mk (Below.trod laidOut (by kernel_rfl) (of_decide_eq_true (by kernel_rfl)) k0 bel lt0) trodAll_mk0), rfl, bel.frame _, fun h => by cases h⟩

theorem over : Rows.superReadsRow.holds Try.pinned (OpenSpec.ofChange Rows.superReadsSpec) :=
  OpenClaim.holds_of_wide 3 Try.f3 rfl rfl rfl rfl rfl rfl rfl ⟨rfl, rfl, rfl, rfl, rfl⟩ rfl rfl rfl rfl rfl (by kernel_rfl) Try.func3 (by kernel_rfl)
    (of_decide_eq_true (by kernel_rfl)) (by unfold Func.isWrapper; first | (rw [if_pos (by decide +kernel)]; kernel_rfl) | (rw [if_neg (by decide +kernel)]; exact ⟨rfl, rfl⟩))
    (fun os started H enc _ => lifted os started H enc)

end Go.Proofs.Ytmlhibkofalamaa.superReads

namespace Go.Proofs.Ytmlhibkofalamaa
/-- SuperReads, as it is stated. -/
theorem superReads_holds : Rows.SuperReadsSaid := superReads.over
#print axioms superReads_holds
end Go.Proofs.Ytmlhibkofalamaa
