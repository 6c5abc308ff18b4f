/- Lists of lists of bytes that the call itself makes: what they hold, and what CopyRows answers. -/
import Derived.Test.YtmljacjbpcgijaaQByMM
import Derived.Test.YtmljacjbpcgijaaZEq
import Derived.Test.YtmljacjbpcgijaaPLd
import Derived.Test.YtmljacjbpcgijaaPFrm
import Derived.Test.YtmljacjbpcgijaaHelp
namespace Go.Proofs.Ytmljacjbpcgijaa
open Go.RowKit
set_option linter.unusedVariables false

section
variable {σ : St} {bs : List Nat}
/-- What stays as it is behind Bytes that went well. -/
theorem byt_like {at_ : Nat} {s : St} (hok : σ.Ok) (hbs : ∀ x ∈ bs, x < 256) (hlen : at_ + bs.length ≤ 64 * σ.n) (hops : σ.ops + 2000000 ≤ 1400000000000) (h : BytD bs at_ σ 0 s) : LikeG σ s ((wordsOf at_ bs.length).length + (linesOf at_ bs.length).length + 1) := by
  have hm := hok.max
  have hwl := wordsOf_len (at_ := at_) (n := bs.length) (by omega)
  have hll := linesOf_len (at_ := at_) (n := bs.length) (by omega)
  have hlk := writeG_like (at_ := at_) hbs (wordsOf at_ bs.length) σ hok (wordsOf_lt hlen hm) (by omega)
  obtain ⟨j1, j2, j3, j4, j5, j6⟩ := linesG_like (linesOf at_ bs.length) (writeG bs at_ σ (wordsOf at_ bs.length)) hlk.ok (by rw [hlk.ops]; omega)
  rcases h with ⟨h, _⟩ | ⟨s1, h1, ⟨h, _⟩ | ⟨s2, h2, h⟩⟩
  · cases h
  · cases h
  obtain ⟨rfl, _⟩ := h1.zero
  obtain ⟨rfl, _⟩ := h2.zero
  clear h1 h2
  rw [hlk.ops] at j3
  rw [hlk.arms, hlk.cnt] at j6
  rw [hlk.arms] at j4
  rw [hlk.off] at j5
  rw [hlk.n] at j2
  generalize linesG (writeG bs at_ σ (wordsOf at_ bs.length)) (linesOf at_ bs.length) = T at h j1 j2 j3 j4 j5 j6
  have hn : ¬ fires (fnA T) := fun hf => by
    have := h.yes hf
    cases this
  obtain ⟨_, rfl⟩ := h.no hn
  have hTo : T.ops < 1400000000000 := by omega
  refine ⟨tick_ok (ok_more (fnA_ok j1) hTo), j2, ?_, j4, j5, ?_⟩
  · show T.ops + 1 = _
    omega
  · show (if T.arms = [] then T.cnt else T.cnt + 1) = _
    rw [j4, j6]
    by_cases e : σ.arms = []
    · simp only [if_pos e]
    · simp only [if_neg e]
      omega
end
def z64 : List Nat := List.replicate 64 0
theorem z64_len : z64.length = 64 := by simp [z64]
theorem z64_get {k : Nat} (h : k < 64) : z64[k]? = some 0 := by unfold z64; rw [List.getElem?_replicate, if_pos h]
theorem z64_lt : ∀ x ∈ z64, x < 256 := fun x h => by rw [List.eq_of_mem_replicate h]; omega
/-- What Format leaves, and what it answers, behind its plan. -/
def FmtD (sb : List Nat) (σ : St) (c : Int) (s : St) : Prop :=
  (c = 5 ∧ BytD z64 0 σ 5 s) ∨ ∃ s1, BytD z64 0 σ 0 s1 ∧ ((c = 5 ∧ BytD z64 64 s1 5 s) ∨ ∃ s2, BytD z64 64 s1 0 s2 ∧ ((c = 5 ∧ BytD z64 128 s2 5 s) ∨ ∃ s3, BytD z64 128 s2 0 s3 ∧ BytD sb 0 s3 c s))
/-- The first k lines are zero, the rest is as it was. -/
structure Zer (σ : St) (k : Nat) (s : St) : Prop where
  ok : s.Ok
  n : s.n = σ.n
  off : s.off = false
  past : ∀ j, s.past j = []
  get : ∀ q, s.bytes[q]? = if q < 64 * k then some 0 else σ.bytes[q]?
  ops : s.ops ≤ σ.ops + 600000 * k
theorem Zer.next {σ s t : St} {k : Nat} (h : Zer σ k s) (hk : k < σ.n) (hk3 : k < 3) (hops : σ.ops + 10000000 ≤ 1400000000000) (hb : BytD z64 (64 * k) s 0 t) : Zer σ (k + 1) t := by
  have ho := h.ops
  have hn := h.n
  have hlen := h.ok.len
  have hmx := h.ok.max
  have hl := byt_like h.ok z64_lt (by rw [z64_len, hn]; omega) (by omega) hb
  have hop := hl.ops
  rw [z64_len, wordsLine k (by omega), linesLine k (by omega)] at hop
  simp at hop
  rcases byt_line h.ok h.off h.past z64_lt (by omega) z64_len (by omega) hb with ⟨_, e1, e2, e3, e4⟩ | ⟨hc, _⟩
  · refine ⟨hl.ok, e1.trans hn, e2, e3, fun q => ?_, by omega⟩
    rw [e4, splice_get _ _ _ _ (by rw [z64_len]; omega), z64_len, h.get q]
    by_cases h1 : q < 64 * k
    · rw [if_pos h1, if_pos h1, if_pos (by omega)]
    · rw [if_neg h1, if_neg h1]
      by_cases h2 : q < 64 * k + 64
      · rw [if_pos h2, if_pos (by omega), z64_get (by omega)]
      · rw [if_neg h2, if_neg (by omega)]
  · cases hc
/-- What a cut line leaves, byte by byte. -/
theorem cut_get {σ s : St} {bs : List Nat} {i : Nat} (hok : σ.Ok) (hi : i < σ.n) (hl : bs.length = 64) (h : Cut σ bs i s) : ∃ j, j ≤ 8 ∧ ∀ q, s.bytes[q]? = if q < 64 * i then σ.bytes[q]? else if q < 64 * i + 8 * j then bs[q - 64 * i]? else σ.bytes[q]? := by
  obtain ⟨_, _, _, j, hj, hb⟩ := h
  have hlen := hok.len
  have htl : (bs.take (8 * j)).length = 8 * j := by rw [List.length_take]; omega
  refine ⟨j, hj, fun q => ?_⟩
  rw [hb, splice_get _ _ _ _ (by omega), htl]
  by_cases h1 : q < 64 * i
  · rw [if_pos h1, if_pos h1]
  · rw [if_neg h1, if_neg h1]
    by_cases h2 : q < 64 * i + 8 * j
    · rw [if_pos h2, if_pos h2, List.getElem?_take, if_pos (by omega)]
    · rw [if_neg h2, if_neg h2]
/-- The power went: all is as it was, or no superblock begins, or the heads are empty. -/
structure FmtLost (σ s : St) : Prop where
  n : s.n = σ.n
  off : s.off = true
  past : ∀ j, s.past j = []
  rest : ∀ q, 192 ≤ q → s.bytes[q]? = σ.bytes[q]?
  way : s.bytes = σ.bytes ∨ (∀ q, q < 8 → s.bytes[q]? = some 0) ∨ (∀ q, 64 ≤ q → q < 192 → s.bytes[q]? = some 0)
/-- All went well. -/
structure FmtDone (sb : List Nat) (σ s : St) : Prop where
  n : s.n = σ.n
  off : s.off = false
  past : ∀ j, s.past j = []
  get : ∀ q, s.bytes[q]? = if q < 64 then sb[q]? else if q < 192 then some 0 else σ.bytes[q]?
theorem fmt_leaves {sb : List Nat} {σ s : St} {c : Int} (hok : σ.Ok) (ho : σ.off = false) (hp : ∀ k, σ.past k = []) (hn : 3 ≤ σ.n) (hsl : sb.length = 64) (hsb : ∀ x ∈ sb, x < 256) (hops : σ.ops + 10000000 ≤ 1400000000000) (h : FmtD sb σ c s) : (c = 0 ∧ FmtDone sb σ s) ∨ (c = 5 ∧ FmtLost σ s) := by
  have hz0 : Zer σ 0 σ := ⟨hok, rfl, ho, hp, fun q => by rw [if_neg (by omega)], by omega⟩
  have hcut : ∀ (k : Nat) (t : St), Zer σ k t → k < 3 → BytD z64 (64 * k) t 5 s → FmtLost σ s := fun k t hz hk hb => by
    have h1 := hz.ops
    have h2 := hz.n
    rcases byt_line hz.ok hz.off hz.past z64_lt (by omega) z64_len (by omega) hb with ⟨hc, _⟩ | ⟨_, hc⟩
    · cases hc
    · obtain ⟨j, hj, hg⟩ := cut_get hz.ok (by omega) z64_len hc
      obtain ⟨c1, c2, c3, _⟩ := hc
      refine ⟨c1.trans h2, c2, c3, fun q hq => ?_, ?_⟩
      · rw [hg q, if_neg (by omega), if_neg (by omega), hz.get q, if_neg (by omega)]
      · by_cases e0 : k = 0
        · subst e0
          by_cases ej : j = 0
          · subst ej
            left
            refine List.ext_getElem? fun q => ?_
            rw [hg q, if_neg (by omega), if_neg (by omega), hz.get q, if_neg (by omega)]
          · right; left
            intro q hq
            rw [hg q, if_neg (by omega), if_pos (by omega), z64_get (by omega)]
        · right; left
          intro q hq
          rw [hg q, if_pos (by omega), hz.get q, if_pos (by omega)]
  rcases h with ⟨rfl, h⟩ | ⟨s1, h1, h⟩
  · exact .inr ⟨rfl, hcut 0 σ hz0 (by omega) h⟩
  have z1 := hz0.next (by omega) (by omega) hops h1
  rcases h with ⟨rfl, h⟩ | ⟨s2, h2, h⟩
  · exact .inr ⟨rfl, hcut 1 s1 z1 (by omega) h⟩
  have z2 := z1.next (by omega) (by omega) hops h2
  rcases h with ⟨rfl, h⟩ | ⟨s3, h3, h⟩
  · exact .inr ⟨rfl, hcut 2 s2 z2 (by omega) h⟩
  have z3 := z2.next (by omega) (by omega) hops h3
  have o3 := z3.ops
  have n3 := z3.n
  have l3 := z3.ok.len
  rcases byt_line (i := 0) z3.ok z3.off z3.past hsb (by omega) hsl (by omega) h with ⟨rfl, e1, e2, e3, e4⟩ | ⟨rfl, hc⟩
  · refine .inl ⟨rfl, e1.trans n3, e2, e3, fun q => ?_⟩
    rw [e4, splice_get _ _ _ _ (by omega), hsl, if_neg (by omega), z3.get q]
    by_cases h1 : q < 64
    · rw [if_pos (by omega), if_pos h1]
      rfl
    · rw [if_neg (by omega), if_neg h1]
  · obtain ⟨j, hj, hg⟩ := cut_get z3.ok (by omega) hsl hc
    obtain ⟨c1, c2, c3, _⟩ := hc
    refine .inr ⟨rfl, c1.trans n3, c2, c3, fun q hq => ?_, .inr (.inr fun q h1 h2 => ?_)⟩
    · rw [hg q, if_neg (by omega), if_neg (by omega), z3.get q, if_neg (by omega)]
    · rw [hg q, if_neg (by omega), if_neg (by omega), z3.get q, if_pos (by omega)]
end Go.Proofs.Ytmljacjbpcgijaa
namespace Go.Proofs.Ytmljacjbpcgijaa
open Go.RowKit Go.Shelf
set_option linter.unusedVariables false

theorem sbX_head (x : Int) : (sbX x)[0]? ≠ some 0 := by
  have e : (sbX x)[0]? = some 86 := by
    unfold sbX sbB sbPre sbName
    rfl
  rw [e]
  intro h
  cases h
/-- Behind a loss of power Format's device holds what it held, or no superblock, or empty heads. -/
theorem fmt_super {σ s : St} (x : Int) (hl : 64 ≤ σ.bytes.length) (h : FmtLost σ s) (hs : s.bytes.take 64 = sbX x) : s.bytes = σ.bytes ∨ ∀ q, 64 ≤ q → q < 192 → s.bytes[q]? = some 0 := by
  rcases h.way with h | h | h
  · exact .inl h
  · refine absurd (h 0 (by omega)) ?_
    have e : s.bytes[0]? = (sbX x)[0]? := by rw [← hs, List.getElem?_take, if_pos (by omega)]
    rw [e]
    exact sbX_head x
  · exact .inr h
end Go.Proofs.Ytmljacjbpcgijaa
namespace Go.Proofs.Ytmljacjbpcgijaa
open Go.RowKit Go.Shelf
set_option linter.unusedVariables false

def fmAt (k : Nat) : Nat := if k = 3 then 0 else 64 * k
def fmTo (sb : List Nat) (k : Nat) : List Nat := if k = 3 then sb else z64
theorem fmTo_len {sb : List Nat} (h : sb.length = 64) (k : Nat) : (fmTo sb k).length = 64 := by unfold fmTo; split <;> simp [h, z64_len]
theorem fmTo_lt {sb : List Nat} (h : ∀ x ∈ sb, x < 256) (k : Nat) : ∀ x ∈ fmTo sb k, x < 256 := by unfold fmTo; split; exact h; exact z64_lt
/-- A place and its line, as cells. -/
def elF (a : Int) (c : List Nat) : List Value := .int .i64 a :: c.map B8
theorem elF_len {a : Int} {c : List Nat} (h : c.length = 64) : (elF a c).length = 65 := by simp [elF, h]
theorem elF_one {a : Int} {c : List Nat} : ∀ v ∈ elF a c, v.oneCell' = true := by
  intro v hv
  rcases List.mem_cons.1 hv with rfl | h
  · rfl
  · exact B8_cell c v h
def rowF (sb : List Nat) : List Value := elF 0 z64 ++ (elF 64 z64 ++ (elF 128 z64 ++ elF 0 sb))
theorem rowF_at {sb : List Nat} (h : sb.length = 64) (k : Nat) (hk : k < 4) (j : Nat) (hj : j < 65) : (rowF sb)[65 * k + j]? = (elF (fmAt k : Int) (fmTo sb k))[j]? := by
  have e1 : (elF 0 z64).length = 65 := elF_len z64_len
  have e2 : (elF 64 z64).length = 65 := elF_len z64_len
  have e3 : (elF 128 z64).length = 65 := elF_len z64_len
  unfold rowF
  obtain rfl | rfl | rfl | rfl : k = 0 ∨ k = 1 ∨ k = 2 ∨ k = 3 := by omega
  · rw [List.getElem?_append_left (by omega), show 65 * 0 + j = j by omega]
    rfl
  · rw [List.getElem?_append_right (by omega), List.getElem?_append_left (by omega), e1, show 65 * 1 + j - 65 = j by omega]
    rfl
  · rw [List.getElem?_append_right (by omega), List.getElem?_append_right (by omega), List.getElem?_append_left (by omega), e1, e2, show 65 * 2 + j - 65 - 65 = j by omega]
    rfl
  · rw [List.getElem?_append_right (by omega), List.getElem?_append_right (by omega), List.getElem?_append_right (by omega), e1, e2, e3, show 65 * 3 + j - 65 - 65 - 65 = j by omega]
    rfl
/-- What the first k of them leave. -/
def fmS (sb : List Nat) (σ : St) : Nat → St → Prop
  | 0, s => s = σ
  | k + 1, s => ∃ s1, fmS sb σ k s1 ∧ BytD (fmTo sb k) (fmAt k) s1 0 s
theorem fmS_all {sb : List Nat} {σ s : St} (h : fmS sb σ 4 s) : FmtD sb σ 0 s := by
  obtain ⟨s3, ⟨s2, ⟨s1, ⟨s0, rfl, h0⟩, h1⟩, h2⟩, h3⟩ := h
  exact .inr ⟨s1, h0, .inr ⟨s2, h1, .inr ⟨s3, h2, h3⟩⟩⟩
theorem fmS_cut {sb : List Nat} {σ s1 s : St} {k : Nat} (h : fmS sb σ k s1) (hk : k < 4) (hb : BytD (fmTo sb k) (fmAt k) s1 5 s) : FmtD sb σ 5 s := by
  obtain rfl | rfl | rfl | rfl : k = 0 ∨ k = 1 ∨ k = 2 ∨ k = 3 := by omega
  · obtain rfl : s1 = σ := h
    exact .inl ⟨rfl, hb⟩
  · obtain ⟨s0, rfl, h0⟩ := h
    exact .inr ⟨s1, h0, .inl ⟨rfl, hb⟩⟩
  · obtain ⟨s2, ⟨s0, rfl, h0⟩, h1⟩ := h
    exact .inr ⟨s2, h0, .inr ⟨s1, h1, .inl ⟨rfl, hb⟩⟩⟩
  · obtain ⟨s3, ⟨s2, ⟨s0, rfl, h0⟩, h1⟩, h2⟩ := h
    exact .inr ⟨s2, h0, .inr ⟨s3, h1, .inr ⟨s1, h2, hb⟩⟩⟩
theorem byt_code {bs : List Nat} {at_ : Nat} {σ s : St} {c : Int} (h : BytD bs at_ σ c s) : c = 0 ∨ c = 5 := by
  rcases h with ⟨h, _⟩ | ⟨s1, _, ⟨h, _⟩ | ⟨s2, _, h⟩⟩
  · exact .inr h
  · exact .inr h
  · by_cases hf : fires (fnA s2)
    · exact .inr (h.yes hf)
    · exact .inl (h.no hf).1
theorem lost_ok {X s : St} {kp : List Nat} (h1 : 1 ≤ X.n) (h2 : X.n ≤ 65536) (ho : X.ops + 1 ≤ 1400000000000) (hL : Lost { X with ops := X.ops + 1, arms := [], cnt := 0 } kp s) : s.Ok := by
  have e1 : s.n = X.n := hL.n
  have e2 : s.past = fun _ => [] := hL.past
  have e3 : s.fl = fun _ => none := hL.fl
  have e4 : s.ops = X.ops + 1 := hL.ops
  have e5 : s.bytes.length = 64 * X.n := hL.len
  refine ⟨by omega, by omega, by rw [e5, e1], hL.byte, fun _ _ => by rw [e2], fun i c hc => ?_, fun i c hc => ?_, fun i => by rw [e2]; exact Nat.zero_le _, fun i k hk => ?_, by omega⟩
  · rw [e2] at hc; cases hc
  · rw [e2] at hc; cases hc
  · rw [e3] at hk; cases hk
/-- Behind a loss of power within Bytes the device is one that may be. -/
theorem byt_ok5 {bs : List Nat} {at_ : Nat} {σ s : St} (hok : σ.Ok) (hbs : ∀ x ∈ bs, x < 256) (hlen : at_ + bs.length ≤ 64 * σ.n) (hops : σ.ops + 2000000 ≤ 1400000000000) (h : BytD bs at_ σ 5 s) : s.Ok := by
  have hm := hok.max
  have hp := hok.pos
  have hwl := wordsOf_len (at_ := at_) (n := bs.length) (by omega)
  have hll := linesOf_len (at_ := at_) (n := bs.length) (by omega)
  have hlk := writeG_like (at_ := at_) hbs (wordsOf at_ bs.length) σ hok (wordsOf_lt hlen hm) (by omega)
  rcases h with ⟨_, h⟩ | ⟨s1, h1, h⟩
  · rcases h with ⟨h, _⟩ | ⟨_, pre, no, hpre, h⟩
    · cases h
    · obtain ⟨kp, hL⟩ := h.lost
      have hpl := hpre.length_le
      rw [List.length_append, List.length_singleton] at hpl
      have hl2 := writeG_like (at_ := at_) hbs pre σ hok (fun x hx => wordsOf_lt hlen hm x (hpre.subset (by simp [hx]))) (by omega)
      have e1 := hl2.n
      have e2 := hl2.ops
      exact lost_ok (X := wordA bs at_ (writeG bs at_ σ pre) no) (by show 1 ≤ (writeG bs at_ σ pre).n; omega) (by show (writeG bs at_ σ pre).n ≤ _; omega) (by show (writeG bs at_ σ pre).ops + 1 ≤ _; omega) hL
  · obtain ⟨rfl, _⟩ := h1.zero
    have q1 := hlk.n
    have q2 := hlk.ops
    rcases h with ⟨_, h⟩ | ⟨s2, h2, h⟩
    · rcases h with ⟨h, _⟩ | ⟨_, pre, no, hpre, h⟩
      · cases h
      · obtain ⟨kp, hL⟩ := h.lost
        have hpl := hpre.length_le
        rw [List.length_append, List.length_singleton] at hpl
        obtain ⟨j1, j2, j3, j4, j5, j6⟩ := linesG_like pre (writeG bs at_ σ (wordsOf at_ bs.length)) hlk.ok (by omega)
        generalize writeG bs at_ σ (wordsOf at_ bs.length) = T at *
        exact lost_ok (X := flA (linesG T pre) no) (by show 1 ≤ (linesG T pre).n; omega) (by show (linesG T pre).n ≤ _; omega) (by show (linesG T pre).ops + 1 ≤ _; omega) hL
    · obtain ⟨rfl, _⟩ := h2.zero
      obtain ⟨j1, j2, j3, j4, j5, j6⟩ := linesG_like (linesOf at_ bs.length) (writeG bs at_ σ (wordsOf at_ bs.length)) hlk.ok (by omega)
      generalize writeG bs at_ σ (wordsOf at_ bs.length) = T at *
      obtain ⟨kp, hL⟩ := h.lost
      exact lost_ok (X := fnA (linesG T (linesOf at_ bs.length))) (by show 1 ≤ (linesG T (linesOf at_ bs.length)).n; omega) (by show (linesG T (linesOf at_ bs.length)).n ≤ _; omega) (by show (linesG T (linesOf at_ bs.length)).ops + 1 ≤ _; omega) hL
/-- Nothing but bytes, operations and what is counted changes. -/
theorem fmS_like {sb : List Nat} {σ : St} (hok : σ.Ok) (hl : sb.length = 64) (hb : ∀ x ∈ sb, x < 256) (hn : 3 ≤ σ.n) (hops : σ.ops + 10000000 ≤ 1400000000000) : ∀ (k : Nat) (s : St), k ≤ 4 → fmS sb σ k s → LikeG σ s (10 * k)
  | 0, s, _, h => by
    obtain rfl : s = σ := h
    refine ⟨hok, rfl, by omega, rfl, rfl, ?_⟩
    split <;> omega
  | k + 1, s, hk, h => by
    obtain ⟨s1, h1, h2⟩ := h
    have i := fmS_like hok hl hb hn hops k s1 (by omega) h1
    have hmx := hok.max
    have i1 := i.n
    have i2 := i.ops
    have e := byt_like i.ok (fmTo_lt hb k) (at_ := fmAt k) (by rw [fmTo_len hl, i1]; unfold fmAt; split <;> omega) (by omega) h2
    have hw : (wordsOf (fmAt k) (fmTo sb k).length).length + (linesOf (fmAt k) (fmTo sb k).length).length + 1 = 10 := by
      rw [fmTo_len hl]
      have hq : ∃ q, fmAt k = 64 * q ∧ q ≤ 3 := by unfold fmAt; split; exact ⟨0, rfl, by omega⟩; exact ⟨k, rfl, by omega⟩
      obtain ⟨q, e1, e2⟩ := hq
      rw [e1, wordsLine q (by omega), linesLine q (by omega)]
      simp
    rw [hw] at e
    have c1 := i.cnt
    have c2 := e.cnt
    refine ⟨e.ok, e.n.trans i.n, by rw [e.ops, i.ops]; omega, e.arms.trans i.arms, e.off.trans i.off, ?_⟩
    rw [c2, c1, i.arms]
    split <;> omega

theorem zero_z64 (w : World) : (zeroValue 68).run Try.prog w = .ok (.agg (z64.map B8).toArray) w := by kernel_rfl
theorem line_info : (Try.prog.info? 68).bind (·.zero) = some (.agg (z64.map B8).toArray) := by kernel_rfl
theorem build_line (w : World) : (Instr.build 68 #[]).run Try.prog w = .ok (.agg (z64.map B8).toArray) w := by kernel_rfl
theorem el_zero : ∃ it Z, Try.prog.info? 69 = some it ∧ it.zero = some (.agg Z) ∧ Z.size = 65 ∧ it.size = 65 ∧ it.bytes = 72 := by
  have h : (Try.prog.info? 69).map (fun i => (i.zero.map (fun z => match z with | .agg Z => Z.size | _ => 0), i.size, i.bytes)) = some (some 65, 65, 72) := by kernel_rfl
  cases hi : Try.prog.info? 69 with
  | none => rw [hi] at h; cases h
  | some it =>
    rw [hi] at h
    simp only [Option.map_some, Option.some.injEq, Prod.mk.injEq] at h
    cases hz : it.zero with
    | none => rw [hz] at h; cases h.1
    | some z =>
      rw [hz] at h
      cases z <;> simp at h
      rename_i Z
      exact ⟨it, Z, rfl, hz, h.1, h.2⟩
theorem el_alloc : ∃ Z : List Value, Z.length = 65 ∧ ∀ w : World, (zeroValue 69).run Try.prog w = .ok (.agg Z.toArray) w := by
  obtain ⟨it, Z, hi, hz, hs, _⟩ := el_zero
  exact ⟨Z.toList, by simp [hs], fun w => by simp [zeroValue, typeInfo, hi, hz]⟩
theorem fill_two' (n : Nat) (X : List Value) (v : Value) (Z : Array Value) (hx : X.length = n) (hz : Z.size = n + 1) (hv : v.cells = #[v]) :
    Instr.fill (([(0, 1), (1, n)] : List (Nat × Nat)).toArray[·]?) Z [(0, v), (1, .agg X.toArray)] = some (v :: X).toArray := by
  have c1 : (Value.agg X.toArray).cells = X.toArray := rfl
  have e2 : ∀ cs : Array Value, (#[v] : Array Value).zipIdx.foldl (fun (cs : Array Value) (x : Value × Nat) => cs.setIfInBounds (0 + x.2) x.1) cs = cs.setIfInBounds 0 v := fun cs => by
    rw [← Array.foldl_toList]; simp
  have h1 := Great.foldl_set 1 X 0 (Z.setIfInBounds 0 v)
  have e1 : X.toArray.zipIdx.foldl (fun (cs : Array Value) (x : Value × Nat) => cs.setIfInBounds (1 + x.2) x.1) (Z.setIfInBounds 0 v) = (X.zipIdx 0).foldl (fun (cs : Array Value) (x : Value × Nat) => cs.setIfInBounds (1 + x.2) x.1) (Z.setIfInBounds 0 v) := by
    rw [← Array.foldl_toList]; simp
  have g0 : ([(0, 1), (1, n)] : List (Nat × Nat)).toArray[0]? = some (0, 1) := rfl
  have g1 : ([(0, 1), (1, n)] : List (Nat × Nat)).toArray[1]? = some (1, n) := rfl
  rw [Instr.fill]
  simp only [g0, hv]
  rw [if_neg (by simp [hz]), e2, Instr.fill]
  simp only [g1, c1]
  rw [if_neg (by simp [hx, hz]; omega), e1]
  generalize hY : (X.zipIdx 0).foldl (fun (cs : Array Value) (x : Value × Nat) => cs.setIfInBounds (1 + x.2) x.1) (Z.setIfInBounds 0 v) = Y at *
  simp only [Instr.fill]
  congr 1
  apply Array.ext_getElem?
  intro k
  rw [h1.2 k]
  cases k with
  | zero => simp [hz]
  | succ k =>
    by_cases hl : k < n
    · rw [if_pos (by simp only [Array.size_setIfInBounds]; omega)]
      simp
    · rw [if_neg (by omega), Array.getElem?_eq_none (by simp; omega)]
      simp [hx]
      omega
theorem build_el (c : List Nat) (x : Int) (w : World) (hc : c.length = 64) : (Instr.build 69 #[(0, .int .i64 x), (1, .agg (c.map B8).toArray)]).run Try.prog w = .ok (.agg (elF x c).toArray) w := by
  refine run_build w 69 _ _ ?_
  obtain ⟨it, Z, hi, hz, hs, _⟩ := el_zero
  have hp : (match Try.prog.underlying 69 with | some (.struct fields) => fields.toList.mapM (fun f => (Try.prog.info? f.type).map fun i => (f.offset, i.size)) | _ => none) = some [(0, 1), (1, 64)] := by kernel_rfl
  unfold Program.built
  rw [hi]
  cases hu : Try.prog.underlying 69 with
  | none => rw [hu] at hp; cases hp
  | some d =>
    cases d <;> simp only [hu] at hp <;> try (cases hp; done)
    simp only [hz, hp]
    exact fill_two' 64 (c.map B8) _ Z (by simp [hc]) (by omega) rfl
theorem under_els : Try.prog.underlying 71 = some (.slice 69) := by kernel_rfl
theorem slice_els (sb : List Nat) (hl : sb.length = 64) (w : World) : (Instr.buildSlice 71 4 #[(0, .agg (elF 0 z64).toArray), (1, .agg (elF 64 z64).toArray), (2, .agg (elF 128 z64).toArray), (3, .agg (elF 0 sb).toArray)]).run Try.prog w = .ok (.slice (some ⟨w.heap.size, 0, none⟩) 4 4) (w.alloc (.cells (rowF sb).toArray 69)) := by
  obtain ⟨it, Z, hi, hz, hs, h65, _⟩ := el_zero
  refine run_buildSlice w _ 69 4 _ (rowF sb).toArray it (.agg Z) under_els hi hz (by rw [h65]; decide) (by rw [h65]; decide) ?_
  rw [h65]
  have := Great.fill_whole (s := 65) (by decide) [.agg (elF 0 z64).toArray, .agg (elF 64 z64).toArray, .agg (elF 128 z64).toArray, .agg (elF 0 sb).toArray] ((Array.range (4 * 65)).map ((Value.agg Z).cells[· % (Value.agg Z).cells.size]!)) (by
    have e1 := elF_len (a := 0) z64_len
    have e2 := elF_len (a := 64) z64_len
    have e3 := elF_len (a := 128) z64_len
    have e4 := elF_len (a := 0) hl
    intro v hv
    simp only [List.mem_cons, List.not_mem_nil, or_false] at hv
    rcases hv with rfl | rfl | rfl | rfl <;> simp [Value.cells, e1, e2, e3, e4]) (by simp)
  have e : [Value.agg (elF 0 z64).toArray, .agg (elF 64 z64).toArray, .agg (elF 128 z64).toArray, .agg (elF 0 sb).toArray].flatMap (fun v => v.cells.toList) = rowF sb := by
    simp [Value.cells, rowF]
  rw [e] at this
  exact this
theorem index_el (g i : Nat) (hi : i < 4) (w : World) : (Instr.indexAt 71 (.slice (some ⟨g, 0, none⟩) 4 4) (.int .i64 (i : Int))).run Try.prog w = .ok (.pointer (some ⟨g, i * 65, none⟩)) w := by
  have h := index_at (t := 71) (e := 69) (sz := 65) under_els (by kernel_rfl) g 0 i 4 4 hi w
  rwa [Nat.zero_add] at h
theorem slice_ln (g : Nat) (w : World) : (Instr.sliceAt 68 (.pointer (some ⟨g, 1, none⟩)) none none none).run Try.prog w = .ok (.slice (some ⟨g, 1, none⟩) 64 64) w := by
  obtain ⟨it, h1, h2⟩ := info_of (t := 5) (n := 1) (by kernel_rfl)
  have hu : Try.prog.underlying 68 = some (.array 64 5) := by kernel_rfl
  simp [Instr.sliceAt, Sem.run_bind, run_underlying hu, Instr.sureAddr, Instr.sliceBounds, sizeOf, typeInfo, h1, Addr.add_mid]
end Go.Proofs.Ytmljacjbpcgijaa
namespace Go.Proofs.Ytmljacjbpcgijaa
open Go.RowKit Go.Shelf
set_option linter.unusedVariables false

/-- A line of a package's own, its bytes. -/
def OwnL (w : World) (g : Nat) (bs : List Nat) : Prop := w.heap[g]? = some (.cells (bs.map B8).toArray 68 (0, 0))
theorem OwnL.sl {w : World} {g : Nat} {bs : List Nat} (h : OwnL w g bs) (hx : ∀ x ∈ bs, x < 256) : Sl w (some ⟨g, 0, none⟩) bs := by
  refine .inr ⟨g, 0, rfl, lt_of_heap h, fun i y hy => ⟨?_, hx y (List.mem_of_getElem? hy)⟩⟩
  rw [Nat.zero_add, cell8 h]
  simp [hy, B8]
theorem suBox {W : World} {g : Nat} {a b c d e : Int} (h : W.heap[g]? = some (.cells #[.int .i64 a, .int .i64 b, .int .i64 c, .int .i64 d, .int .i64 e] 37 (0, 0))) :
    W.cell? ⟨g, 0, none⟩ = some (.int .i64 a) ∧ W.cell? ⟨g, 1, none⟩ = some (.int .i64 b) ∧ W.cell? ⟨g, 2, none⟩ = some (.int .i64 c) ∧ W.cell? ⟨g, 3, none⟩ = some (.int .i64 d) ∧ W.cell? ⟨g, 4, none⟩ = some (.int .i64 e) :=
  ⟨cell_of h 0 _ rfl, cell_of h 1 _ rfl, cell_of h 2 _ rfl, cell_of h 3 _ rfl, cell_of h 4 _ rfl⟩
set_option maxRecDepth 100000 in
set_option maxHeartbeats 300000 in
theorem line_ok (x : Int) (w : World) (h : okS x) :
    Calls Try.prog 22 #[.agg (plC x)] w fun e w' => ∃ g, e = .returned (.tuple #[.slice (some ⟨g, 0, none⟩) 64 64, .int .i64 0]) ∧ OwnL w' g (sbX x) ∧ w.heap.size ≤ g ∧ Below w.heap.size w w' := by
  obtain ⟨Z, hzl, hz⟩ := zero_line
  have kp : ∀ W, Calls Try.prog 10 #[.int .i64 x] W fun e w' => e = .returned (.tuple #[.agg #[.int .i64 x, .int .i64 128, .int .i64 32768, .int .i64 32896, .int .i64 ((x - 32896) / 256)], .int .i64 0]) ∧ Below W.heap.size W w' := fun W => plan_ok x W h
  have kb := fun W => block_any x W h
  have hsl := sbX_len x
  generalize sbX x = sb at *
  unfold plC suC
  generalize (x - 32896) / 256 = q at *
  have HSL := hide hsl
  have KP := hide kp
  have KB := hide kb
  have HZ := hide hz
  have HZL := hide hzl
  have hg := Try.noGuard37
  have he := fun W => eql_su x 128 32768 32896 q x 128 32768 32896 q W
  have hs : sameS x 128 32768 32896 q x 128 32768 32896 q = true := by simp [sameS]
  rw [hs] at he
  have sl := fun g W => slice_line g W
  have SI := hide (show (Try.prog.info? 68).map (·.size) = some (sb.map B8).toArray.size by rw [List.size_toArray, List.length_map, HSL.out]; kernel_rfl)
  have S1 := hide (all_oneCell_toArray (B8_cell sb))
  clear kp kb hz hzl h hs hsl
  go_enter Try.func22, Try.ntmps22
  go_upto_region 4 with ((go_at_call 10; refine (KP.out _).mono ?_; rintro e W1 ⟨rfl, hB1⟩; have hb0 := row_after hB1; obtain ⟨c0, c1, c2, c3, c4⟩ := suBox hb0; obtain ⟨k0, k1, k2, k3, k4⟩ := suBox (row_keep hb0 ((Below.refl _ W1).alloc (Nat.le_refl _) (.cells #[.int .i64 x, .int .i64 128, .int .i64 32768, .int .i64 32896, .int .i64 q] 37))); have HB1 := hide (((Below.refl _ w).alloc (Nat.le_refl _) (.cells #[.int .i64 x, .int .i64 128, .int .i64 32768, .int .i64 32896, .int .i64 q] 37)).trans (hB1.mono (by simp))); have HB0 := hide hb0; clear hB1 hb0))
  go_wp2_with (first
    | (go_at_call 28; refine (KB.out _).mono ?_; rintro e W2 ⟨rfl, hB2⟩; have HB2 := hide hB2; have TH := hide (there_row (heap_alloc_new W2 (.cells Z.toArray 68)) 0 (sb.map B8).toArray.size (by rw [List.size_toArray, List.length_map, HSL.out, HZL.out]; omega)); clear hB2)
    | (refine wpList_alloc_row rfl 68 rfl Z (HZ.out _) ?_)
    | (refine wpList_store_mid rfl 68 (.tmp 6) (.tmp 21) rfl W2.heap.size 0 (sb.map B8).toArray (by kernel_rfl) (by kernel_rfl) TH.out SI.out S1.out ?_))
  try go_frame
  go_ret2
  have hh : ((W2.alloc (.cells Z.toArray 68)).setCells W2.heap.size 0 (sb.map B8)).heap[W2.heap.size]? = some (.cells (sb.map B8).toArray 68 (0, 0)) := by
    rw [heap_setCells W2.heap.size _ (sb.map B8) 0 _ Z (heap_alloc_new W2 _) (by rw [List.length_map, HSL.out, HZL.out]; omega)]
    simp [splice, HSL.out, HZL.out]
  have h5 : Gr (fun k => k = W2.heap.size) (W2.alloc (.cells Z.toArray 68)) ((W2.alloc (.cells Z.toArray 68)).setCells W2.heap.size 0 (sb.map B8)) := Gr.setCells _ W2.heap.size _ _ rfl
  have h6 : Below w.heap.size w (W1.alloc (.cells #[.int .i64 x, .int .i64 128, .int .i64 32768, .int .i64 32896, .int .i64 q] 37)) := HB1.out.alloc HB1.out.size _
  have h7 : Below w.heap.size w (W2.alloc (.cells Z.toArray 68)) := (h6.trans (HB2.out.mono h6.size)).alloc (Nat.le_trans h6.size HB2.out.size) _
  have h8 : w.heap.size ≤ W2.heap.size := Nat.le_trans h6.size HB2.out.size
  exact ⟨_, rfl, hh, h8, h5.1.trans h7.os, h5.2.1.trans h7.tape, h5.2.2.1.trans h7.output, Nat.le_trans h7.size h5.size, fun k hk => (h5.block (Nat.lt_of_lt_of_le hk h7.size) (by omega)).trans (h7.block k hk)⟩
/-- A plan that is its size's. -/
def isPl (a b c d e : Int) : Prop := okS a ∧ b = 128 ∧ c = 32768 ∧ d = 32896 ∧ e = (a - 32896) / 256
set_option maxHeartbeats 400000 in
theorem line_no (a b c d e : Int) (w : World) (ha : -9223372036854775808 ≤ a) (ha' : a ≤ 9223372036854775807) (h : ¬ isPl a b c d e) :
    Calls Try.prog 22 #[.agg (suC a b c d e)] w fun r w' => r = .returned (.tuple #[.slice none 0 0, .int .i64 100]) ∧ Below w.heap.size w w' := by
  unfold suC
  by_cases hk : okS a
  · have hne : sameS a 128 32768 32896 ((a - 32896) / 256) a b c d e = false := by
      unfold sameS
      refine decide_eq_false fun hh => h ⟨hk, ?_⟩
      omega
    have kp : ∀ W, Calls Try.prog 10 #[.int .i64 a] W fun r w' => r = .returned (.tuple #[.agg #[.int .i64 a, .int .i64 128, .int .i64 32768, .int .i64 32896, .int .i64 ((a - 32896) / 256)], .int .i64 0]) ∧ Below W.heap.size W w' := fun W => plan_ok a W hk
    generalize (a - 32896) / 256 = q at *
    have hg := Try.noGuard37
    have he := fun W => eql_su a 128 32768 32896 q a b c d e W
    rw [hne] at he
    have KP := hide kp
    clear kp hk h hne
    go_enter Try.func22, Try.ntmps22
    go_wp2_with (go_at_call 10; refine (KP.out _).mono ?_; rintro r W1 ⟨rfl, hB1⟩; have hb0 := row_after hB1; obtain ⟨c0, c1, c2, c3, c4⟩ := suBox hb0; obtain ⟨k0, k1, k2, k3, k4⟩ := suBox (row_keep hb0 ((Below.refl _ W1).alloc (Nat.le_refl _) (.cells #[.int .i64 a, .int .i64 128, .int .i64 32768, .int .i64 32896, .int .i64 q] 37))); have HB1 := hide (((Below.refl _ w).alloc (Nat.le_refl _) (.cells #[.int .i64 a, .int .i64 b, .int .i64 c, .int .i64 d, .int .i64 e] 37)).trans (hB1.mono (by simp))); clear hB1 hb0)
    go_ret2
    exact ⟨rfl, HB1.out.alloc HB1.out.size _⟩
  · have kp : ∀ W, Calls Try.prog 10 #[.int .i64 a] W fun r w' => r = .returned (.tuple #[.agg #[.int .i64 0, .int .i64 0, .int .i64 0, .int .i64 0, .int .i64 0], .int .i64 80]) ∧ Below W.heap.size W w' := fun W => plan_no a W ha ha' hk
    have KP := hide kp
    clear kp hk h
    go_enter Try.func22, Try.ntmps22
    go_wp2_with (go_at_call 10; refine (KP.out _).mono ?_; rintro r W1 ⟨rfl, hB1⟩; have hb0 := row_after hB1; have HB1 := hide (((Below.refl _ w).alloc (Nat.le_refl _) (.cells #[.int .i64 a, .int .i64 b, .int .i64 c, .int .i64 d, .int .i64 e] 37)).trans (hB1.mono (by simp))); clear hB1 hb0)
    go_ret2
    exact ⟨rfl, HB1.out.alloc HB1.out.size _⟩
end Go.Proofs.Ytmljacjbpcgijaa
namespace Go.Proofs.Ytmljacjbpcgijaa
open Go.RowKit Go.Shelf
set_option linter.unusedVariables false

section
variable {w : World} {b : Nat} {L : Lay} {σ : St}
set_option maxRecDepth 100000 in
set_option maxHeartbeats 400000 in
theorem read_any (h : DevL w b L σ) (hok : σ.Ok) (ho : σ.off = false) (hs : okS ((64 * σ.n : Nat) : Int)) :
    Calls Try.prog 14 #[.pointer (some ⟨b, 0, none⟩)] w fun e w' => e = .returned (if (σ.bytes.take 64) = sbX ((64 * σ.n : Nat) : Int) then .tuple #[.agg (plC ((64 * σ.n : Nat) : Int)), .int .i64 0] else .tuple #[.agg noC, .int .i64 100]) ∧ Below w.heap.size w w' := by
  have hp := hok.pos
  have kl : ∀ W, Below w.heap.size w W → Calls Try.prog 26 #[.pointer (some ⟨b, 0, none⟩), .int .i64 0, .int .i64 64] W fun e w' => ∃ R, e = .returned (.tuple #[.slice (some ⟨R, 0, none⟩) 64 64, .int .i64 0]) ∧ W.heap.size ≤ R ∧ w'.heap[R]? = some (.cells ((σ.bytes.take 64).map B8).toArray 5 (0, 0)) ∧ Below W.heap.size W w' := fun W hB => by
    have k := callsIn_wide.1 (pload_in (at_ := 0) (n := 64) (h.below hB) hok ho (by omega))
    rw [List.drop_zero] at k
    exact k
  have hlen : (σ.bytes.take 64).length = 64 := by rw [List.length_take, hok.len]; omega
  obtain ⟨x, hx⟩ : ∃ x : Int, x = ((64 * σ.n : Nat) : Int) := ⟨_, rfl⟩
  have kz : ∀ W, Below w.heap.size w W → Calls Try.prog 27 #[.pointer (some ⟨b, 0, none⟩)] W fun e w' => e = .returned (.int .i64 x) ∧ w' = W := fun W hB => by
    rw [hx]
    exact psize_any (h.below hB) hok.max
  rw [← hx] at hs ⊢
  generalize σ.bytes.take 64 = tk at *
  have kp : ∀ W, Calls Try.prog 10 #[.int .i64 x] W fun e w' => e = .returned (.tuple #[.agg #[.int .i64 x, .int .i64 128, .int .i64 32768, .int .i64 32896, .int .i64 ((x - 32896) / 256)], .int .i64 0]) ∧ Below W.heap.size W w' := fun W => plan_ok x W hs
  have kb := fun W => block_any x W hs
  have hsl := sbX_len x
  generalize sbX x = sb at *
  unfold plC noC suC
  generalize (x - 32896) / 256 = q at *
  have KL := hide kl
  have KZ := hide kz
  have KP := hide kp
  have KB := hide kb
  have HTL := hide hlen
  have HSL := hide hsl
  clear kl kz kp kb hlen hsl h hok ho hs hx hp
  have h0 : Below w.heap.size w (w.alloc (.cells #[.int .i64 0, .int .i64 0, .int .i64 0, .int .i64 0, .int .i64 0] 37)) := (Below.refl _ w).alloc (Nat.le_refl _) _
  have H0 := hide h0
  clear h0
  by_cases hne : tk = sb
  · rw [if_pos hne]
    have l3 : ∀ W : World, (Op.equalIn 10000 68 (.agg (tk.map B8).toArray) (.agg (sb.map B8).toArray)).run Try.prog W = .ok true W := fun W => by rw [eql_line tk sb W HTL.out HSL.out, decide_eq_true hne]
    clear hne
    go_enter Try.func14, Try.ntmps14
    go_upto_region 5 with (first
      | (go_at_call 26; refine (KL.out _ H0.out).mono ?_; rintro e W1 ⟨R, rfl, hR1, hR2, hR3⟩; have hw1 := H0.out.trans (hR3.mono (by simp)); have hz1 := row_after hR3; have HW1 := hide hw1; have HZ1 := hide hz1; have HR1 := hide hR2; have KZ1 := hide (KZ.out W1 hw1); clear hR1 hR2 hR3 hw1 hz1)
      | (go_at_call 27; refine (KZ1.out).mono ?_; rintro e w' ⟨rfl, hw⟩; obtain rfl := hw.symm)
      | (go_at_call 10; refine (KP.out _).mono ?_; rintro e W2 ⟨rfl, hB2⟩; have HB2 := hide hB2; clear hB2))
    have mk : ∀ W, Below (W2.alloc (.cells #[.int .i64 x, .int .i64 128, .int .i64 32768, .int .i64 32896, .int .i64 q] 37)).heap.size (W2.alloc (.cells #[.int .i64 x, .int .i64 128, .int .i64 32768, .int .i64 32896, .int .i64 q] 37)) W → Below (W2.alloc (.cells #[.int .i64 x, .int .i64 128, .int .i64 32768, .int .i64 32896, .int .i64 q] 37)).heap.size (W2.alloc (.cells #[.int .i64 x, .int .i64 128, .int .i64 32768, .int .i64 32896, .int .i64 q] 37)) W ∧ W.rangeAt R 0 (tk.map B8) ∧ W.cell? ⟨W2.heap.size, 0, none⟩ = some (.int .i64 x) ∧ W.cell? ⟨W2.heap.size, 1, none⟩ = some (.int .i64 128) ∧ W.cell? ⟨W2.heap.size, 2, none⟩ = some (.int .i64 32768) ∧ W.cell? ⟨W2.heap.size, 3, none⟩ = some (.int .i64 32896) ∧ W.cell? ⟨W2.heap.size, 4, none⟩ = some (.int .i64 q) := fun W hB => by
      have hr := row_keep (row_keep (row_keep HR1.out HB2.out) ((Below.refl _ W2).alloc (Nat.le_refl _) _)) hB
      exact ⟨hB, range_all hr, suBox (row_after hB)⟩
    have mz : ∀ W, Below (W2.alloc (.cells #[.int .i64 x, .int .i64 128, .int .i64 32768, .int .i64 32896, .int .i64 q] 37)).heap.size (W2.alloc (.cells #[.int .i64 x, .int .i64 128, .int .i64 32768, .int .i64 32896, .int .i64 q] 37)) W → W.heap[w.heap.size]? = some (.cells #[.int .i64 0, .int .i64 0, .int .i64 0, .int .i64 0, .int .i64 0] 37 (0, 0)) ∧ Below w.heap.size w W := fun W hB => by
      refine ⟨row_keep (row_keep (row_keep HZ1.out HB2.out) ((Below.refl _ W2).alloc (Nat.le_refl _) _)) hB, ?_⟩
      have h5 := HW1.out.trans (HB2.out.mono HW1.out.size)
      have h6 := h5.alloc (o := .cells #[.int .i64 x, .int .i64 128, .int .i64 32768, .int .i64 32896, .int .i64 q] 37) h5.size
      exact h6.trans (hB.mono h6.size)
    have MK := hide mk
    have MZ := hide mz
    clear mk mz
    refine wp_region_held_drew (S := fun W => Below (W2.alloc (.cells #[.int .i64 x, .int .i64 128, .int .i64 32768, .int .i64 32896, .int .i64 q] 37)).heap.size (W2.alloc (.cells #[.int .i64 x, .int .i64 128, .int .i64 32768, .int .i64 32896, .int .i64 q] 37)) W ∧ W.rangeAt R 0 (tk.map B8) ∧ W.cell? ⟨W2.heap.size, 0, none⟩ = some (.int .i64 x) ∧ W.cell? ⟨W2.heap.size, 1, none⟩ = some (.int .i64 128) ∧ W.cell? ⟨W2.heap.size, 2, none⟩ = some (.int .i64 32768) ∧ W.cell? ⟨W2.heap.size, 3, none⟩ = some (.int .i64 32896) ∧ W.cell? ⟨W2.heap.size, 4, none⟩ = some (.int .i64 q)) (by kernel_rfl) (MK.out _ (Below.refl _ _).drew) (fun hS => ?_)
    refine wpAnyH_take (i := 0) (v := (.int .i64 0)) rfl (by kernel_rfl) (by kernel_rfl) (by kernel_rfl) (fun _ _ _ h => h) (Or.inl ⟨by kernel_rfl, fun w' hw => by (go_simp)⟩) hS ?_
    refine wpAnyH_take (i := 1) (v := (.bool false)) rfl (by kernel_rfl) (by kernel_rfl) (by kernel_rfl) (fun _ _ _ h => h) (Or.inl ⟨by kernel_rfl, fun w' hw => by (go_simp)⟩) hS ?_
    refine wpAnyH_take (i := 2) (v := (.bool false)) rfl (by kernel_rfl) (by kernel_rfl) (by kernel_rfl) (fun _ _ _ h => h) (Or.inl ⟨by kernel_rfl, fun w' hw => by (go_simp)⟩) hS ?_
    refine wpAnyH_take (i := 3) (v := (.slice (some ⟨R, 0, none⟩) 64 64)) rfl (by kernel_rfl) (by kernel_rfl) (by kernel_rfl) (fun _ _ _ h => h) (Or.inl ⟨by kernel_rfl, fun w' hw => by (go_simp)⟩) hS ?_
    refine wpAnyH_take (i := 4) (v := (.pointer (some ⟨R, 0, none⟩))) rfl (by kernel_rfl) (by kernel_rfl) (by kernel_rfl) (fun _ _ _ h => h) (Or.inl ⟨by kernel_rfl, fun w' hw => by (have e := array_line R 0 64 64 (by omega) w'; go_simp)⟩) hS ?_
    refine wpAnyH_take (i := 5) (v := (.agg (tk.map B8).toArray)) rfl (by kernel_rfl) (by kernel_rfl) (by kernel_rfl) (fun _ _ _ h => h) (yieldsIf_load_mid (by kernel_rfl) 68 (.tmp 26) (by kernel_rfl) R 0 (by kernel_rfl) (tk.map B8) (.array 64 5) (fun w hw => hw.2.1) (by kernel_rfl) rfl (by rw [List.length_map, HTL.out]; kernel_rfl)) hS ?_
    refine wpAnyH_take (i := 6) (v := (.agg #[.int .i64 x, .int .i64 128, .int .i64 32768, .int .i64 32896, .int .i64 q])) rfl (by kernel_rfl) (by kernel_rfl) (by kernel_rfl) (fun _ _ _ h => h) (Or.inl ⟨by kernel_rfl, fun w' hw => by (obtain ⟨_, z9, z0, z1, z2, z3, z4⟩ := hw; go_simp)⟩) hS ?_
    refine wpAnyH_ready (rs := [7]) (by kernel_rfl) (by simp) ?_
    refine AllReadyH.cons rfl (fun K hK => ?_) AllReadyH.nil
    rw [if_pos (by kernel_rfl)]
    go_simp
    go_wp2_with (go_at_call 28; refine (KB.out _).mono ?_; rintro e W3 ⟨rfl, hb3⟩)
    have hw3 := bseq (Below.refl _ (W2.alloc (.cells #[.int .i64 x, .int .i64 128, .int .i64 32768, .int .i64 32896, .int .i64 q] 37))).drew hb3
    refine hK.out _ _ (MK.out _ hw3) (fun hS2 => ?_)
    refine wpAnyH_take (i := 8) (v := (.bool false)) rfl (by kernel_rfl) (by kernel_rfl) (by kernel_rfl) (fun _ _ _ h => h) (Or.inl ⟨by kernel_rfl, fun w' hw => by (have e := l3 w'; go_simp)⟩) hS2 ?_
    refine wpAnyH_take (i := 9) (v := (.bool false)) rfl (by kernel_rfl) (by kernel_rfl) (by kernel_rfl) (fun _ _ _ h => h) (Or.inl ⟨by kernel_rfl, fun w' hw => by (go_simp)⟩) hS2 ?_
    refine wpAnyH_done (by kernel_rfl) ?_ _
    simp only [Act.put, List.getElem_toArray, List.getElem_cons_zero, List.getElem_cons_succ, List.setIfInBounds_toArray, List.set_cons_zero, List.set_cons_succ]
    obtain ⟨_, _, y0, y1, y2, y3, y4⟩ := hS2
    have hbz := MZ.out _ hw3
    obtain ⟨⟨d0, d1, d2, d3, d4⟩, ⟨f0, f1, f2, f3, f4⟩, RR, _, BB⟩ := chain5 hbz.1 (.int .i64 x) (.int .i64 128) (.int .i64 32768) (.int .i64 32896) (.int .i64 q)
    have R9 := hide RR
    have B9 := hide BB
    have BZ := hide hbz.2
    clear RR BB hbz hw3 hb3 hS
    go_wp2_with (fail)
    (try simp only [Exit.inBlock, Exit.then])
    refine bodyPost_ret (results_row_tmp rfl _ _ w.heap.size _ _ _ _ rfl R9.out Try.underlying37 rfl (by kernel_rfl)) rfl ?_
    exact ⟨rfl, B9.out _ _ (Nat.le_refl _) BZ.out⟩
  · rw [if_neg hne]
    have l3 : ∀ W : World, (Op.equalIn 10000 68 (.agg (tk.map B8).toArray) (.agg (sb.map B8).toArray)).run Try.prog W = .ok false W := fun W => by rw [eql_line tk sb W HTL.out HSL.out, decide_eq_false hne]
    clear hne
    go_enter Try.func14, Try.ntmps14
    go_upto_region 5 with (first
      | (go_at_call 26; refine (KL.out _ H0.out).mono ?_; rintro e W1 ⟨R, rfl, hR1, hR2, hR3⟩; have hw1 := H0.out.trans (hR3.mono (by simp)); have hz1 := row_after hR3; have HW1 := hide hw1; have HZ1 := hide hz1; have HR1 := hide hR2; have KZ1 := hide (KZ.out W1 hw1); clear hR1 hR2 hR3 hw1 hz1)
      | (go_at_call 27; refine (KZ1.out).mono ?_; rintro e w' ⟨rfl, hw⟩; obtain rfl := hw.symm)
      | (go_at_call 10; refine (KP.out _).mono ?_; rintro e W2 ⟨rfl, hB2⟩; have HB2 := hide hB2; clear hB2))
    have mk : ∀ W, Below (W2.alloc (.cells #[.int .i64 x, .int .i64 128, .int .i64 32768, .int .i64 32896, .int .i64 q] 37)).heap.size (W2.alloc (.cells #[.int .i64 x, .int .i64 128, .int .i64 32768, .int .i64 32896, .int .i64 q] 37)) W → Below (W2.alloc (.cells #[.int .i64 x, .int .i64 128, .int .i64 32768, .int .i64 32896, .int .i64 q] 37)).heap.size (W2.alloc (.cells #[.int .i64 x, .int .i64 128, .int .i64 32768, .int .i64 32896, .int .i64 q] 37)) W ∧ W.rangeAt R 0 (tk.map B8) ∧ W.cell? ⟨W2.heap.size, 0, none⟩ = some (.int .i64 x) ∧ W.cell? ⟨W2.heap.size, 1, none⟩ = some (.int .i64 128) ∧ W.cell? ⟨W2.heap.size, 2, none⟩ = some (.int .i64 32768) ∧ W.cell? ⟨W2.heap.size, 3, none⟩ = some (.int .i64 32896) ∧ W.cell? ⟨W2.heap.size, 4, none⟩ = some (.int .i64 q) := fun W hB => by
      have hr := row_keep (row_keep (row_keep HR1.out HB2.out) ((Below.refl _ W2).alloc (Nat.le_refl _) _)) hB
      exact ⟨hB, range_all hr, suBox (row_after hB)⟩
    have mz : ∀ W, Below (W2.alloc (.cells #[.int .i64 x, .int .i64 128, .int .i64 32768, .int .i64 32896, .int .i64 q] 37)).heap.size (W2.alloc (.cells #[.int .i64 x, .int .i64 128, .int .i64 32768, .int .i64 32896, .int .i64 q] 37)) W → W.heap[w.heap.size]? = some (.cells #[.int .i64 0, .int .i64 0, .int .i64 0, .int .i64 0, .int .i64 0] 37 (0, 0)) ∧ Below w.heap.size w W := fun W hB => by
      refine ⟨row_keep (row_keep (row_keep HZ1.out HB2.out) ((Below.refl _ W2).alloc (Nat.le_refl _) _)) hB, ?_⟩
      have h5 := HW1.out.trans (HB2.out.mono HW1.out.size)
      have h6 := h5.alloc (o := .cells #[.int .i64 x, .int .i64 128, .int .i64 32768, .int .i64 32896, .int .i64 q] 37) h5.size
      exact h6.trans (hB.mono h6.size)
    have MK := hide mk
    have MZ := hide mz
    clear mk mz
    refine wp_region_held_drew (S := fun W => Below (W2.alloc (.cells #[.int .i64 x, .int .i64 128, .int .i64 32768, .int .i64 32896, .int .i64 q] 37)).heap.size (W2.alloc (.cells #[.int .i64 x, .int .i64 128, .int .i64 32768, .int .i64 32896, .int .i64 q] 37)) W ∧ W.rangeAt R 0 (tk.map B8) ∧ W.cell? ⟨W2.heap.size, 0, none⟩ = some (.int .i64 x) ∧ W.cell? ⟨W2.heap.size, 1, none⟩ = some (.int .i64 128) ∧ W.cell? ⟨W2.heap.size, 2, none⟩ = some (.int .i64 32768) ∧ W.cell? ⟨W2.heap.size, 3, none⟩ = some (.int .i64 32896) ∧ W.cell? ⟨W2.heap.size, 4, none⟩ = some (.int .i64 q)) (by kernel_rfl) (MK.out _ (Below.refl _ _).drew) (fun hS => ?_)
    refine wpAnyH_take (i := 0) (v := (.int .i64 0)) rfl (by kernel_rfl) (by kernel_rfl) (by kernel_rfl) (fun _ _ _ h => h) (Or.inl ⟨by kernel_rfl, fun w' hw => by (go_simp)⟩) hS ?_
    refine wpAnyH_take (i := 1) (v := (.bool false)) rfl (by kernel_rfl) (by kernel_rfl) (by kernel_rfl) (fun _ _ _ h => h) (Or.inl ⟨by kernel_rfl, fun w' hw => by (go_simp)⟩) hS ?_
    refine wpAnyH_take (i := 2) (v := (.bool false)) rfl (by kernel_rfl) (by kernel_rfl) (by kernel_rfl) (fun _ _ _ h => h) (Or.inl ⟨by kernel_rfl, fun w' hw => by (go_simp)⟩) hS ?_
    refine wpAnyH_take (i := 3) (v := (.slice (some ⟨R, 0, none⟩) 64 64)) rfl (by kernel_rfl) (by kernel_rfl) (by kernel_rfl) (fun _ _ _ h => h) (Or.inl ⟨by kernel_rfl, fun w' hw => by (go_simp)⟩) hS ?_
    refine wpAnyH_take (i := 4) (v := (.pointer (some ⟨R, 0, none⟩))) rfl (by kernel_rfl) (by kernel_rfl) (by kernel_rfl) (fun _ _ _ h => h) (Or.inl ⟨by kernel_rfl, fun w' hw => by (have e := array_line R 0 64 64 (by omega) w'; go_simp)⟩) hS ?_
    refine wpAnyH_take (i := 5) (v := (.agg (tk.map B8).toArray)) rfl (by kernel_rfl) (by kernel_rfl) (by kernel_rfl) (fun _ _ _ h => h) (yieldsIf_load_mid (by kernel_rfl) 68 (.tmp 26) (by kernel_rfl) R 0 (by kernel_rfl) (tk.map B8) (.array 64 5) (fun w hw => hw.2.1) (by kernel_rfl) rfl (by rw [List.length_map, HTL.out]; kernel_rfl)) hS ?_
    refine wpAnyH_take (i := 6) (v := (.agg #[.int .i64 x, .int .i64 128, .int .i64 32768, .int .i64 32896, .int .i64 q])) rfl (by kernel_rfl) (by kernel_rfl) (by kernel_rfl) (fun _ _ _ h => h) (Or.inl ⟨by kernel_rfl, fun w' hw => by (obtain ⟨_, z9, z0, z1, z2, z3, z4⟩ := hw; go_simp)⟩) hS ?_
    refine wpAnyH_ready (rs := [7]) (by kernel_rfl) (by simp) ?_
    refine AllReadyH.cons rfl (fun K hK => ?_) AllReadyH.nil
    rw [if_pos (by kernel_rfl)]
    go_simp
    go_wp2_with (go_at_call 28; refine (KB.out _).mono ?_; rintro e W3 ⟨rfl, hb3⟩)
    have hw3 := bseq (Below.refl _ (W2.alloc (.cells #[.int .i64 x, .int .i64 128, .int .i64 32768, .int .i64 32896, .int .i64 q] 37))).drew hb3
    refine hK.out _ _ (MK.out _ hw3) (fun hS2 => ?_)
    refine wpAnyH_take (i := 8) (v := (.bool true)) rfl (by kernel_rfl) (by kernel_rfl) (by kernel_rfl) (fun _ _ _ h => h) (Or.inl ⟨by kernel_rfl, fun w' hw => by (have e := l3 w'; go_simp)⟩) hS2 ?_
    refine wpAnyH_take (i := 9) (v := (.bool true)) rfl (by kernel_rfl) (by kernel_rfl) (by kernel_rfl) (fun _ _ _ h => h) (Or.inl ⟨by kernel_rfl, fun w' hw => by (go_simp)⟩) hS2 ?_
    refine wpAnyH_done (by kernel_rfl) ?_ _
    simp only [Act.put, List.getElem_toArray, List.getElem_cons_zero, List.getElem_cons_succ, List.setIfInBounds_toArray, List.set_cons_zero, List.set_cons_succ]
    obtain ⟨_, _, y0, y1, y2, y3, y4⟩ := hS2
    have hbz := MZ.out _ hw3
    obtain ⟨⟨d0, d1, d2, d3, d4⟩, ⟨f0, f1, f2, f3, f4⟩, RR, _, BB⟩ := chain5 hbz.1 (.int .i64 0) (.int .i64 0) (.int .i64 0) (.int .i64 0) (.int .i64 0)
    have R9 := hide RR
    have B9 := hide BB
    have BZ := hide hbz.2
    clear RR BB hbz hw3 hb3 hS
    go_wp2_with (fail)
    (try simp only [Exit.inBlock, Exit.then])
    refine bodyPost_ret (results_row_tmp rfl _ _ w.heap.size _ _ _ _ rfl R9.out Try.underlying37 rfl (by kernel_rfl)) rfl ?_
    exact ⟨rfl, B9.out _ _ (Nat.le_refl _) BZ.out⟩
end
end Go.Proofs.Ytmljacjbpcgijaa
namespace Go.Proofs.Ytmljacjbpcgijaa
open Go.RowKit Go.Shelf
set_option linter.unusedVariables false

theorem wp_build0 {P : Program} {o : Oper} {a : Act} {w : World} {K : Act → World → Prop} {Q : Exit → Act → World → Prop} (t : TypeId) (ho : o.op = .build t #[]) (v : Value) (hr : (Instr.build t #[]).run P w = .ok v w) (h : K (a.put o.dst v) w) : o.wp P a w K Q := by
  unfold Oper.wp execOp
  simp only [ho, Sem.run_bind, List.map_toArray, List.map_nil, hr, Result.andThen_ok]
  exact h
theorem wp_build2 {P : Program} {o : Oper} {a : Act} {w : World} {K : Act → World → Prop} {Q : Exit → Act → World → Prop} (t : TypeId) (i j : Nat) (x y : Operand) (ho : o.op = .build t #[(i, x), (j, y)]) (vx vy v : Value) (hx : a.eval x = vx) (hy : a.eval y = vy) (hr : (Instr.build t #[(i, vx), (j, vy)]).run P w = .ok v w) (h : K (a.put o.dst v) w) : o.wp P a w K Q := by
  unfold Oper.wp execOp
  simp only [ho, Sem.run_bind, List.map_toArray, List.map_cons, List.map_nil, hx, hy, hr, Result.andThen_ok]
  exact h
theorem wp_slice4 {P : Program} {o : Oper} {a : Act} {w w' : World} {K : Act → World → Prop} {Q : Exit → Act → World → Prop} (t : TypeId) (n : Nat) (x0 x1 x2 x3 : Operand) (ho : o.op = .buildSlice t n #[(0, x0), (1, x1), (2, x2), (3, x3)]) (v0 v1 v2 v3 v : Value) (h0 : a.eval x0 = v0) (h1 : a.eval x1 = v1) (h2 : a.eval x2 = v2) (h3 : a.eval x3 = v3) (hr : (Instr.buildSlice t n #[(0, v0), (1, v1), (2, v2), (3, v3)]).run P w = .ok v w') (h : K (a.put o.dst v) w') : o.wp P a w K Q := by
  unfold Oper.wp execOp
  simp only [ho, Sem.run_bind, List.map_toArray, List.map_cons, List.map_nil, h0, h1, h2, h3, hr, Result.andThen_ok]
  exact h
/-- What Format answers. -/
def FmtR (x : Int) (e : Ending) (c : Int) : Prop := (c = 0 ∧ e = .returned (.tuple #[.agg #[.int .i64 x, .int .i64 128, .int .i64 32768, .int .i64 32896, .int .i64 ((x - 32896) / 256)], .int .i64 0])) ∨ (c = 5 ∧ e = .returned (.tuple #[.agg #[.int .i64 0, .int .i64 0, .int .i64 0, .int .i64 0, .int .i64 0], .int .i64 5]))
theorem bel_gr {X : Nat → Prop} {W0 W W' : World} (h : Gr X W0 W) (hB : Below W.heap.size W W') : Gr X W0 W' := h.trans (Gr.of_below hB) (fun i h => .inl h)
theorem Atd.below {W0 W W' : World} {b : Nat} {L : Lay} {σ σ' : St} {m : Nat} (h : Atd W0 b L σ W σ' m) (hB : Below W.heap.size W W') : Atd W0 b L σ W' σ' m := by
  obtain ⟨hg, L', hd, hf, hN⟩ := h
  exact ⟨bel_gr hg hB, L', hd.below hB, hf, hN⟩
theorem Gr.set5 (V : World) (B : Nat) (v0 v1 v2 v3 v4 : Value) : Gr (fun k => k = B) V (set5 V B v0 v1 v2 v3 v4) := by
  unfold Go.Proofs.Ytmljacjbpcgijaa.set5
  have hh : ∀ (W : World) (o : Nat) (v : Value), Gr (fun k => k = B) W (W.setCell ⟨B, o, none⟩ v) := fun W o v => Gr.set W B o v rfl
  exact ((((hh V 0 v0).trans (hh _ 1 v1) (fun i h => .inl h)).trans (hh _ 2 v2) (fun i h => .inl h)).trans (hh _ 3 v3) (fun i h => .inl h)).trans (hh _ 4 v4) (fun i h => .inl h)
theorem Atd.set5 {w W5 V : World} {b : Nat} {L : Lay} {σ s : St} {m : Nat} (h : Atd W5 b L σ V s m) (hd : DevL w b L σ) (hB : Below w.heap.size w W5) (hlt : w.heap.size < W5.heap.size) (v0 v1 v2 v3 v4 : Value) : Atd w b L σ (set5 V w.heap.size v0 v1 v2 v3 v4) s m := by
  obtain ⟨hg, L', hd2, hf, hN⟩ := h
  have g5 := Gr.set5 V w.heap.size v0 v1 v2 v3 v4
  refine ⟨((Gr.of_below hB).trans hg (fun i h => .inl h)).trans g5 (fun i h => .inr (by omega)), L', hd2.keep (fun k hk => g5.block (hd2.foot_is hk) (fun e => ?_)), fun k hk => ?_, hN⟩
  · rcases hf k hk with h1 | h1
    · have := hd.foot_is h1; omega
    · omega
  · rcases hf k hk with h1 | h1
    · exact .inl h1
    · exact .inr (by omega)
theorem wpList_build0 {P : Program} {ops : Array Oper} {rest : List Oper} {op : Oper} {a : Act} {w : World} {Q : Exit → Act → World → Prop} (hgd : op.guard = none) (t : TypeId) (ho : op.op = .build t #[]) (v : Value) (hr : (Instr.build t #[]).run P w = .ok v w)
    (h : wpList P ops Q rest (a.put op.dst v) w) : wpList P ops Q (op :: rest) a w :=
  wpList_plain hgd fun _ hK => wp_build0 t ho v hr (hK _ _ h)
theorem wpList_build2 {P : Program} {ops : Array Oper} {rest : List Oper} {op : Oper} {a : Act} {w : World} {Q : Exit → Act → World → Prop} (hgd : op.guard = none) (t : TypeId) (i j : Nat) (x y : Operand) (ho : op.op = .build t #[(i, x), (j, y)]) (vx vy v : Value) (hx : a.eval x = vx) (hy : a.eval y = vy) (hr : (Instr.build t #[(i, vx), (j, vy)]).run P w = .ok v w)
    (h : wpList P ops Q rest (a.put op.dst v) w) : wpList P ops Q (op :: rest) a w :=
  wpList_plain hgd fun _ hK => wp_build2 t i j x y ho vx vy v hx hy hr (hK _ _ h)
theorem wpList_slice4 {P : Program} {ops : Array Oper} {rest : List Oper} {op : Oper} {a : Act} {w w' : World} {Q : Exit → Act → World → Prop} (hgd : op.guard = none) (t : TypeId) (n : Nat) (x0 x1 x2 x3 : Operand) (ho : op.op = .buildSlice t n #[(0, x0), (1, x1), (2, x2), (3, x3)]) (v0 v1 v2 v3 v : Value) (h0 : a.eval x0 = v0) (h1 : a.eval x1 = v1) (h2 : a.eval x2 = v2) (h3 : a.eval x3 = v3) (hr : (Instr.buildSlice t n #[(0, v0), (1, v1), (2, v2), (3, v3)]).run P w = .ok v w')
    (h : wpList P ops Q rest (a.put op.dst v) w') : wpList P ops Q (op :: rest) a w :=
  wpList_plain hgd fun _ hK => wp_slice4 t n x0 x1 x2 x3 ho v0 v1 v2 v3 v h0 h1 h2 h3 hr (hK _ _ h)
section
variable {w : World} {b : Nat} {L : Lay} {σ : St}
set_option maxRecDepth 100000 in
set_option maxHeartbeats 400000 in
theorem format_ok (h : DevL w b L σ) (hok : σ.Ok) (ho : σ.off = false) (hN : L.N ≤ σ.ops) (hfw : Few σ) (hcn : σ.cnt + 20000000 ≤ 1400000000000) (hops : σ.ops + 20000000 ≤ 1400000000000) (hs : okS ((64 * σ.n : Nat) : Int)) :
    Calls Try.prog 9 #[.pointer (some ⟨b, 0, none⟩)] w fun e w' => ∃ (c : Int) (s : St), FmtR ((64 * σ.n : Nat) : Int) e c ∧ FmtD (sbX ((64 * σ.n : Nat) : Int)) σ c s ∧ s.Ok ∧ Atd w b L σ w' s 36 := by
  have hp := hok.pos
  have hn3 : 3 ≤ σ.n := by have := hs.1; omega
  have hmx := hok.max
  have kl : ∀ W, Below w.heap.size w W → Calls Try.prog 26 #[.pointer (some ⟨b, 0, none⟩), .int .i64 0, .int .i64 0] W fun e w' => ∃ R, e = .returned (.tuple #[.slice (some ⟨R, 0, none⟩) 0 0, .int .i64 0]) ∧ Below W.heap.size W w' := fun W hB => by
    have k := callsIn_wide.1 (pload_in (at_ := 0) (n := 0) (h.below hB) hok ho (by omega))
    exact k.mono fun e w' ⟨R, h1, _, _, h4⟩ => ⟨R, h1, h4⟩
  obtain ⟨x, hx⟩ : ∃ x : Int, x = ((64 * σ.n : Nat) : Int) := ⟨_, rfl⟩
  have kz : ∀ W, Below w.heap.size w W → Calls Try.prog 27 #[.pointer (some ⟨b, 0, none⟩)] W fun e w' => e = .returned (.int .i64 x) ∧ w' = W := fun W hB => by
    rw [hx]
    exact psize_any (h.below hB) hok.max
  rw [← hx] at hs ⊢
  have kp : ∀ W, Calls Try.prog 10 #[.int .i64 x] W fun e w' => e = .returned (.tuple #[.agg #[.int .i64 x, .int .i64 128, .int .i64 32768, .int .i64 32896, .int .i64 ((x - 32896) / 256)], .int .i64 0]) ∧ Below W.heap.size W w' := fun W => plan_ok x W hs
  have kb := fun W => block_any x W hs
  have hsl := sbX_len x
  have hsb := sbX_lt x
  generalize sbX x = sb at *
  obtain ⟨q, hq⟩ : ∃ q, (x - 32896) / 256 = q := ⟨_, rfl⟩
  rw [hq] at kp kb
  have HQ := hide hq
  clear hq
  have KB := hide (show ∀ (k : Nat) (s : St) (X : World) (L' : Lay) (g : Nat), k < 4 → fmS sb σ k s → DevL X b L' s → L'.N ≤ L.N + 9 * k → (∀ i y : Nat, (fmTo sb k)[i]? = some y → X.cell? ⟨g, 1 + i, none⟩ = some (.int .u8 (y : Int))) → g < X.heap.size → ¬ Foot b L' s g → Calls Try.prog 29 #[.pointer (some ⟨b, 0, none⟩), .int .i64 (fmAt k : Int), .slice (some ⟨g, 1, none⟩) 64 64] X fun e w' => ∃ c s', e = .returned (.int .i64 c) ∧ (c = 0 → fmS sb σ (k + 1) s') ∧ (c ≠ 0 → c = 5 ∧ FmtD sb σ 5 s' ∧ s'.Ok) ∧ Atd X b L' s w' s' 9 from fun k s X L' g hk hf hd hLN hc hg hnf => by
    have i := fmS_like hok hsl hsb hn3 (by omega) k s (by omega) hf
    have i1 := i.n
    have i2 := i.ops
    have i3 := i.cnt
    have hcn2 : s.cnt ≤ σ.cnt + 40 := by rw [i3]; split <;> omega
    have hl64 := fmTo_len hsl k
    have hq : ∃ q, fmAt k = 64 * q ∧ q ≤ 2 := by unfold fmAt; split; exact ⟨0, rfl, by omega⟩; exact ⟨k, rfl, by omega⟩
    obtain ⟨q5, e1, e2⟩ := hq
    have kk := qbytesG_any (a := some ⟨g, 1, none⟩) (bs := fmTo sb k) (fmAt k) 64 hd i.ok (i.off.trans ho) (by omega) ⟨by rw [i.arms]; exact hfw.one, by omega⟩ (by omega) (by omega) (.inr ⟨g, 1, rfl, hg, fun j y hy => ⟨hc j y hy, fmTo_lt hsb k y (List.mem_of_getElem? hy)⟩⟩) (by omega) (by omega) (by rw [i1]; omega) (fun ad he => by cases he; exact ⟨hg, hnf⟩)
    rw [hl64, e1, wordsLine q5 (by omega), linesLine q5 (by omega)] at kk
    rw [e1]
    refine kk.mono fun e w' ⟨c, s', h1, h2, h3⟩ => ⟨c, s', h1, fun h0 => ⟨s, hf, by subst h0; rw [e1]; exact h2⟩, fun h0 => ?_, by simpa using h3⟩
    rcases byt_code h2 with h5 | h5
    · exact absurd h5 h0
    · subst h5
      exact ⟨rfl, fmS_cut hf hk (by rw [e1]; exact h2), byt_ok5 i.ok (fmTo_lt hsb k) (by rw [hl64, i1]; omega) (by omega) h2⟩)
  have HOKS := hide (fun (k : Nat) (s : St) (hk : k ≤ 4) (hf : fmS sb σ k s) => (fmS_like hok hsl hsb hn3 (by omega) k s hk hf).ok)
  have KL := hide kl
  have KZ := hide kz
  have KP := hide kp
  have KSB := hide kb
  have HSL := hide hsl
  have HD := hide h
  clear kl kz kp kb hsl hsb h hok ho hs hx hp hN hfw hcn hops hn3 hmx
  have H0 := hide (show Below w.heap.size w (w.alloc (.cells #[.int .i64 0, .int .i64 0, .int .i64 0, .int .i64 0, .int .i64 0] 37)) from (Below.refl _ w).alloc (Nat.le_refl _) _)
  obtain ⟨ZE, hzl, hz⟩ := el_alloc
  have HZ := hide hz
  have HZL := hide hzl
  clear hz hzl
  go_enter Try.func9, Try.ntmps9
  go_upto_region 7 with (first
    | (go_at_call 26; refine (KL.out _ H0.out).mono ?_; rintro e W1 ⟨R, rfl, hR3⟩; have hw1 := H0.out.trans (hR3.mono (by simp)); have hz1 := row_after hR3; have HW1 := hide hw1; have HZ1 := hide hz1; have KZ1 := hide (KZ.out W1 hw1); clear hR3 hw1 hz1)
    | (go_at_call 27; refine (KZ1.out).mono ?_; rintro e w' ⟨rfl, hw⟩; obtain rfl := hw.symm)
    | (go_at_call 10; refine (KP.out _).mono ?_; rintro e W2 ⟨rfl, hB2⟩; have HB2 := hide hB2; clear hB2))
  obtain ⟨c0, c1, c2, c3, c4⟩ := suBox (heap_alloc_new W2 (.cells #[.int .i64 x, .int .i64 128, .int .i64 32768, .int .i64 32896, .int .i64 q] 37))
  have b0 : ∀ W, (Instr.build 68 #[]).run Try.prog W = .ok (.agg (z64.map B8).toArray) W := build_line
  have b1 := fun W => build_el z64 0 W z64_len
  have b2 := fun W => build_el z64 64 W z64_len
  have b3 := fun W => build_el z64 128 W z64_len
  have b4 := fun W => build_el sb 0 W HSL.out
  have s4 := fun W => slice_els sb HSL.out W
  have ksb := KSB.out
  obtain ⟨SA, hSA⟩ : ∃ A, (sb.map B8).toArray = A := ⟨_, rfl⟩
  obtain ⟨ZA, hZA⟩ : ∃ A, (z64.map B8).toArray = A := ⟨_, rfl⟩
  obtain ⟨A0, hA0⟩ : ∃ A, (elF 0 z64).toArray = A := ⟨_, rfl⟩
  obtain ⟨A1, hA1⟩ : ∃ A, (elF 64 z64).toArray = A := ⟨_, rfl⟩
  obtain ⟨A2, hA2⟩ : ∃ A, (elF 128 z64).toArray = A := ⟨_, rfl⟩
  obtain ⟨A3, hA3⟩ : ∃ A, (elF 0 sb).toArray = A := ⟨_, rfl⟩
  obtain ⟨RW, hRW⟩ : ∃ A, (rowF sb).toArray = A := ⟨_, rfl⟩
  rw [hSA] at ksb
  rw [hZA] at b0
  simp only [hZA, hA0] at b1
  simp only [hZA, hA1] at b2
  simp only [hZA, hA2] at b3
  simp only [hSA, hA3] at b4
  simp only [hA0, hA1, hA2, hA3, hRW] at s4
  have HRW := hide hRW
  have KS2 := hide ksb
  clear KSB ksb hSA hZA hA0 hA1 hA2 hA3 hRW
  refine wp_region_lit ?_
  refine wpList_build0 rfl 68 rfl (.agg ZA) (b0 _) ?_
  refine wpList_build2 rfl 69 0 1 (.const (.int .i64 0)) (.tmp 30) rfl (.int .i64 0) (.agg ZA) (.agg A0) (by kernel_rfl) (by kernel_rfl) (b1 _) ?_
  refine wpList_build0 rfl 68 rfl (.agg ZA) (b0 _) ?_
  refine wpList_build2 rfl 69 0 1 (.const (.int .i64 64)) (.tmp 32) rfl (.int .i64 64) (.agg ZA) (.agg A1) (by kernel_rfl) (by kernel_rfl) (b2 _) ?_
  refine wpList_build0 rfl 68 rfl (.agg ZA) (b0 _) ?_
  refine wpList_build2 rfl 69 0 1 (.const (.int .i64 128)) (.tmp 34) rfl (.int .i64 128) (.agg ZA) (.agg A2) (by kernel_rfl) (by kernel_rfl) (b3 _) ?_
  simp only [Act.put, List.setIfInBounds_toArray, List.set_cons_zero, List.set_cons_succ]
  go_upto_region 8 with (first
    | (refine wpList_build2 rfl 69 0 1 (.const (.int .i64 0)) (.tmp 37) rfl (.int .i64 0) (.agg SA) (.agg A3) (by kernel_rfl) (by kernel_rfl) (b4 _) ?_)
    | (refine wpList_slice4 rfl 71 4 (.tmp 31) (.tmp 33) (.tmp 35) (.tmp 38) rfl (.agg A0) (.agg A1) (.agg A2) (.agg A3) _ (by kernel_rfl) (by kernel_rfl) (by kernel_rfl) (by kernel_rfl) (s4 _) ?_)
    | (go_at_call 28; refine (KS2.out _).mono ?_; rintro e W3 ⟨rfl, hB3⟩; have HB3 := hide hB3; clear hB3))
  have e2 : Below w.heap.size w W2 := bseq HW1.out HB2.out
  have e3 := bseq (e2.alloc (o := .cells #[.int .i64 x, .int .i64 128, .int .i64 32768, .int .i64 32896, .int .i64 q] 37) e2.size) HB3.out
  have e5 : Below w.heap.size w (W3.alloc (.cells RW 69)) := e3.alloc e3.size _
  have a3 : Below W3.heap.size W3 (W3.alloc (.cells RW 69)) := (Below.refl _ W3).alloc (Nat.le_refl _) _
  have a2 : Below W2.heap.size W2 (W2.alloc (.cells #[.int .i64 x, .int .i64 128, .int .i64 32768, .int .i64 32896, .int .i64 q] 37)) := (Below.refl _ W2).alloc (Nat.le_refl _) _
  have r1 := row_keep (row_keep (row_keep (row_keep HZ1.out HB2.out) a2) HB3.out) a3
  have r2 := row_keep (row_after HB3.out) a3
  have r3 := heap_alloc_new W3 (.cells RW 69)
  have hd5 := HD.out.below e5
  have q2 : w.heap.size ≤ W2.heap.size := e2.size
  have q3 : w.heap.size ≤ W3.heap.size := e3.size
  clear e2 e3 a3 a2 HB3 HB2 HW1 HZ1 KZ1 b0 b1 b2 b3 b4 s4 KS2 KP KL KZ H0 c0 c1 c2 c3 c4
  generalize W3.alloc (.cells RW 69) = W5 at *
  generalize W3.heap.size = g5 at *
  generalize W2.heap.size = g2 at *
  have R1 := hide r1
  have R2 := hide r2
  have R3 := hide r3
  have E5 := hide e5
  have HD5 := hide hd5
  have Q2 := hide q2
  have Q3 := hide q3
  have UEL := hide (show Try.prog.underlying 69 = some (.struct (Try.prog.fieldsOf 69)) by kernel_rfl)
  clear r1 r2 r3 e5 hd5 q2 q3
  go_loopw [41] (fun iv wr => ∃ (k : Nat) (s : St), iv = .int .i64 (k : Int) ∧ k ≤ 4 ∧ fmS sb σ k s ∧ Atd W5 b L σ wr s (9 * k)) (fun iv _ => (4 - (intOf iv).toNat))
  case atStart => exact ⟨0, σ, rfl, by omega, rfl, Atd.start HD5.out (Below.refl _ _)⟩
  case round =>
    obtain ⟨k, s, rfl, hk, hfs, hA⟩ := hrel
    obtain ⟨hg, L', hd, hf, hN⟩ := hA
    have nf : ∀ g, w.heap.size ≤ g → ¬ Foot b L σ g := fun g h1 h2 => by have := HD.out.foot_is h2; omega
    have z1 := hg.keep R1.out (nf _ (Nat.le_refl _))
    have z2 := hg.keep R2.out (nf _ Q2.out)
    by_cases hlt : k < 4
    · have kI : (k : Int) < 4 := by omega
      have hrow := hg.keep R3.out (nf _ Q3.out)
      obtain ⟨CE, hCE⟩ : ∃ C, elF (fmAt k : Int) (fmTo sb k) = C := ⟨_, rfl⟩
      have hcl : CE.length = 65 := by rw [← hCE]; exact elF_len (fmTo_len HSL.out k)
      have hrg : wr.rangeAt g5 (k * 65) CE := fun j v hv => by
        have hj : j < 65 := by have := (List.getElem?_eq_some_iff.1 hv).1; omega
        rw [cell8 hrow, ← HRW.out, List.getElem?_toArray, Nat.mul_comm k 65, rowF_at HSL.out k hlt j hj, hCE, hv]
      have l0 := fun X => index_el g5 k hlt X
      have hsz : (Try.prog.info? 69).map (·.size) = some CE.length := by rw [hcl]; kernel_rfl
      have si : (Try.prog.info? 69).map (·.size) = some CE.toArray.size := by rw [List.size_toArray]; exact hsz
      have th : (wr.alloc (.cells ZE.toArray 69)).there wr.heap.size 0 CE.toArray.size := there_row (heapNew wr _) 0 _ (by rw [List.size_toArray, hcl, HZL.out]; omega)
      obtain ⟨n1, n2, n3⟩ := new_row (W := wr) (cur := ZE) (vs := CE) (t := 69) (by rw [hcl, HZL.out])
      have s1 : CE.toArray.all (·.oneCell') = true := by rw [← hCE]; exact all_oneCell_toArray elF_one
      have HCE := hide hCE
      have HCL := hide hcl
      have HRG := hide hrg
      have HSZ := hide hsz
      have SI := hide si
      have TH := hide th
      have S1 := hide s1
      have N1 := hide n1
      have N2 := hide n2
      have HG := hide hg
      have HDD := hide hd
      have HF := hide hf
      have HN := hide hN
      have HFS := hide hfs
      have HLT := hide hlt
      have Z1 := hide z1
      clear hCE hcl hrg hsz si th s1 n1 n2 n3 hg hd hf hN hfs nf z1 z2 hrow
      go_wp2_with (first | (refine wpList_load_mid rfl 69 (.tmp 43) rfl g5 (k * 65) (by kernel_rfl) CE (.struct (Try.prog.fieldsOf 69)) HRG.out UEL.out rfl HSZ.out ?_) | (refine wpList_alloc_row rfl 69 rfl ZE (HZ.out _) ?_) | (refine wpList_store_mid rfl 69 (.tmp 9) (.tmp 44) rfl wr.heap.size 0 CE.toArray (by kernel_rfl) (by kernel_rfl) TH.out SI.out S1.out ?_))
      try go_frame
      generalize hX : (wr.alloc (.cells ZE.toArray 69)).setCells wr.heap.size 0 CE = X at *
      clear hX
      have hcell : ∀ Y : World, Y.heap[wr.heap.size]? = some (.cells CE.toArray 69 (0, 0)) → Y.cell? ⟨wr.heap.size, 0, none⟩ = some (.int .i64 (fmAt k : Int)) ∧ ∀ i y : Nat, (fmTo sb k)[i]? = some y → Y.cell? ⟨wr.heap.size, 1 + i, none⟩ = some (.int .u8 (y : Int)) := fun Y hY => by
        refine ⟨by rw [cell8 hY, ← HCE.out]; rfl, fun i y hy => ?_⟩
        rw [cell8 hY, ← HCE.out, List.getElem?_toArray, Nat.add_comm 1 i]
        show ((fmTo sb k).map B8)[i]? = _
        rw [List.getElem?_map, hy]
        rfl
      have hx0 : X.drew.heap[wr.heap.size]? = some (.cells CE.toArray 69 (0, 0)) := N1.out
      have hnf : ¬ Foot b L' s wr.heap.size := fun h2 => by have := HDD.out.foot_is h2; omega
      have HNF := hide hnf
      have HX0 := hide hx0
      have BX := hide (N2.out.drew)
      have KBk := hide (KB.out k s X.drew L' wr.heap.size hlt HFS.out (HDD.out.below N2.out.drew) HN.out (hcell _ hx0).2 (lt_of_heap hx0) hnf)
      have s0 := (hcell _ hx0).1
      generalize (fmAt k : Int) = fa at *
      clear hcell hx0 hnf HCE
      refine wp_region_held_drew (S := fun Y => Y.cell? ⟨wr.heap.size, 0, none⟩ = some (.int .i64 fa)) (by kernel_rfl) s0 (fun hS => ?_)
      refine wpAnyH_take (i := 0) (v := (.pointer (some ⟨b, 0, none⟩))) rfl (by kernel_rfl) (by kernel_rfl) (by kernel_rfl) (fun _ _ _ h => h) (Or.inl ⟨by kernel_rfl, fun w' hw => by (go_simp)⟩) hS ?_
      refine wpAnyH_take (i := 1) (v := (.pointer (some ⟨wr.heap.size, 0, none⟩))) rfl (by kernel_rfl) (by kernel_rfl) (by kernel_rfl) (fun _ _ _ h => h) (Or.inl ⟨by kernel_rfl, fun w' hw => by (go_simp)⟩) hS ?_
      refine wpAnyH_take (i := 2) (v := (.int .i64 fa)) rfl (by kernel_rfl) (by kernel_rfl) (by kernel_rfl) (fun _ _ _ h => h) (Or.inl ⟨by kernel_rfl, fun w' hw => by (go_simp)⟩) hS ?_
      refine wpAnyH_take (i := 3) (v := (.pointer (some ⟨wr.heap.size, 1, none⟩))) rfl (by kernel_rfl) (by kernel_rfl) (by kernel_rfl) (fun _ _ _ h => h) (Or.inl ⟨by kernel_rfl, fun w' hw => by (go_simp)⟩) hS ?_
      refine wpAnyH_take (i := 4) (v := (.slice (some ⟨wr.heap.size, 1, none⟩) 64 64)) rfl (by kernel_rfl) (by kernel_rfl) (by kernel_rfl) (fun _ _ _ h => h) (Or.inl ⟨by kernel_rfl, fun w' hw => by (have e := slice_ln wr.heap.size w'; go_simp)⟩) hS ?_
      refine wpAnyH_ready (rs := [5]) (by kernel_rfl) (by simp) ?_
      refine AllReadyH.cons rfl (fun K hK => ?_) AllReadyH.nil
      rw [if_pos (by kernel_rfl)]
      go_simp
      go_wp2_with (go_at_call 29; refine (KBk.out).mono ?_; rintro e Y ⟨c, s2, rfl, h0, h5, hA⟩; have H0 := hide h0; have H5 := hide h5; have HA := hide hA; clear h0 h5 hA)
      have hY : Y.cell? ⟨wr.heap.size, 0, none⟩ = some (.int .i64 fa) := (World.cell?_of_block (a := ⟨wr.heap.size, 0, none⟩) (HA.out.1.block (lt_of_heap HX0.out) HNF.out)).trans s0
      refine hK.out _ _ hY (fun hS2 => ?_)
      refine wpAnyH_take (i := 6) (v := (.int .i64 c)) rfl (by kernel_rfl) (by kernel_rfl) (by kernel_rfl) (fun _ _ _ h => h) (Or.inl ⟨by kernel_rfl, fun w' hw => by (go_simp)⟩) hS2 ?_
      refine wpAnyH_done (by kernel_rfl) ?_ _
      simp only [Act.put, List.getElem_toArray, List.getElem_cons_zero, List.getElem_cons_succ, List.setIfInBounds_toArray, List.set_cons_zero, List.set_cons_succ]
      have hat : Atd W5 b L σ Y s2 (9 * k + 9) := by
        obtain ⟨gA, L2, dA, fA, nA⟩ := HA.out
        exact Atd.go (bel_gr HG.out BX.out) HF.out HN.out dA fA gA nA
      have nf : ¬ Foot b L σ w.heap.size := fun h2 => by have := HD.out.foot_is h2; omega
      have zY := hat.1.keep R1.out nf
      have HAT := hide hat
      clear hat nf hS hS2 hY hK s0
      by_cases hc : c = 0
      · subst hc
        clear zY
        go_wp2_with (fail)
        go_roundw
        case rel => exact ⟨k + 1, s2, int_congrP (by omega), by have := HLT.out; omega, H0.out rfl, by rw [show 9 * (k + 1) = 9 * k + 9 by omega]; exact HAT.out⟩
        case measure => simp [intOf]; omega
      · obtain ⟨rfl, hF, hO⟩ := H5.out hc
        have HF5 := hide hF
        have HO5 := hide hO
        have hlt5 := lt_of_heap R1.out
        obtain ⟨⟨d0, d1, d2, d3, d4⟩, ⟨f0, f1, f2, f3, f4⟩, RR, _, BB⟩ := chain5 zY (.int .i64 0) (.int .i64 0) (.int .i64 0) (.int .i64 0) (.int .i64 0)
        have R9 := hide RR
        have A9 := hide (HAT.out.set5 HD.out E5.out hlt5 (.int .i64 0) (.int .i64 0) (.int .i64 0) (.int .i64 0) (.int .i64 0))
        clear RR BB zY hF hO hc hlt5
        go_wp2_with (fail)
        (try simp only [Exit.inBlock, Exit.then])
        refine bodyPost_ret (results_row_tmp rfl _ _ w.heap.size _ _ _ _ rfl R9.out Try.underlying37 rfl (by kernel_rfl)) rfl ?_
        obtain ⟨h1, L9, h2, h3, h4⟩ := A9.out
        exact ⟨5, Or.inr ⟨rfl, rfl⟩, s2, HF5.out, HO5.out, h1, L9, h2, h3, by have := HLT.out; omega⟩

    · obtain rfl : k = 4 := by omega
      have kI : ¬ ((4 : Nat) : Int) < 4 := by omega
      obtain ⟨c0, c1, c2, c3, c4⟩ := suBox z2
      have hlt5 := lt_of_heap R1.out
      have HFS := hide hfs
      have hat : Atd W5 b L σ wr s (9 * 4) := ⟨hg, L', hd, hf, hN⟩
      obtain ⟨⟨d0, d1, d2, d3, d4⟩, ⟨f0, f1, f2, f3, f4⟩, RR, _, BB⟩ := chain5 z1 (.int .i64 x) (.int .i64 128) (.int .i64 32768) (.int .i64 32896) (.int .i64 q)
      have R9 := hide RR
      have A9 := hide (hat.set5 HD.out E5.out hlt5 (.int .i64 x) (.int .i64 128) (.int .i64 32768) (.int .i64 32896) (.int .i64 q))
      clear RR BB hat hg hd hf hN hfs nf z1 z2 hlt hlt5 hk
      go_wp2_with (fail)
      (try simp only [Exit.inBlock, Exit.then])
      refine bodyPost_ret (results_row_tmp rfl _ _ w.heap.size _ _ _ _ rfl R9.out Try.underlying37 rfl (by kernel_rfl)) rfl ?_
      exact ⟨0, Or.inl ⟨rfl, by rw [HQ.out]; rfl⟩, s, fmS_all HFS.out, HOKS.out 4 s (Nat.le_refl _) HFS.out, A9.out⟩
end
end Go.Proofs.Ytmljacjbpcgijaa
namespace Go.Proofs.Ytmljacjbpcgijaa
open Go.RowKit Go.Shelf
set_option linter.unusedVariables false

section
variable {w : World} {b : Nat} {L : Lay} {σ : St}
theorem zload_off (h : DevL w b L σ) (ho : σ.off = true) (x n : Int) : Calls Try.prog 26 #[.pointer (some ⟨b, 0, none⟩), .int .i64 x, .int .i64 n] w fun e w' => e = .returned (.tuple #[.slice none 0 0, .int .i64 5]) ∧ Below w.heap.size w w' := by
  have hA1 : Below w.heap.size w (w.alloc (.cells #[.pointer (some ⟨b, 0, none⟩)] 27)) := (Below.refl _ w).alloc (Nat.le_refl _) _
  have hA2 : Below w.heap.size w ((w.alloc (.cells #[.pointer (some ⟨b, 0, none⟩)] 27)).alloc (.cells #[.int .i64 x] 3)) := hA1.alloc (by simp) _
  have ks := pstate_any (h.below hA2)
  rw [ho] at ks
  simp only [if_true] at ks
  have KS := hide ks
  have HA := hide hA2
  have n1 := heap_alloc_new w (.cells #[.pointer (some ⟨b, 0, none⟩)] 27)
  have c1 : ((w.alloc (.cells #[.pointer (some ⟨b, 0, none⟩)] 27)).alloc (.cells #[.int .i64 x] 3)).cell? ⟨w.heap.size, 0, none⟩ = some (.pointer (some ⟨b, 0, none⟩)) := cell8 (row_keep n1 ((Below.refl _ _).alloc (Nat.le_refl _) _)) 0
  clear h ho ks hA1 hA2 n1
  go_enter Try.func26, Try.ntmps26
  go_wp2_with (go_at_call 23; refine (KS.out).mono ?_; rintro e w' ⟨rfl, hw⟩; obtain rfl := hw.symm)
  go_ret2
  exact ⟨rfl, HA.out⟩
set_option maxRecDepth 100000 in
set_option maxHeartbeats 1000000 in
theorem read_off (h : DevL w b L σ) (ho : σ.off = true) : Calls Try.prog 14 #[.pointer (some ⟨b, 0, none⟩)] w fun e w' => e = .returned (.tuple #[.agg noC, .int .i64 5]) ∧ Below w.heap.size w w' := by
  have hA : Below w.heap.size w (w.alloc (.cells #[.int .i64 0, .int .i64 0, .int .i64 0, .int .i64 0, .int .i64 0] 37)) := (Below.refl _ w).alloc (Nat.le_refl _) _
  have KL := hide (zload_off (h.below hA) ho 0 64)
  have HA := hide hA
  unfold noC suC
  clear h ho hA
  go_enter Try.func14, Try.ntmps14
  go_upto_region 3 with (go_at_call 26; refine (KL.out).mono ?_; rintro e W1 ⟨rfl, hB1⟩; have hz1 := row_after hB1; have HB1 := hide hB1; have HZ1 := hide hz1; clear hB1 hz1)
  obtain ⟨⟨d0, d1, d2, d3, d4⟩, ⟨f0, f1, f2, f3, f4⟩, RR, _, BB⟩ := chain5 HZ1.out (.int .i64 0) (.int .i64 0) (.int .i64 0) (.int .i64 0) (.int .i64 0)
  have R9 := hide RR
  have B9 := hide BB
  have BZ := hide (bseq HA.out HB1.out)
  clear RR BB
  go_wp2_with (fail)
  (try simp only [Exit.inBlock, Exit.then])
  refine bodyPost_ret (results_row_tmp rfl _ _ w.heap.size _ _ _ _ rfl R9.out Try.underlying37 rfl (by kernel_rfl)) rfl ?_
  exact ⟨rfl, B9.out _ _ (Nat.le_refl _) BZ.out⟩
set_option maxRecDepth 100000 in
set_option maxHeartbeats 1000000 in
theorem read_no (h : DevL w b L σ) (hok : σ.Ok) (ho : σ.off = false) (hs : ¬ okS ((64 * σ.n : Nat) : Int)) : Calls Try.prog 14 #[.pointer (some ⟨b, 0, none⟩)] w fun e w' => e = .returned (.tuple #[.agg noC, .int .i64 100]) ∧ Below w.heap.size w w' := by
  have hp := hok.pos
  have hmx := hok.max
  obtain ⟨x, hx⟩ : ∃ x : Int, x = ((64 * σ.n : Nat) : Int) := ⟨_, rfl⟩
  rw [← hx] at hs
  have hA : Below w.heap.size w (w.alloc (.cells #[.int .i64 0, .int .i64 0, .int .i64 0, .int .i64 0, .int .i64 0] 37)) := (Below.refl _ w).alloc (Nat.le_refl _) _
  have kl : Calls Try.prog 26 #[.pointer (some ⟨b, 0, none⟩), .int .i64 0, .int .i64 64] (w.alloc (.cells #[.int .i64 0, .int .i64 0, .int .i64 0, .int .i64 0, .int .i64 0] 37)) fun e w' => ∃ R, e = .returned (.tuple #[.slice (some ⟨R, 0, none⟩) 64 64, .int .i64 0]) ∧ Below (w.alloc (.cells #[.int .i64 0, .int .i64 0, .int .i64 0, .int .i64 0, .int .i64 0] 37)).heap.size (w.alloc (.cells #[.int .i64 0, .int .i64 0, .int .i64 0, .int .i64 0, .int .i64 0] 37)) w' := (callsIn_wide.1 (pload_in (at_ := 0) (n := 64) (h.below hA) hok ho (by omega))).mono fun e w' ⟨R, h1, _, _, h4⟩ => ⟨R, h1, h4⟩
  have kz : ∀ W, Below w.heap.size w W → Calls Try.prog 27 #[.pointer (some ⟨b, 0, none⟩)] W fun e w' => e = .returned (.int .i64 x) ∧ w' = W := fun W hB => by
    rw [hx]
    exact psize_any (h.below hB) hok.max
  have kp : ∀ W, Calls Try.prog 10 #[.int .i64 x] W fun r w' => r = .returned (.tuple #[.agg #[.int .i64 0, .int .i64 0, .int .i64 0, .int .i64 0, .int .i64 0], .int .i64 80]) ∧ Below W.heap.size W w' := fun W => plan_no x W (by omega) (by omega) hs
  have KL := hide kl
  have KZ := hide kz
  have KP := hide kp
  have HA := hide hA
  unfold noC suC
  clear kl kz kp hA h hok ho hs hx hp
  go_enter Try.func14, Try.ntmps14
  go_upto_region 5 with (first
    | (go_at_call 26; refine (KL.out).mono ?_; rintro e W1 ⟨R, rfl, hB1⟩; have hz1 := row_after hB1; have HB1 := hide hB1; have HZ1 := hide hz1; have KZ1 := hide (KZ.out W1 (bseq HA.out hB1)); clear hB1 hz1)
    | (go_at_call 27; refine (KZ1.out).mono ?_; rintro e w' ⟨rfl, hw⟩; obtain rfl := hw.symm)
    | (go_at_call 10; refine (KP.out _).mono ?_; rintro e W2 ⟨rfl, hB2⟩; have HB2 := hide hB2; clear hB2))
  have hB3 : Below W2.heap.size W2 (W2.alloc (.cells #[.int .i64 0, .int .i64 0, .int .i64 0, .int .i64 0, .int .i64 0] 37)) := (Below.refl _ _).alloc (Nat.le_refl _) _
  have hz3 := row_keep (row_keep HZ1.out HB2.out) hB3
  have hBw : Below w.heap.size w (W2.alloc (.cells #[.int .i64 0, .int .i64 0, .int .i64 0, .int .i64 0, .int .i64 0] 37)) := bseq (bseq (bseq HA.out HB1.out) HB2.out) hB3
  have HZ3 := hide hz3
  have HBW := hide hBw
  generalize W2.alloc (.cells #[.int .i64 0, .int .i64 0, .int .i64 0, .int .i64 0, .int .i64 0] 37) = W3 at *
  clear hB3 hz3 hBw
  go_quiet (fail)
  have hB4 : Below W3.heap.size W3 (W3.drewN nq) := below_drewN (Below.refl _ _) _
  obtain ⟨⟨d0, d1, d2, d3, d4⟩, ⟨f0, f1, f2, f3, f4⟩, RR, _, BB⟩ := chain5 (row_keep HZ3.out hB4) (.int .i64 0) (.int .i64 0) (.int .i64 0) (.int .i64 0) (.int .i64 0)
  have R9 := hide RR
  have B9 := hide BB
  have BZ := hide (bseq HBW.out hB4)
  clear RR BB hB4
  go_wp2_with (fail)
  (try simp only [Exit.inBlock, Exit.then])
  refine bodyPost_ret (results_row_tmp rfl _ _ w.heap.size _ _ _ _ rfl R9.out Try.underlying37 rfl (by kernel_rfl)) rfl ?_
  exact ⟨rfl, B9.out _ _ (Nat.le_refl _) BZ.out⟩
end
end Go.Proofs.Ytmljacjbpcgijaa
namespace Go.Proofs.Ytmljacjbpcgijaa
open Go.RowKit Go.Shelf
set_option linter.unusedVariables false

/-- What Read tells: a plan, and the error. -/
structure RdI where
  a : Int
  b : Int
  c : Int
  d : Int
  e : Int
  err : Int
open Classical in
noncomputable def rd (σ : St) : RdI :=
  if σ.off = true then ⟨0, 0, 0, 0, 0, 5⟩
  else if okS ((64 * σ.n : Nat) : Int) ∧ σ.bytes.take 64 = sbX ((64 * σ.n : Nat) : Int) then ⟨((64 * σ.n : Nat) : Int), 128, 32768, 32896, (((64 * σ.n : Nat) : Int) - 32896) / 256, 0⟩
  else ⟨0, 0, 0, 0, 0, 100⟩
theorem rd_err (σ : St) : (rd σ).err = 0 ∨ (rd σ).err = 5 ∨ (rd σ).err = 100 := by
  unfold rd
  split
  · exact .inr (.inl rfl)
  · split
    · exact .inl rfl
    · exact .inr (.inr rfl)
theorem rd_on {σ : St} (h : (rd σ).err = 0) : σ.off = false ∧ 36992 ≤ 64 * σ.n := by
  unfold rd at h
  split at h
  · cases h
  · rename_i h1
    split at h
    · rename_i h2
      exact ⟨by simpa using h1, by have := h2.1.1; omega⟩
    · cases h
section
variable {w : World} {b : Nat} {L : Lay} {σ : St}
theorem read_all (h : DevL w b L σ) (hok : σ.Ok) : Calls Try.prog 14 #[.pointer (some ⟨b, 0, none⟩)] w fun e w' => e = .returned (.tuple #[.agg (suC (rd σ).a (rd σ).b (rd σ).c (rd σ).d (rd σ).e), .int .i64 (rd σ).err]) ∧ Below w.heap.size w w' := by
  unfold rd
  by_cases ho : σ.off = true
  · rw [if_pos ho]
    exact read_off h ho
  · have ho' : σ.off = false := by simpa using ho
    rw [if_neg ho]
    by_cases hs : okS ((64 * σ.n : Nat) : Int)
    · by_cases he : σ.bytes.take 64 = sbX ((64 * σ.n : Nat) : Int)
      · rw [if_pos ⟨hs, he⟩]
        have k := read_any h hok ho' hs
        rw [if_pos he] at k
        exact k
      · rw [if_neg (fun h => he h.2)]
        have k := read_any h hok ho' hs
        rw [if_neg he] at k
        exact k
    · rw [if_neg (fun h => hs h.1)]
      exact read_no h hok ho' hs
/-- The root's number. -/
noncomputable def rtV (σ : St) : Nat := if (rd σ).err = 0 then leV ((σ.bytes.drop 64).take 8) else 0
set_option maxHeartbeats 1000000 in
theorem root_all (h : DevL w b L σ) (hok : σ.Ok) : Calls Try.prog 15 #[.pointer (some ⟨b, 0, none⟩)] w fun e w' => e = .returned (.tuple #[.int .u64 ((rtV σ : Nat) : Int), .int .i64 (rd σ).err]) ∧ Below w.heap.size w w' := by
  have kr := read_all h hok
  unfold suC at kr
  by_cases h0 : (rd σ).err = 0
  · obtain ⟨hon, hsz⟩ := rd_on h0
    have kw : ∀ W, Below w.heap.size w W → Calls Try.prog 33 #[.pointer (some ⟨b, 0, none⟩), .int .i64 64] W fun e w' => e = .returned (.tuple #[.int .u64 ((rtV σ : Nat) : Int), .int .i64 0]) ∧ Below W.heap.size W w' := fun W hB => by
      unfold rtV
      rw [if_pos h0]
      exact qword (w := W) (p := some ⟨b, 0, none⟩) 64 (by omega) (by omega) ((σ.bytes.drop 64).take 8) (by rw [List.length_take, List.length_drop, hok.len]; omega) (fun y hy => hok.byte y (List.mem_of_mem_drop (List.mem_of_mem_take hy))) (fun X hX => (callsIn_wide.1 (pload_in (at_ := 64) (n := 8) ((h.below hB).below hX) hok hon (by omega))).mono fun e w' ⟨R, q1, _, q3, q4⟩ => ⟨R, q1, q3, q4⟩)
    rw [h0] at kr ⊢
    generalize rtV σ = v at *
    generalize (rd σ).a = a0 at *
    generalize (rd σ).b = a1 at *
    generalize (rd σ).c = a2 at *
    generalize (rd σ).d = a3 at *
    generalize (rd σ).e = a4 at *
    have KR := hide kr
    have KW := hide kw
    clear kr kw h hok h0 hon hsz
    go_enter Try.func15, Try.ntmps15
    go_upto_region 4 with (go_at_call 14; refine (KR.out).mono ?_; rintro e W1 ⟨rfl, hB1⟩; have HB1 := hide hB1; clear hB1)
    have hB2 : Below w.heap.size w (W1.alloc (.cells #[.int .i64 a0, .int .i64 a1, .int .i64 a2, .int .i64 a3, .int .i64 a4] 37)) := HB1.out.alloc HB1.out.size _
    have KW2 := hide (KW.out _ hB2)
    have HB2 := hide hB2
    clear hB2
    go_wp2_with (go_at_call 33; refine (KW2.out).mono ?_; rintro e W3 ⟨rfl, hB3⟩; have HB3 := hide hB3; clear hB3)
    go_ret2
    exact ⟨rfl, bseq HB2.out HB3.out⟩
  · have hv : rtV σ = 0 := by unfold rtV; rw [if_neg h0]
    rw [hv]
    have hne : ((rd σ).err == 0) = false := by simpa using h0
    have hb := rd_err σ
    generalize (rd σ).a = a0 at *
    generalize (rd σ).b = a1 at *
    generalize (rd σ).c = a2 at *
    generalize (rd σ).d = a3 at *
    generalize (rd σ).e = a4 at *
    generalize (rd σ).err = er at *
    have KR := hide kr
    clear kr h hok hv hb
    go_enter Try.func15, Try.ntmps15
    go_wp2_with (go_at_call 14; refine (KR.out).mono ?_; rintro e W1 ⟨rfl, hB1⟩; have HB1 := hide hB1; clear hB1)
    go_ret2
    exact ⟨rfl, HB1.out.alloc HB1.out.size _⟩
end
end Go.Proofs.Ytmljacjbpcgijaa
namespace Go.Proofs.Ytmljacjbpcgijaa
open Go.RowKit Go.Shelf
set_option linter.unusedVariables false

def fitS (x : Int) : Prop := 64 ≤ x ∧ x ≤ 4194304 ∧ x % 64 = 0
theorem pnew_no (x : Int) (w : World) (hx : -9223372036854775808 ≤ x) (hx' : x ≤ 9223372036854775807) (h : ¬ fitS x) : Calls Try.prog 20 #[.int .i64 x] w fun e w' => e = .returned (.tuple #[.pointer none, .int .i64 80]) ∧ w' = w := by
  by_cases h1 : x < 64
  · clear h
    go_enter Try.func20, Try.ntmps20
    go_wp2
    go_ret2
    exact ⟨rfl, rfl⟩
  · have htm : x.tmod 64 = x % 64 := Int.tmod_eq_emod_of_nonneg (by omega)
    by_cases h2 : 4194304 < x
    · clear h
      go_enter Try.func20, Try.ntmps20
      go_wp2
      go_ret2
      exact ⟨rfl, rfl⟩
    · have h3 : ¬ x % 64 = 0 := fun e => h ⟨by omega, by omega, e⟩
      have h3b : (x % 64 == 0) = false := by simpa using h3
      clear h
      go_enter Try.func20, Try.ntmps20
      go_wp2
      go_ret2
      exact ⟨rfl, rfl⟩
theorem pfrom_no (a : Option Addr) (N cap : Nat) (w : World) (hN : N ≤ 140737488355328) (h : ¬ fitS (N : Int)) : Calls Try.prog 5 #[.slice a N cap] w fun e w' => e = .returned (.tuple #[.pointer none, .int .i64 80]) ∧ w' = w := by
  have KN := hide (pnew_no (N : Int) w (by omega) (by omega) h)
  clear h
  go_enter Try.func5, Try.ntmps5
  go_wp2_with (go_at_call 20; refine (KN.out).mono ?_; rintro e w' ⟨rfl, hw⟩; obtain rfl := hw.symm)
  go_ret2
  exact ⟨rfl, rfl⟩
end Go.Proofs.Ytmljacjbpcgijaa
namespace Go.Proofs.Ytmljacjbpcgijaa
open Go.RowKit
set_option linter.unusedVariables false

theorem Try.info22 : (Try.prog.info? 22).map (fun i => (i.zero, i.size, i.bytes)) = some (some (.slice none 0 0), 1, 24) := by kernel_rfl

theorem ownsRow_below {W W' : World} {base : Nat} {e : TypeId} {size : Nat} {v : Value} {k : Nat} {xs : List Value} (h : W.ownsRow base e size v k xs) (hb : Below W.heap.size W W') : W'.ownsRow base e size v k xs := by
  refine ⟨h.1, ?_⟩
  rcases h.2 with h2 | ⟨g, cap, cur, hv, hg, hh, r⟩
  · exact .inl h2
  · exact .inr ⟨g, cap, cur, hv, hg, (hb.block g (Array.getElem?_eq_some_iff.1 hh).1).trans hh, r⟩

/-- Bytes that lie ahead of the call's own memory, or in a block of bytes. -/
def Piece (W : World) (base : Nat) (a : Option Addr) (bs : List Nat) : Prop :=
  bs = [] ∨ ∃ b off, a = some ⟨b, off, none⟩ ∧ b < W.heap.size ∧ (b < base ∨ ∃ cur fr, W.heap[b]? = some (.cells cur 5 fr)) ∧ Seg W b off bs

theorem Piece.sl {W : World} {base : Nat} {a : Option Addr} {bs : List Nat} (h : Piece W base a bs) : Sl W a bs := by
  rcases h with h | ⟨b, off, ha, hl, _, hs⟩
  · exact .inl h
  · exact .inr ⟨b, off, ha, hl, hs⟩
theorem Piece.of_block {W W' : World} {base : Nat} {a : Option Addr} {bs : List Nat} (h : Piece W base a bs) (hs : W.heap.size ≤ W'.heap.size) (hk : ∀ b, b < W.heap.size → (b < base ∨ ∃ cur fr, W.heap[b]? = some (.cells cur 5 fr)) → W'.heap[b]? = W.heap[b]?) : Piece W' base a bs := by
  rcases h with h | ⟨b, off, ha, hl, ht, hg⟩
  · exact .inl h
  · have e := hk b hl ht
    refine .inr ⟨b, off, ha, Nat.lt_of_lt_of_le hl hs, ?_, fun i x hx => ⟨(World.cell?_of_block (w := W) (a := ⟨b, off + i, none⟩) e).trans (hg i x hx).1, (hg i x hx).2⟩⟩
    rcases ht with ht | ⟨cur, fr, ht⟩
    · exact .inl ht
    · exact .inr ⟨cur, fr, e.trans ht⟩
theorem Piece.below {W W' : World} {base : Nat} {a : Option Addr} {bs : List Nat} (h : Piece W base a bs) (hb : Below W.heap.size W W') : Piece W' base a bs :=
  h.of_block hb.size fun b hl _ => hb.block b hl
theorem Piece.grown {W W' : World} {base : Nat} {a : Option Addr} {bs : List Nat} {v : Value} {k : Nat} {xs : List Value} (h : Piece W base a bs) (hown : W.ownsRow base 22 1 v k xs) (hg : W.grownBy W' v.ownBlock) : Piece W' base a bs := by
  refine h.of_block hg.size fun b hl ht => hg.block b hl fun e => ?_
  rcases hown.2 with ⟨rfl, _⟩ | ⟨g, cap, cur, rfl, hb, hh, _⟩
  · simp [Value.ownBlock] at e
  · obtain rfl : b = g := by simpa [Value.ownBlock] using e
    rcases ht with ht | ⟨c2, fr, ht⟩
    · omega
    · rw [hh] at ht; simp at ht
theorem OwnB.piece {W : World} {g : Nat} {bs : List Nat} (h : OwnB W g bs) (base : Nat) (hx : ∀ x ∈ bs, x < 256) : Piece W base (some ⟨g, 0, none⟩) bs :=
  .inr ⟨g, 0, rfl, h.lt, .inr ⟨_, _, h⟩, fun i x hi => ⟨by rw [Nat.zero_add]; exact h.cell i x hi, hx x (List.mem_of_getElem? hi)⟩⟩

/-- Cells that hold slices of these bytes. -/
def Ties (W : World) (base : Nat) (cs : List Value) (rs : List (List Nat)) : Prop :=
  cs.length = rs.length ∧ ∀ (i : Nat) (r : List Nat), rs[i]? = some r → ∃ ai ci, cs[i]? = some (.slice ai r.length ci) ∧ Piece W base ai r ∧ r.length ≤ maxLen

theorem Ties.nil (W : World) (base : Nat) : Ties W base [] [] := ⟨rfl, fun i r h => by simp at h⟩
theorem Ties.below {W W' : World} {base : Nat} {cs : List Value} {rs : List (List Nat)} (h : Ties W base cs rs) (hb : Below W.heap.size W W') : Ties W' base cs rs :=
  ⟨h.1, fun i r hr => by obtain ⟨ai, ci, h1, h2, h3⟩ := h.2 i r hr; exact ⟨ai, ci, h1, h2.below hb, h3⟩⟩
theorem Ties.grown {W W' : World} {base : Nat} {cs : List Value} {rs : List (List Nat)} {v : Value} {k : Nat} {xs : List Value} (h : Ties W base cs rs) (hown : W.ownsRow base 22 1 v k xs) (hg : W.grownBy W' v.ownBlock) : Ties W' base cs rs :=
  ⟨h.1, fun i r hr => by obtain ⟨ai, ci, h1, h2, h3⟩ := h.2 i r hr; exact ⟨ai, ci, h1, h2.grown hown hg, h3⟩⟩
theorem Ties.snoc {W : World} {base : Nat} {cs : List Value} {rs : List (List Nat)} (h : Ties W base cs rs) {a : Option Addr} {r : List Nat} (c : Nat) (hp : Piece W base a r) (hl : r.length ≤ maxLen) : Ties W base (cs ++ [.slice a r.length c]) (rs ++ [r]) := by
  refine ⟨by simp [h.1], fun i r' hr => ?_⟩
  by_cases hi : i < rs.length
  · rw [List.getElem?_append_left hi] at hr
    rw [List.getElem?_append_left (by rw [h.1]; exact hi)]
    exact h.2 i r' hr
  · rw [List.getElem?_append_right (by omega)] at hr
    rw [List.getElem?_append_right (by rw [h.1]; omega), h.1]
    have h0 : i - rs.length = 0 := by
      have := (List.getElem?_eq_some_iff.1 hr).1
      simp at this
      omega
    rw [h0] at hr ⊢
    simp at hr
    subst hr
    exact ⟨a, c, by simp, hp, hl⟩
theorem slr_of_owns {W : World} {base : Nat} {v : Value} {cs : List Value} {rs : List (List Nat)} (h : W.ownsRow base 22 1 v cs.length cs) (ht : Ties W base cs rs) : ∃ a cap, v = .slice a rs.length cap ∧ SlR W a rs := by
  rcases h.2 with ⟨rfl, h0⟩ | ⟨g, cap, cur, rfl, _, hg, hn, _, hs, hc⟩
  · rw [ht.1] at h0
    exact ⟨none, 0, by rw [h0], .inl (List.eq_nil_of_length_eq_zero h0)⟩
  · refine ⟨_, cap, by rw [ht.1], .inr ⟨g, 0, rfl, (Array.getElem?_eq_some_iff.1 hg).1, fun i r hr => ?_⟩⟩
    obtain ⟨ai, ci, h1, h2, h3⟩ := ht.2 i r hr
    refine ⟨ai, ci, ?_, h2.sl, h3⟩
    have hi : i < cs.length := (List.getElem?_eq_some_iff.1 h1).1
    rw [← hc, List.getElem?_take, if_pos (by omega)] at h1
    simp only [Nat.zero_add, World.cell?, hg]
    simpa using h1

end Go.Proofs.Ytmljacjbpcgijaa
