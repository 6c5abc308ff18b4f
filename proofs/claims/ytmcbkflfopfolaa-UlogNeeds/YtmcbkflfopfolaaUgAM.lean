/- Package ulog: a log as a block, and what a log says of itself. -/
import Derived.Test.YtmcbkflfopfolaaUgBM
import Derived.Test.YtmcbkflfopfolaaPMap
import Derived.Test.YtmcbkflfopfolaaBase
import Derived.Laws.BitsAllLaws
import Derived.Test.YtmcbkflfopfolaaEq
import Derived.Test.YtmcbkflfopfolaaPut
import Derived.Maps.AppendAt
import Derived.Laws.AppendOwnNone
import Derived.Test.YtmcbkflfopfolaaPFnGM
import Derived.Test.YtmcbkflfopfolaaPDrp
import Derived.Deep.Cut
import Derived.Deep.RegionWith
import Derived.BigRegion
import Derived.Deep.QuietTactic
import Derived.BigQuiet
namespace Go.Proofs.Ytmcbkflfopfolaa
open Go.RowKit Go.Shelf
set_option linter.unusedVariables false

theorem bytes_of_lines {a b : List Nat} {n : Nat} (ha : a.length = 64 * n) (hb : b.length = 64 * n) (h : ∀ j, j < n → (a.drop (64 * j)).take 64 = (b.drop (64 * j)).take 64) : a = b := by
  apply List.ext_getElem?
  intro i
  by_cases hi : i < 64 * n
  · have h1 := h (i / 64) (by omega)
    have h2 : ((a.drop (64 * (i / 64))).take 64)[i % 64]? = ((b.drop (64 * (i / 64))).take 64)[i % 64]? := by rw [h1]
    rw [List.getElem?_take, List.getElem?_take, if_pos (by omega), if_pos (by omega), List.getElem?_drop, List.getElem?_drop] at h2
    rwa [show 64 * (i / 64) + i % 64 = i by omega] at h2
  · rw [List.getElem?_eq_none (by omega), List.getElem?_eq_none (by omega)]
theorem words1 {at_ : Nat} (hat : at_ % 8 = 0) (h : at_ + 8 ≤ 4194304) : wordsOf at_ 8 = [at_ / 8] := by
  rw [wordsOf_eq at_ 8 h, if_neg (by omega)]
  have : (at_ + 8 - 1) / 8 - at_ / 8 + 1 = 1 := by omega
  rw [this]
  simp
theorem lines1 {at_ : Nat} (hat : at_ % 8 = 0) (h : at_ + 8 ≤ 4194304) : linesOf at_ 8 = [at_ / 64] := by
  unfold linesOf unitsV
  rw [if_neg (by omega)]
  unfold upto
  have e1 : (((at_ : Int) + (8 : Nat) - 1) / 64 - (at_ : Int) / 64 + 1).toNat = 1 := by omega
  rw [e1]
  simp
  omega
theorem leB_len (v : Nat) : (leB 8 v).length = 8 := by simp [leB]
section
variable {σ : St} {v at_ : Nat}
theorem wordA_bytes (hok : σ.Ok) (hat : at_ % 8 = 0) (hlen : at_ + 8 ≤ 64 * σ.n) : (wordA (leB 8 v) at_ σ (at_ / 8)).bytes = splice σ.bytes at_ (leB 8 v) := by
  have h := wordDo_bytes (bs := leB 8 v) (at_ := at_) (no := at_ / 8) hok.len (by omega) at_ (by omega) (by omega)
  show (wordDo (leB 8 v) at_ σ (at_ / 8)).bytes = _
  rw [h, hat, Nat.sub_self, List.drop_zero, List.take_of_length_le (by rw [leB_len]; omega)]
theorem wordA_past (i : Nat) : (wordA (leB 8 v) at_ σ (at_ / 8)).past i = if i = at_ / 64 then σ.past (at_ / 64) ++ [σ.line (at_ / 64)] else σ.past i := by
  have e : at_ / 8 / 8 = at_ / 64 := by omega
  show (if i = at_ / 8 / 8 then σ.past (at_ / 8 / 8) ++ [σ.line (at_ / 8 / 8)] else σ.past i) = _
  rw [e]
/-- Other lines are as they were. -/
theorem other_line {l p : List Nat} {n j : Nat} (hl : l.length = 64 * n) (hp : at_ % 64 + p.length ≤ 64) (hat : at_ / 64 < n) (hj : j ≠ at_ / 64) : ((splice l at_ p).drop (64 * j)).take 64 = (l.drop (64 * j)).take 64 := by
  apply List.ext_getElem?
  intro i
  rw [List.getElem?_take, List.getElem?_take]
  by_cases hi : i < 64
  · rw [if_pos hi, if_pos hi, List.getElem?_drop, List.getElem?_drop, splice_get l p at_ (64 * j + i) (by omega)]
    by_cases h1 : 64 * j + i < at_
    · rw [if_pos h1]
    · rw [if_neg h1, if_neg (by omega)]
  · rw [if_neg hi, if_neg hi]
theorem lost_one {t s : St} {kp : List Nat} (hl : σ.bytes.length = 64 * σ.n) (hat : at_ % 8 = 0) (hlen : at_ + 8 ≤ 64 * σ.n) (htn : t.n = σ.n) (htb : t.bytes = splice σ.bytes at_ (leB 8 v)) (htp : ∀ i, t.past i = if i = at_ / 64 then [σ.line (at_ / 64)] else []) (h : Lost t kp s) : s.bytes = splice σ.bytes at_ (leB 8 v) ∨ s.bytes = σ.bytes := by
  have hlw : (splice σ.bytes at_ (leB 8 v)).length = 64 * σ.n := by rw [length_splice _ _ _ (by rw [leB_len]; omega), hl]
  have hsl : s.bytes.length = 64 * σ.n := by rw [h.len, htn]
  have hlines : ∀ j, j < σ.n → s.line j = lost t kp j := fun j hj => h.lines j (by rw [htn]; exact hj)
  have hne : ∀ j, j ≠ at_ / 64 → lost t kp j = t.line j := fun j hj => by
    unfold lost
    rw [htp j, if_neg hj]
    simp
  have htl : ∀ j, t.line j = ((splice σ.bytes at_ (leB 8 v)).drop (64 * j)).take 64 := fun j => by unfold St.line; rw [htb]
  by_cases hk : lost t kp (at_ / 64) = t.line (at_ / 64)
  · left
    refine bytes_of_lines hsl hlw (fun j hj => ?_)
    have h1 : s.line j = t.line j := by
      rw [hlines j hj]
      by_cases e : j = at_ / 64
      · rw [e]; exact hk
      · exact hne j e
    rw [← htl j]
    exact h1
  · right
    have hk2 : lost t kp (at_ / 64) = σ.line (at_ / 64) := by
      unfold lost at hk ⊢
      rw [htp, if_pos rfl] at hk ⊢
      cases hq : lostK t kp (at_ / 64) with
      | zero => rfl
      | succ q => rw [hq] at hk; simp at hk
    refine bytes_of_lines hsl hl (fun j hj => ?_)
    have h1 : s.line j = (σ.bytes.drop (64 * j)).take 64 := by
      rw [hlines j hj]
      by_cases e : j = at_ / 64
      · rw [e]; exact hk2
      · rw [hne j e, htl j]
        exact other_line hl (by rw [leB_len]; omega) (by omega) e
    exact h1
theorem lost_none {t s : St} {kp : List Nat} (hl : t.bytes.length = 64 * t.n) (htp : ∀ i, t.past i = []) (h : Lost t kp s) : s.bytes = t.bytes := by
  refine bytes_of_lines (n := t.n) h.len hl (fun j hj => ?_)
  have h1 : s.line j = t.line j := by
    rw [h.lines j hj]
    unfold lost
    rw [htp j]
    simp
  exact h1
/-- What Publish leaves of a device whose lines had one content each, where a loss waits behind n operations. -/
theorem pub_whole {s : St} {c : Int} {n : Nat} {kp : List Nat} (hok : σ.Ok) (hp : ∀ i, σ.past i = []) (hc0 : σ.cnt = 0) (ho0 : σ.ops = 0) (hoff : σ.off = false) (ha : σ.arms = [(n, kp)]) (h1 : 1 ≤ n) (h4 : n ≤ 4) (hat : at_ % 8 = 0) (hlen : at_ + 8 ≤ 64 * σ.n) (hv : v < 18446744073709551616) (h : PubD v at_ σ c s) :
    s.Ok ∧ s.n = σ.n ∧ ((n ≤ 3 ∧ c = 5 ∧ s.off = true ∧ (s.bytes = splice σ.bytes at_ (leB 8 v) ∨ n < 3 ∧ s.bytes = σ.bytes)) ∨ (n = 4 ∧ c = 0 ∧ s.off = false ∧ s.bytes = splice σ.bytes at_ (leB 8 v) ∧ ∀ i, s.past i = [])) := by
  have hm := hok.max
  have hl2 : at_ + 8 ≤ 4194304 := by omega
  unfold PubD at h
  rw [words1 hat hl2, lines1 hat hl2] at h
  have hlw : (splice σ.bytes at_ (leB 8 v)).length = 64 * σ.n := by rw [length_splice _ _ _ (by rw [leB_len, hok.len]; omega), hok.len]
  have hb1 := wordA_bytes (σ := σ) (v := v) hok hat hlen
  have hp1 : ∀ i, (wordA (leB 8 v) at_ σ (at_ / 8)).past i = if i = at_ / 64 then [σ.line (at_ / 64)] else [] := fun i => by
    rw [wordA_past]
    by_cases e : i = at_ / 64
    · rw [if_pos e, if_pos e, hp]; rfl
    · rw [if_neg e, if_neg e, hp]
  obtain ⟨q1, q2⟩ := word_part (at_ := at_) (no := at_ / 8) (leB_lt 8 v) hok (by omega)
  have hk1 : St.Ok { wordA (leB 8 v) at_ σ (at_ / 8) with ops := σ.ops + 1 } := put_ok hok (by omega) q1 q2 (by omega)
  have hs1e : writeG (leB 8 v) at_ σ [at_ / 8] = tick (wordA (leB 8 v) at_ σ (at_ / 8)) := rfl
  rcases h with ⟨rfl, hw⟩ | ⟨s1, hw, h⟩
  · rcases hw with ⟨e, _⟩ | ⟨_, pre, no, hpre, hop⟩
    · cases e
    · obtain ⟨rfl, rfl⟩ : pre = [] ∧ no = at_ / 8 := by
        have hl := hpre.length_le
        simp at hl
        subst hl
        obtain ⟨t, ht⟩ := hpre
        simp at ht
        exact ⟨rfl, ht.1⟩
      have hop : Opd (wordA (leB 8 v) at_ σ (at_ / 8)) 5 s := hop
      rcases hop with ⟨e, _⟩ | ⟨af, kp', e, ⟨_, e2, _⟩ | ⟨e1, _, hL⟩⟩
      · have e : σ.arms = [] := e
        rw [ha] at e; cases e
      · cases e2
      · have e : σ.arms = [(af, kp')] := e
        rw [ha] at e
        cases e
        have e1 : n ≤ σ.cnt + 1 := e1
        rw [hc0] at e1
        have hokL : St.Ok { wordA (leB 8 v) at_ σ (at_ / 8) with ops := σ.ops + 1, arms := [], cnt := 0 } := ⟨hk1.pos, hk1.max, hk1.len, hk1.byte, hk1.out, hk1.clen, hk1.cbyte, hk1.few, hk1.flp, hk1.opsm⟩
        refine ⟨Lost.ok hokL hL, hL.n, .inl ⟨by omega, rfl, hL.off, ?_⟩⟩
        rcases lost_one (t := { wordA (leB 8 v) at_ σ (at_ / 8) with ops := σ.ops + 1, arms := [], cnt := 0 }) hok.len hat hlen rfl hb1 hp1 hL with r | r
        · exact .inl r
        · exact .inr ⟨by omega, r⟩
  · obtain ⟨es1, hf1⟩ := hw.zero
    rw [hs1e] at es1
    have hn1 := hf1 n kp ha (by simp)
    rw [hc0] at hn1
    simp only [List.length_singleton] at hn1
    subst es1
    have hk1' := tick_ok hk1
    have ha1 : (tick (wordA (leB 8 v) at_ σ (at_ / 8))).arms = [(n, kp)] := ha
    have hc1 : (tick (wordA (leB 8 v) at_ σ (at_ / 8))).cnt = 1 := by
      show (if σ.arms = [] then σ.cnt else σ.cnt + 1) = 1
      rw [if_neg (by rw [ha]; simp), hc0]
    have ho1 : (tick (wordA (leB 8 v) at_ σ (at_ / 8))).ops = 1 := by show σ.ops + 1 = 1; rw [ho0]
    have hn1' : (tick (wordA (leB 8 v) at_ σ (at_ / 8))).n = σ.n := rfl
    have hb1' : (tick (wordA (leB 8 v) at_ σ (at_ / 8))).bytes = splice σ.bytes at_ (leB 8 v) := hb1
    have hp1' : ∀ i, (tick (wordA (leB 8 v) at_ σ (at_ / 8))).past i = if i = at_ / 64 then [σ.line (at_ / 64)] else [] := hp1
    have hof1 : (tick (wordA (leB 8 v) at_ σ (at_ / 8))).off = false := hoff
    generalize tick (wordA (leB 8 v) at_ σ (at_ / 8)) = s1 at *
    have hk2 : St.Ok { flA s1 (at_ / 64) with ops := s1.ops + 1 } := flush_ok hk1' (at_ / 64) (by omega)
    rcases h with ⟨rfl, hfl⟩ | ⟨s2, hfl, hop⟩
    · rcases hfl with ⟨e, _⟩ | ⟨_, pre, no, hpre, hop⟩
      · cases e
      · obtain ⟨rfl, rfl⟩ : pre = [] ∧ no = at_ / 64 := by
          have hl := hpre.length_le
          simp at hl
          subst hl
          obtain ⟨t, ht⟩ := hpre
          simp at ht
          exact ⟨rfl, ht.1⟩
        have hop : Opd (flA s1 (at_ / 64)) 5 s := hop
        rcases hop with ⟨e, _⟩ | ⟨af, kp', e, ⟨_, e2, _⟩ | ⟨e1, _, hL⟩⟩
        · have e : s1.arms = [] := e
          rw [ha1] at e; cases e
        · cases e2
        · have e : s1.arms = [(af, kp')] := e
          rw [ha1] at e
          cases e
          have e1 : n ≤ s1.cnt + 1 := e1
          rw [hc1] at e1
          have hokL : St.Ok { flA s1 (at_ / 64) with ops := s1.ops + 1, arms := [], cnt := 0 } := ⟨hk2.pos, hk2.max, hk2.len, hk2.byte, hk2.out, hk2.clen, hk2.cbyte, hk2.few, hk2.flp, hk2.opsm⟩
          refine ⟨Lost.ok hokL hL, hL.n.trans hn1', .inl ⟨by omega, rfl, hL.off, ?_⟩⟩
          rcases lost_one (t := { flA s1 (at_ / 64) with ops := s1.ops + 1, arms := [], cnt := 0 }) hok.len hat hlen hn1' hb1' hp1' hL with r | r
          · exact .inl r
          · exact .inr ⟨by omega, r⟩
    · obtain ⟨es2, hf2⟩ := hfl.zero
      have hn2 := hf2 n kp ha1 (by simp)
      rw [hc1] at hn2
      simp only [List.length_singleton] at hn2
      have es2 : s2 = tick (flA s1 (at_ / 64)) := es2
      have hp2 : (fnA s2).past = fun _ => [] := by
        funext i
        rw [es2]
        show fenP (tick (flA s1 (at_ / 64))) false i = []
        have hfi : (tick (flA s1 (at_ / 64))).fl i = if i = at_ / 64 ∧ s1.past (at_ / 64) ≠ [] then some (s1.past (at_ / 64)).length else s1.fl i := rfl
        have hpi : (tick (flA s1 (at_ / 64))).past i = s1.past i := rfl
        unfold fenP
        rw [hfi, hpi]
        by_cases e : i = at_ / 64
        · rw [if_pos ⟨e, by rw [hp1']; simp⟩, e]
          simp
        · rw [if_neg (fun h => e h.1), hp1' i, if_neg e]
          cases s1.fl i <;> simp
      have hb2 : (fnA s2).bytes = splice σ.bytes at_ (leB 8 v) := by rw [es2]; exact hb1'
      have ha2 : s2.arms = [(n, kp)] := by rw [es2]; exact ha1
      have hc2 : s2.cnt = 2 := by
        rw [es2]
        show (if s1.arms = [] then s1.cnt else s1.cnt + 1) = 2
        rw [if_neg (by rw [ha1]; simp), hc1]
      have hk2' : s2.Ok := by rw [es2]; exact tick_ok hk2
      have hs2n : s2.n = σ.n := by rw [es2]; exact hn1'
      have hs2o : s2.off = false := by rw [es2]; exact hof1
      have ho2 : s2.ops = 2 := by rw [es2]; show s1.ops + 1 = 2; rw [ho1]
      have hk3 : St.Ok { fnA s2 with ops := s2.ops + 1 } := fence_ok (σ := s2) hk2' (by omega)
      rcases hop with ⟨e, _⟩ | ⟨af, kp', e, ⟨e1, e2, e3⟩ | ⟨e1, e2, hL⟩⟩
      · have e : s2.arms = [] := e
        rw [ha2] at e; cases e
      · have e : s2.arms = [(af, kp')] := e
        rw [ha2] at e
        cases e
        have e1 : s2.cnt + 1 < n := e1
        rw [hc2] at e1
        subst e3
        refine ⟨⟨hk3.pos, hk3.max, hk3.len, hk3.byte, hk3.out, hk3.clen, hk3.cbyte, hk3.few, hk3.flp, hk3.opsm⟩, hs2n, .inr ⟨by omega, e2, hs2o, hb2, fun i => ?_⟩⟩
        show (fnA s2).past i = []
        rw [hp2]
      · have e : s2.arms = [(af, kp')] := e
        rw [ha2] at e
        cases e
        have e1 : n ≤ s2.cnt + 1 := e1
        rw [hc2] at e1
        have hokL : St.Ok { fnA s2 with ops := s2.ops + 1, arms := [], cnt := 0 } := ⟨hk3.pos, hk3.max, hk3.len, hk3.byte, hk3.out, hk3.clen, hk3.cbyte, hk3.few, hk3.flp, hk3.opsm⟩
        refine ⟨Lost.ok hokL hL, hL.n.trans hs2n, .inl ⟨by omega, e2, hL.off, .inl ?_⟩⟩
        refine (lost_none (t := { fnA s2 with ops := s2.ops + 1, arms := [], cnt := 0 }) hokL.len (fun i => ?_) hL).trans hb2
        show (fnA s2).past i = []
        rw [hp2]
end
end Go.Proofs.Ytmcbkflfopfolaa
namespace Go.Proofs.Ytmcbkflfopfolaa
open Go.RowKit Go.Shelf
set_option linter.unusedVariables false

section
variable {w W : World} {b : Nat} {L : Lay}
theorem q_new : Calls Try.prog 12 #[.int .i64 128] w fun e W => ∃ b L, e = .returned (.tuple #[.pointer (some ⟨b, 0, none⟩), .int .i64 0]) ∧ AtQ w W b L (newD 2) := by
  refine (pnew_any w 2 (by omega) (by omega)).mono ?_
  rintro e W ⟨b, L, rfl, h1, h2, h3, h4⟩
  exact ⟨b, L, rfl, h1, newD_ok (by omega) (by omega), by rw [h4]; exact Nat.zero_le _, h2, h3⟩
theorem q_pub (h : AtQ w W b L q1) : Calls Try.prog 67 #[.pointer (some ⟨b, 0, none⟩), .int .i64 8, .int .u64 258] W fun e W' => e = .returned (.int .i64 0) ∧ ∃ L', AtQ w W' b L' q2 := by
  obtain ⟨g1, g2, g3, g4, g5⟩ := q1_like
  obtain ⟨h1, h2, h3, _⟩ := q2_like
  refine (qpub_any 258 8 h.dev h.ok g5 h.num g4 (by rw [g3]; omega) (by omega) (by omega) (by rw [g2]; omega)).mono ?_
  rintro e W' ⟨rfl, ha⟩
  exact ⟨rfl, h.atd ha h1 (by rw [wQ8, lQ8, h3, g3]; show 5 + (1 + 1) ≤ 8; omega)⟩
theorem q_ld {σ' : St} (h : AtQ w W b L { σ' with off := false }) (hl : Lost q2 [] σ') (at_ n : Nat) (hn : at_ + n ≤ 64) (W2 : World) (hB : Below W.heap.size W W2) : Calls Try.prog 38 #[.pointer (some ⟨b, 0, none⟩), .int .i64 (at_ : Int), .int .i64 (n : Int)] W2 fun e W' => ∃ R, e = .returned (.tuple #[.slice (some ⟨R, 0, none⟩) n n, .int .i64 0]) ∧ OwnB W' R ((lineQ.drop at_).take n) ∧ Below W2.heap.size W2 W' := by
  have hn2 : σ'.n = 2 := by rw [hl.n]; exact q2_like.2.1
  refine (callsIn_wide.1 (pload_in (at_ := at_) (n := n) (h.dev.below hB) h.ok rfl (by show at_ + n ≤ 64 * σ'.n; rw [hn2]; omega))).mono ?_
  rintro e W' ⟨R, rfl, h1, h2, h3⟩
  refine ⟨R, rfl, ?_, h3⟩
  have hli := hl.lines 0 (by rw [q2_like.2.1]; omega)
  rw [q2_lost] at hli
  have hb : (σ'.bytes.drop at_).take n = (lineQ.drop at_).take n := by
    rw [← hli]
    unfold St.line
    refine List.ext_getElem? fun q => ?_
    rw [List.getElem?_take, List.getElem?_take, List.getElem?_drop, List.getElem?_drop, List.getElem?_take]
    split
    · rw [if_pos (by omega)]
      simp
    · rfl
  have h6 : W'.heap[R]? = some (.cells (((σ'.bytes.drop at_).take n).map B8).toArray 5 (0, 0)) := h2
  rw [hb] at h6
  exact h6
end
end Go.Proofs.Ytmcbkflfopfolaa
namespace Go.Proofs.Ytmcbkflfopfolaa
open Go.RowKit
set_option linter.unusedVariables false

theorem within_eq (i n : Int) (hn : 0 < n) : (if i.tmod n < 0 then i.tmod n + n else i.tmod n) = i % n ∧ -n < i.tmod n ∧ i.tmod n < n := by
  have h1 := Int.mul_tdiv_add_tmod i n
  have h2 : i.tmod n < n := Int.tmod_lt_of_pos i hn
  have h3 : -n < i.tmod n := by
    have h := Int.lt_tmod_of_pos i hn
    omega
  have h4 : i % n = (i.tmod n) % n := by
    have h5 : i % n = (i.tmod n + n * i.tdiv n) % n := by rw [Int.add_comm, h1]
    rw [h5, Int.add_mul_emod_self_left]
  refine ⟨?_, h3, h2⟩
  rw [h4]
  split
  · rename_i h
    rw [← Int.add_emod_right, Int.emod_eq_of_lt (by omega) (by omega)]
  · rename_i h
    rw [Int.emod_eq_of_lt (by omega) h2]
end Go.Proofs.Ytmcbkflfopfolaa
namespace Go.Proofs.Ytmcbkflfopfolaa
open Go.RowKit
set_option linter.unusedVariables false

def bitStep (r : Nat) : Nat := if r % 2 = 1 then (r / 2) ^^^ 2197175160 else r / 2
def bitSteps : Nat → Nat → Nat
  | 0, r => r
  | n + 1, r => bitStep (bitSteps n r)
def byteStep (r x : Nat) : Nat := bitSteps 8 (r ^^^ x)
def runs (r : Nat) (bs : List Nat) : Nat := bs.foldl byteStep r
def moreV (s : Nat) (bs : List Nat) : Nat := 4294967295 ^^^ runs (4294967295 ^^^ s) bs

theorem bitStep_lt (r : Nat) (h : r < 4294967296) : bitStep r < 4294967296 := by
  unfold bitStep
  split
  · exact Nat.xor_lt_two_pow (n := 32) (by omega) (by omega)
  · omega
theorem bitSteps_lt (n r : Nat) (h : r < 4294967296) : bitSteps n r < 4294967296 := by
  induction n with
  | zero => exact h
  | succ n ih => exact bitStep_lt _ ih
theorem xor_lt32 (a b : Nat) (ha : a < 4294967296) (hb : b < 4294967296) : a ^^^ b < 4294967296 := Nat.xor_lt_two_pow (n := 32) ha hb
theorem byteStep_lt (r x : Nat) (h : r < 4294967296) (hx : x < 256) : byteStep r x < 4294967296 := bitSteps_lt 8 _ (xor_lt32 _ _ h (by omega))
theorem runs_snoc (r : Nat) (bs : List Nat) (x : Nat) : runs r (bs ++ [x]) = byteStep (runs r bs) x := by simp [runs]
theorem runs_append (r : Nat) (a b : List Nat) : runs r (a ++ b) = runs (runs r a) b := by simp [runs]
theorem runs_lt (r : Nat) (bs : List Nat) (h : r < 4294967296) (hb : ∀ x ∈ bs, x < 256) : runs r bs < 4294967296 := by
  induction bs generalizing r with
  | nil => exact h
  | cons x t ih => exact ih (byteStep r x) (byteStep_lt _ _ h (hb x (by simp))) (fun y hy => hb y (by simp [hy]))
theorem moreV_lt (s : Nat) (bs : List Nat) (h : s < 4294967296) (hb : ∀ x ∈ bs, x < 256) : moreV s bs < 4294967296 :=
  xor_lt32 _ _ (by omega) (runs_lt _ _ (xor_lt32 _ _ (by omega) h) hb)
theorem moreV_append (s : Nat) (a b : List Nat) : moreV s (a ++ b) = moreV (moreV s a) b := by
  unfold moreV
  rw [runs_append, ← Nat.xor_assoc, Nat.xor_self, Nat.zero_xor]
theorem moreV_nil (s : Nat) : moreV s [] = s := by
  unfold moreV runs
  rw [List.foldl_nil, ← Nat.xor_assoc, Nat.xor_self, Nat.zero_xor]

theorem step_eq (Q : Nat) (h : Q < 4294967296) :
    bits BinOp.xor IntKind.u32 ((Q : Int) / 2) (bits BinOp.and IntKind.u32 2197175160 (-bits BinOp.and IntKind.u32 (Q : Int) 1 % 4294967296)) = ((bitStep Q : Nat) : Int) := by
  have e1 : bits BinOp.and IntKind.u32 (Q : Int) 1 = ((Q % 2 : Nat) : Int) := by
    have := u32_and_nat Q 1 h (by omega)
    rw [Nat.and_one_is_mod] at this
    exact this
  rw [e1]
  have e2 : ((Q : Int) / 2) = ((Q / 2 : Nat) : Int) := by omega
  rw [e2]
  unfold bitStep
  rcases Nat.mod_two_eq_zero_or_one Q with h0 | h1
  · rw [h0, if_neg (by omega)]
    have e3 : bits BinOp.and IntKind.u32 2197175160 (-((0 : Nat) : Int) % 4294967296) = ((0 : Nat) : Int) := by
      have := u32_and_nat 2197175160 0 (by omega) (by omega)
      simpa using this
    rw [e3]
    have := u32_xor_nat (Q / 2) 0 (by omega) (by omega)
    simpa using this
  · rw [h1, if_pos rfl]
    have e3 : bits BinOp.and IntKind.u32 2197175160 (-((1 : Nat) : Int) % 4294967296) = ((2197175160 : Nat) : Int) := by
      have := u32_and_nat 2197175160 4294967295 (by omega) (by omega)
      have e4 : (2197175160 &&& 4294967295 : Nat) = 2197175160 := by decide
      rw [e4] at this
      exact this
    rw [e3]
    exact u32_xor_nat (Q / 2) 2197175160 (by omega) (by omega)

theorem inv_eq (s : Nat) (h : s < 4294967296) : bits BinOp.xor IntKind.u32 IntKind.u32.max (s : Int) = ((4294967295 ^^^ s : Nat) : Int) :=
  u32_xor_nat 4294967295 s (by omega) h
theorem mix_eq (r x : Nat) (h : r < 4294967296) (hx : x < 256) : bits BinOp.xor IntKind.u32 (r : Int) (x : Int) = ((r ^^^ x : Nat) : Int) :=
  u32_xor_nat r x h (by omega)
theorem int_congr {k : IntKind} {a b : Int} (h : a = b) : Value.int k a = Value.int k b := by rw [h]
theorem ret_int {k : IntKind} {a b : Int} (h : a = b) : Ending.returned (.int k a) = .returned (.int k b) := by rw [h]

set_option maxHeartbeats 400000 in
theorem more_some (s : Nat) (a : Option Addr) (cap : Nat) (bs : List Nat) (w : World) (hs : s < 4294967296) (hg : Sl w a bs) (hl : bs.length ≤ maxLen) :
    Calls Try.prog 93 #[.int .u32 s, .slice a bs.length cap] w fun e w' => e = .returned (.int .u32 (moreV s bs)) ∧ w' = w := by
  unfold maxLen at hl
  have hinv := inv_eq s hs
  have hi32 := xor_lt32 4294967295 s (by omega) hs
  go_enter Try.func93, Try.ntmps93
  go_wp2
  go_loop [5, 13] (fun r i => ∃ k R : Nat, k ≤ bs.length ∧ R < 4294967296 ∧ i = .int .i64 k ∧ r = .int .u32 R ∧ R = runs (4294967295 ^^^ s) (bs.take k)) (fun _ i => bs.length - (intOf i).toNat)
  case atStart => exact ⟨0, 4294967295 ^^^ s, Nat.zero_le _, hi32, rfl, rfl, rfl⟩
  case round =>
    obtain ⟨k, R, hk, hR, rfl, rfl, hRk⟩ := hrel
    have HR : Hid (R = runs (4294967295 ^^^ s) (bs.take k)) := hRk
    clear hRk
    by_cases hlt : k < bs.length
    · obtain ⟨x, hx⟩ : ∃ x, bs[k]? = some x := ⟨_, List.getElem?_eq_getElem hlt⟩
      obtain ⟨b, off, rfl, _, hseg⟩ : ∃ b off, a = some ⟨b, off, none⟩ ∧ b < w.heap.size ∧ Seg w b off bs := by
        rcases hg with rfl | h
        · simp at hlt
        · exact h
      obtain ⟨hc, hx2⟩ := hseg k x hx
      have HX : Hid (bs[k]? = some x) := hx
      have hmix := mix_eq R x hR hx2
      have hm32 := xor_lt32 R x hR (by omega)
      clear hx hg hseg
      go_wp2
      go_loop [5, 21] (fun r i => ∃ j Q : Nat, j ≤ 8 ∧ Q < 4294967296 ∧ i = .int .i64 j ∧ r = .int .u32 Q ∧ Q = bitSteps j (R ^^^ x)) (fun _ i => 8 - (intOf i).toNat)
      case atStart => exact ⟨0, R ^^^ x, by omega, hm32, rfl, rfl, rfl⟩
      case round =>
        obtain ⟨j, Q, hj, hQ, rfl, rfl, hQj⟩ := hrel
        have HQ : Hid (Q = bitSteps j (R ^^^ x)) := hQj
        clear hQj
        by_cases hj8 : j < 8
        · go_wp2
          go_round
          case rel => exact ⟨j + 1, bitStep Q, by omega, bitStep_lt _ hQ, by go_num, int_congr (step_eq Q hQ), by rw [HQ.out]; rfl⟩
          case measure => simp [intOf]; omega
        · go_wp2
          go_round
          case rel =>
            have e8 : j = 8 := by omega
            refine ⟨k + 1, Q, by omega, hQ, by go_num, rfl, ?_⟩
            rw [List.take_add_one, HX.out]
            simp only [Option.toList_some]
            rw [runs_snoc, ← HR.out, HQ.out, e8]
            rfl
          case measure => simp [intOf]; omega
    · have hfin : k = bs.length := by omega
      have HF : Hid (k = bs.length) := hfin
      clear hfin
      have hinv2 := inv_eq R hR
      go_wp2
      go_ret
      refine ⟨ret_int ?_, rfl⟩
      unfold moreV
      rw [HR.out, HF.out, List.take_length]

def sumV (rs : List (List Nat)) : Nat := moreV 0 rs.flatten
theorem sumV_snoc (rs : List (List Nat)) (r : List Nat) : sumV (rs ++ [r]) = moreV (sumV rs) r := by
  unfold sumV
  rw [List.flatten_append, moreV_append]
  simp
theorem sumV_lt (rs : List (List Nat)) (h : ∀ r ∈ rs, ∀ x ∈ r, x < 256) : sumV rs < 4294967296 :=
  moreV_lt 0 _ (by omega) (fun x hx => by obtain ⟨r, hr, hxr⟩ := List.mem_flatten.1 hx; exact h r hr x hxr)

set_option maxHeartbeats 400000 in
theorem sum_any (a : Option Addr) (cap : Nat) (rs : List (List Nat)) (w : World) (hg : SlR w a rs) (hl : rs.length ≤ maxLen) :
    Calls Try.prog 80 #[.slice a rs.length cap] w fun e w' => e = .returned (.int .u32 (sumV rs)) ∧ w' = w := by
  unfold maxLen at hl
  go_enter Try.func80, Try.ntmps80
  go_wp2
  go_loop [3, 8] (fun r i => ∃ k R : Nat, k ≤ rs.length ∧ R < 4294967296 ∧ i = .int .i64 k ∧ r = .int .u32 R ∧ R = sumV (rs.take k)) (fun _ i => rs.length - (intOf i).toNat)
  case atStart => exact ⟨0, 0, Nat.zero_le _, by omega, rfl, rfl, (moreV_nil 0).symm⟩
  case round =>
    obtain ⟨k, R, hk, hR, rfl, rfl, hRk⟩ := hrel
    have HR : Hid (R = sumV (rs.take k)) := hRk
    clear hRk
    by_cases hlt : k < rs.length
    · obtain ⟨r, hr⟩ : ∃ r, rs[k]? = some r := ⟨_, List.getElem?_eq_getElem hlt⟩
      obtain ⟨b, off, rfl, _, hseg⟩ : ∃ b off, a = some ⟨b, off, none⟩ ∧ b < w.heap.size ∧ ∀ (i : Nat) (r : List Nat), rs[i]? = some r → ∃ ai cap, w.cell? ⟨b, off + i, none⟩ = some (.slice ai r.length cap) ∧ Sl w ai r ∧ r.length ≤ maxLen := by
        rcases hg with rfl | h
        · simp at hlt
        · exact h
      obtain ⟨ai, ci, hc, hsl, hm⟩ := hseg k r hr
      have hx2 := hsl.lt
      have HX : Hid (rs[k]? = some r) := hr
      have HS : Hid (Sl w ai r) := hsl
      have HL : Hid (∀ x ∈ r, x < 256) := hx2
      clear hr hg hseg hsl hx2
      go_wp2_with (go_at_call 93; refine (more_some R ai ci r _ hR HS.out hm).mono ?_; rintro e w' ⟨rfl, rfl⟩)
      go_round
      case rel =>
        refine ⟨k + 1, moreV R r, by omega, moreV_lt _ _ hR HL.out, by go_num, rfl, ?_⟩
        rw [List.take_add_one, HX.out]
        simp only [Option.toList_some]
        rw [sumV_snoc, ← HR.out]
      case measure => simp [intOf]; omega
    · have hfin : k = rs.length := by omega
      have HF : Hid (k = rs.length) := hfin
      clear hfin
      go_wp2
      go_ret
      refine ⟨ret_int ?_, rfl⟩
      rw [HR.out, HF.out, List.take_length]
end Go.Proofs.Ytmcbkflfopfolaa
namespace Go.Proofs.Ytmcbkflfopfolaa
open Go.RowKit
set_option linter.unusedVariables false

theorem ownB_of_owns {W : World} {base g : Nat} {bs : List Nat} (h : W.ownsRow base 5 1 (.slice (some ⟨g, 0, none⟩) bs.length bs.length) bs.length (bs.map B8)) : OwnB W g bs := by
  rcases h.2 with ⟨h0, _⟩ | ⟨g', cap, cur, hv, _, hg, hn, _, hs, hc⟩
  · cases h0
  · cases hv
    have e : cur = (bs.map B8).toArray := by
      apply Array.ext'
      rw [← hc, List.take_of_length_le (by simp [hs])]
    rw [e] at hg
    exact hg

set_option maxHeartbeats 400000 in
theorem copyBytes_any (a : Option Addr) (cap : Nat) (bs : List Nat) (w : World) (hg : Sl w a bs) (hl : bs.length ≤ 140737488355328) :
    Calls Try.prog 50 #[.slice a bs.length cap] w fun e w' => e = .returned (.slice (some ⟨w.heap.size, 0, none⟩) bs.length bs.length) ∧ OwnB w' w.heap.size bs ∧ Below w.heap.size w w' := by
  obtain ⟨i0, hi, hz0, hz1, hz2⟩ := info_parts Try.info5
  have hmk : ∀ w, Sem.run Try.prog (Instr.makeSlice 55 (.int .i64 0) (.int .i64 (bs.length : Int))) w = .ok (.slice (some ⟨w.heap.size, 0, none⟩) 0 bs.length) (w.alloc (.cells (madeCells #[.int .u8 0] bs.length) 5)) := fun w => by
    have h := run_make (P := Try.prog) w 55 5 i0 (.int .u8 0) Try.underlying55 hi hz0 .i64 .i64 0 bs.length (by omega) (by omega) (by rw [hz2]; omega) (by omega)
    simp only [Int.toNat_zero, Int.toNat_natCast, hz1, Nat.mul_one] at h
    exact h
  have hO : (w.alloc (.cells (madeCells #[.int .u8 0] bs.length) 5)).ownsRow w.heap.size 5 1 (.slice (some ⟨w.heap.size, 0, none⟩) 0 bs.length) 0 [] :=
    World.ownsRow_made w _ bs.length (Nat.le_refl _) (by unfold maxLen; omega) (by simp [size_madeCells])
  have hB : Below w.heap.size w (w.alloc (.cells (madeCells #[.int .u8 0] bs.length) 5)) := (Below.refl _ _).alloc (Nat.le_refl _) _
  go_enter Try.func50, Try.ntmps50
  go_wp2
  clear hmk
  go_loopw [3, 4] (fun v i wr => ∃ k : Nat, k ≤ bs.length ∧ i = .int .i64 k ∧ v = .slice (some ⟨w.heap.size, 0, none⟩) k bs.length ∧ wr.ownsRow w.heap.size 5 1 (.slice (some ⟨w.heap.size, 0, none⟩) k bs.length) k ((bs.take k).map B8) ∧ Below w.heap.size w wr)
    (fun _ i _ => bs.length - (intOf i).toNat)
  case atStart => exact ⟨0, by omega, rfl, rfl, hO, hB⟩
  case round =>
    clear hO hB
    obtain ⟨k, hk, rfl, rfl, hown, hBr⟩ := hrel
    by_cases hlt : k < bs.length
    · obtain ⟨x, hx⟩ : ∃ x, bs[k]? = some x := ⟨_, List.getElem?_eq_getElem hlt⟩
      obtain ⟨b, off, rfl, hbl, hseg⟩ : ∃ b off, a = some ⟨b, off, none⟩ ∧ b < w.heap.size ∧ Seg w b off bs := by
        rcases hg with rfl | h
        · simp at hlt
        · exact h
      have hc : wr.cell? ⟨b, off + k, none⟩ = some (.int .u8 (x : Int)) := (hBr.cell (p := ⟨b, off + k, none⟩) hbl).trans (hseg k x hx).1
      have hki : (k : Int) < (bs.length : Int) := by omega
      have HX := hide hx
      have HB := hide hBr
      have hsz := hBr.size
      clear hx hseg hg hBr
      go_wp2_with (at_builtin; refine wpList_append_fits _ rfl _ _ 55 rfl w.heap.size 5 i0 1 Try.underlying55 hi hz1 w.heap.size k bs.length _ rfl (hown.alloc _) ⟨wr.heap.size, 0, none⟩ 1 1 [.int .u8 (x : Int)] rfl rfl (cell_one_new _ _ _) (by simp [Value.oneCell']) (by omega) ?_; intro w1 hown1 hgrow1)
      go_roundw
      case rel =>
        refine ⟨k + 1, by omega, by go_num, rfl, ?_, ?_⟩
        · rw [List.take_add_one, HX.out]
          simpa [B8] using hown1
        · exact (HB.out.alloc hsz _).grown hgrow1 (by simp; omega) (fun j e => by cases e; exact Nat.le_refl _)
      case measure => simp [intOf]; omega
    · have hkk : k = bs.length := by omega
      subst hkk
      have hki : (bs.length : Int) ≤ (bs.length : Int) := by omega
      have HB := hide hBr
      have HO := hide hown
      clear hBr hown hg
      go_wp2
      go_ret
      have h1 := HO.out
      rw [List.take_length] at h1
      exact ⟨rfl, ownB_of_owns h1, HB.out⟩
theorem eqBytes_len (a b : Option Addr) (n m c d : Nat) (w : World) (h : ((n : Int) != (m : Int)) = true) :
    Calls Try.prog 39 #[.slice a n c, .slice b m d] w fun e w' => e = .returned (.bool false) ∧ w' = w := by
  go_enter Try.func39, Try.ntmps39
  go_wp2
  go_ret
  exact ⟨rfl, rfl⟩

set_option maxHeartbeats 400000 in
theorem eqBytes_same (a b : Option Addr) (c d : Nat) (xs ys : List Nat) (w : World) (ha : Sl w a xs) (hb : Sl w b ys) (hl : xs.length = ys.length) (hm : xs.length ≤ 9223372036854775807) :
    Calls Try.prog 39 #[.slice a xs.length c, .slice b xs.length d] w fun e w' => e = .returned (.bool (decide (xs = ys))) ∧ ∃ n, w' = w.drewN n := by
  have HL := hide hl
  clear hl
  have hne : ((xs.length : Int) != (xs.length : Int)) = false := by simp
  go_enter Try.func39, Try.ntmps39
  go_wp2
  go_loopw [5] (fun i wr => ∃ k n : Nat, k ≤ xs.length ∧ i = .int .i64 k ∧ xs.take k = ys.take k ∧ wr = w.drewN n) (fun i _ => xs.length - (intOf i).toNat)
  case atStart => exact ⟨0, 0, by omega, rfl, rfl, rfl⟩
  case round =>
    obtain ⟨k, n, hk, rfl, htk, rfl⟩ := hrel
    have HT := hide htk
    clear htk
    by_cases hlt : k < xs.length
    · obtain ⟨x, hx⟩ : ∃ x, xs[k]? = some x := ⟨_, List.getElem?_eq_getElem hlt⟩
      obtain ⟨y, hy⟩ : ∃ y, ys[k]? = some y := ⟨_, List.getElem?_eq_getElem (by have := HL.out; omega)⟩
      obtain ⟨b1, o1, rfl, _, hs1⟩ : ∃ b off, a = some ⟨b, off, none⟩ ∧ b < w.heap.size ∧ Seg w b off xs := by
        rcases ha with rfl | h
        · simp at hlt
        · exact h
      obtain ⟨b2, o2, rfl, _, hs2⟩ : ∃ b0 off, b = some ⟨b0, off, none⟩ ∧ b0 < w.heap.size ∧ Seg w b0 off ys := by
        rcases hb with rfl | h
        · simp at hy
        · exact h
      have c1 := (hs1 k x hx).1
      have c2 := (hs2 k y hy).1
      have HX := hide hx
      have HY := hide hy
      clear hx hy hs1 hs2 ha hb
      have hki : (k : Int) < (xs.length : Int) := by omega
      by_cases hxy : x = y
      · have hb1 : ((x : Int) != (y : Int)) = false := by simp [hxy]
        have HXY := hide hxy
        clear hxy
        go_wp2
        go_quiet (fail)
        go_wp2
        go_roundw
        case rel =>
          refine ⟨k + 1, n + nq, by omega, by go_num, ?_, rfl⟩
          rw [List.take_add_one, List.take_add_one, HX.out, HY.out, HT.out, HXY.out]
        case measure => simp [intOf]; omega
      · have hb1 : ((x : Int) != (y : Int)) = true := by simp; omega
        have HXY := hide hxy
        clear hxy
        go_wp2
        go_quiet (fail)
        go_wp2
        go_ret
        refine ⟨ret_bool (Eq.symm (decide_eq_false fun h => HXY.out ?_)), n + nq, by simp⟩
        have h1 := HX.out
        rw [h, HY.out] at h1
        exact (Option.some.inj h1).symm
    · have hkk : k = xs.length := by omega
      subst hkk
      go_wp2
      go_ret
      refine ⟨ret_bool (Eq.symm (decide_eq_true ?_)), _, rfl⟩
      have h1 := HT.out
      rw [List.take_length, HL.out, List.take_length] at h1
      exact h1

theorem eqBytes_any (a b : Option Addr) (c d : Nat) (xs ys : List Nat) (w : World) (ha : Sl w a xs) (hb : Sl w b ys) (hm : xs.length ≤ 9223372036854775807) :
    Calls Try.prog 39 #[.slice a xs.length c, .slice b ys.length d] w fun e w' => e = .returned (.bool (decide (xs = ys))) ∧ ∃ n, w' = w.drewN n := by
  by_cases hl : xs.length = ys.length
  · have h := eqBytes_same a b c d xs ys w ha hb hl hm
    rw [← hl]
    exact h
  · refine (eqBytes_len a b xs.length ys.length c d w (by simp; omega)).mono ?_
    rintro e w' ⟨rfl, rfl⟩
    exact ⟨ret_bool (Eq.symm (decide_eq_false fun h => hl (by rw [h]))), 0, rfl⟩

/-- The mark at a place. -/
def markAt (i : Nat) : Nat := (165 ^^^ i) % 256
/-- The marks behind a list of so many bytes. -/
def marks (n : Nat) : List Nat := (List.range 80).map fun (j : Nat) => markAt (n + j)
theorem marks_length (n : Nat) : (marks n).length = 80 := by simp [marks]
theorem marks_get (n j : Nat) (h : j < 80) : (marks n)[j]? = some (markAt (n + j)) := by simp [marks, h]
theorem mark_eq (i : Nat) (h : i ≤ 9223372036854775807) : IntKind.u8.wrap (bits BinOp.xor IntKind.i64 165 (i : Int)) = ((markAt i : Nat) : Int) := by
  have hx : 165 ^^^ i < 2 ^ 63 := Nat.xor_lt_two_pow (by omega) (by omega)
  have e : bits BinOp.xor IntKind.i64 165 (i : Int) = ((165 ^^^ i : Nat) : Int) := by
    show IntKind.i64.wrap ((BitVec.ofInt 64 (((165 : Nat)) : Int) ^^^ BitVec.ofInt 64 (i : Int)).toNat : Int) = _
    rw [BitVec.toNat_xor, ofInt_u64 165 (by omega), ofInt_u64 i (by omega), IntKind.wrap_i64]
    omega
  rw [e, IntKind.wrap_u8']
  unfold markAt
  omega

/-- The head of a row of the call's own. -/
theorem OwnB.head {w : World} {g : Nat} {bs sp : List Nat} (h : OwnB w g (bs ++ sp)) (hx : ∀ x ∈ bs, x < 256) : Sl w (some ⟨g, 0, none⟩) bs := by
  refine .inr ⟨g, 0, rfl, h.lt, fun i x hi => ⟨?_, hx x (List.mem_of_getElem? hi)⟩⟩
  rw [Nat.zero_add]
  exact h.cell i x (by rw [List.getElem?_append_left (List.getElem?_eq_some_iff.1 hi).1]; exact hi)

theorem markAt_lt (i : Nat) : markAt i < 256 := Nat.mod_lt _ (by omega)

theorem sl_of_owns {W : World} {base : Nat} {v : Value} {bs : List Nat} (h : W.ownsRow base 5 1 v bs.length (bs.map B8)) (hx : ∀ x ∈ bs, x < 256) : ∃ a cap, v = .slice a bs.length cap ∧ Sl W a bs := by
  rcases h.2 with ⟨rfl, h0⟩ | ⟨g, cap, cur, rfl, _, hg, hn, _, hs, hc⟩
  · exact ⟨none, 0, by rw [h0], .inl (List.eq_nil_of_length_eq_zero h0)⟩
  · refine ⟨_, cap, rfl, .inr ⟨g, 0, rfl, (Array.getElem?_eq_some_iff.1 hg).1, fun i x hx' => ⟨?_, hx x (List.mem_of_getElem? hx')⟩⟩⟩
    have h1 : (bs.map B8)[i]? = some (B8 x) := by rw [List.getElem?_map, hx']; rfl
    have h2 : i < bs.length := (List.getElem?_eq_some_iff.1 hx').1
    rw [← hc, List.getElem?_take, if_pos (by omega)] at h1
    simp only [Nat.zero_add, World.cell?, hg]
    simpa [B8] using h1

theorem owns_of_ownB {W : World} {base g : Nat} {bs : List Nat} (h : OwnB W g bs) (hb : base ≤ g) (hm : bs.length ≤ maxLen) : W.ownsRow base 5 1 (.slice (some ⟨g, 0, none⟩) bs.length bs.length) bs.length (bs.map B8) :=
  ⟨by simp, .inr ⟨g, bs.length, _, rfl, hb, h, Nat.le_refl _, hm, by simp, by rw [List.take_of_length_le (by simp)]⟩⟩

theorem src {w w' : World} {ad : Addr} {bs : List Nat} (h : Sl w (some ad) bs) (hb : Below w.heap.size w w') : ∀ j u, (bs.map B8)[j]? = some u → w'.cell? (ad.add j) = some u := by
  intro j u hu
  rcases h with rfl | ⟨b, off, he, hl, hs⟩
  · simp at hu
  · cases he
    rw [List.getElem?_map] at hu
    obtain ⟨x, hx, rfl⟩ := Option.map_eq_some_iff.1 hu
    have e : (⟨b, off, none⟩ : Addr).add j = ⟨b, off + j, none⟩ := by simp [Addr.add]
    rw [e]
    exact (hb.cell (p := ⟨b, off + j, none⟩) hl).trans (hs j x hx).1

/-- 'append(x, y...)' on bytes, x the call's own, y whatever came in or was made. -/
theorem wpList_app_bytes {w : World} {ops : Array Oper} {rest : List Oper} {o : Oper} {a : Act} {Q : Exit → Act → World → Prop} (hgd : o.guard = none) (s x : Operand)
    (ho : o.op = .call { callee := .builtin .append, args := #[s, x], argTypes := #[55, 55] })
    (base : Nat) (v : Value) (xs : List Nat) (hs : a.eval s = v) (hown : w.ownsRow base 5 1 v xs.length (xs.map B8))
    (a1 : Option Addr) (c : Nat) (ys : List Nat) (hx : a.eval x = .slice a1 ys.length c) (hnil : a1 = none → c = 0) (hys : Sl w a1 ys) (hb : xs.length + ys.length ≤ 140737488355328) (hbase : base ≤ w.heap.size)
    (h : ∀ v' w', w'.ownsRow base 5 1 v' (xs ++ ys).length ((xs ++ ys).map B8) → Below base w w' → wpList Try.prog ops Q rest (a.put o.dst v') w') : wpList Try.prog ops Q (o :: rest) a w := by
  obtain ⟨i0, hi, hz0, hz1, hz2⟩ := info_parts Try.info5
  cases a1 with
  | none =>
    obtain rfl : ys = [] := by
      rcases hys with h0 | ⟨b, off, h0, _⟩
      · exact h0
      · cases h0
    rw [hnil rfl] at hx
    refine wpList_append_own_none hgd s x 55 ho base 5 i0 1 Try.underlying55 hi v xs.length (xs.map B8) hs hown hx (h v w ?_ (Below.refl _ _))
    simpa using hown
  | some ad =>
    refine wpList_append_own w hgd s x 55 ho base 5 i0 (.int .u8 0) 1 1 Try.underlying55 hi hz0 hz1 hz2 rfl (by omega) v xs.length (xs.map B8) hs hown ad ys.length c (ys.map B8) hx (by simp) (src hys (Below.refl _ _)) (B8_one ys)
      (by unfold maxLen; omega) (by omega) hbase fun v' w' h1 h2 _ => h v' w' ?_ ?_
    · simpa using h1
    · exact (Below.refl _ _).grown h2 hbase fun k e => (hown.lt k e).1

/-- 'bits.Sum(x)', the one part laid in a list of its own. -/
theorem sum_one (W : World) (a : Option Addr) (cap : Nat) (bs : List Nat) (h : Sl W a bs) (hl : bs.length ≤ maxLen) :
    Calls Try.prog 80 #[.slice (some ⟨W.heap.size, 0, none⟩) 1 1] (W.alloc (.cells #[.slice a bs.length cap] 55)) fun e w' => e = .returned (.int .u32 (moreV 0 bs)) ∧ Below W.heap.size W w' := by
  have hB : Below W.heap.size W (W.alloc (.cells #[.slice a bs.length cap] 55)) := (Below.refl _ _).alloc (Nat.le_refl _) _
  have hr : SlR (W.alloc (.cells #[.slice a bs.length cap] 55)) (some ⟨W.heap.size, 0, none⟩) [bs] := by
    refine .inr ⟨_, _, rfl, by simp, fun i r hx => ?_⟩
    match i, hx with
    | 0, hx => simp at hx; subst hx; exact ⟨a, cap, by simp, h.below hB, hl⟩
    | n + 1, hx => simp at hx
  have hs := sum_any (some ⟨W.heap.size, 0, none⟩) 1 [bs] _ hr (by unfold maxLen; simp)
  have e : sumV [bs] = moreV 0 bs := by simp [sumV]
  rw [e] at hs
  refine hs.mono ?_
  rintro e w' ⟨rfl, rfl⟩
  exact ⟨rfl, hB⟩

end Go.Proofs.Ytmcbkflfopfolaa
namespace Go.Proofs.Ytmcbkflfopfolaa
open Go.RowKit Go.Shelf
set_option linter.unusedVariables false

theorem index_byteS (g o i len cap : Nat) (hi : i < len) (w : World) : (Instr.indexAt 55 (.slice (some ⟨g, o, none⟩) len cap) (.int .i64 (i : Int))).run Try.prog w = .ok (.pointer (some ⟨g, o + i, none⟩)) w := by
  have h := index_at (t := 55) (e := 5) (sz := 1) Try.underlying55 (by kernel_rfl) g o i len cap hi w
  rwa [Nat.mul_one] at h
end Go.Proofs.Ytmcbkflfopfolaa
namespace Go.Proofs.Ytmcbkflfopfolaa
open Go.RowKit
set_option linter.unusedVariables false

theorem Try.info22 : (Try.prog.info? 55).map (fun i => (i.zero, i.size, i.bytes)) = some (some (.slice none 0 0), 1, 24) := by kernel_rfl

theorem ownsRow_below {W W' : World} {base : Nat} {e : TypeId} {size : Nat} {v : Value} {k : Nat} {xs : List Value} (h : W.ownsRow base e size v k xs) (hb : Below W.heap.size W W') : W'.ownsRow base e size v k xs := by
  refine ⟨h.1, ?_⟩
  rcases h.2 with h2 | ⟨g, cap, cur, hv, hg, hh, r⟩
  · exact .inl h2
  · exact .inr ⟨g, cap, cur, hv, hg, (hb.block g (Array.getElem?_eq_some_iff.1 hh).1).trans hh, r⟩

/-- Bytes that lie ahead of the call's own memory, or in a block of bytes. -/
def Piece (W : World) (base : Nat) (a : Option Addr) (bs : List Nat) : Prop :=
  bs = [] ∨ ∃ b off, a = some ⟨b, off, none⟩ ∧ b < W.heap.size ∧ (b < base ∨ ∃ cur fr, W.heap[b]? = some (.cells cur 5 fr)) ∧ Seg W b off bs

theorem Piece.sl {W : World} {base : Nat} {a : Option Addr} {bs : List Nat} (h : Piece W base a bs) : Sl W a bs := by
  rcases h with h | ⟨b, off, ha, hl, _, hs⟩
  · exact .inl h
  · exact .inr ⟨b, off, ha, hl, hs⟩
theorem Piece.of_block {W W' : World} {base : Nat} {a : Option Addr} {bs : List Nat} (h : Piece W base a bs) (hs : W.heap.size ≤ W'.heap.size) (hk : ∀ b, b < W.heap.size → (b < base ∨ ∃ cur fr, W.heap[b]? = some (.cells cur 5 fr)) → W'.heap[b]? = W.heap[b]?) : Piece W' base a bs := by
  rcases h with h | ⟨b, off, ha, hl, ht, hg⟩
  · exact .inl h
  · have e := hk b hl ht
    refine .inr ⟨b, off, ha, Nat.lt_of_lt_of_le hl hs, ?_, fun i x hx => ⟨(World.cell?_of_block (w := W) (a := ⟨b, off + i, none⟩) e).trans (hg i x hx).1, (hg i x hx).2⟩⟩
    rcases ht with ht | ⟨cur, fr, ht⟩
    · exact .inl ht
    · exact .inr ⟨cur, fr, e.trans ht⟩
theorem Piece.below {W W' : World} {base : Nat} {a : Option Addr} {bs : List Nat} (h : Piece W base a bs) (hb : Below W.heap.size W W') : Piece W' base a bs :=
  h.of_block hb.size fun b hl _ => hb.block b hl
theorem Piece.grown {W W' : World} {base : Nat} {a : Option Addr} {bs : List Nat} {v : Value} {k : Nat} {xs : List Value} (h : Piece W base a bs) (hown : W.ownsRow base 55 1 v k xs) (hg : W.grownBy W' v.ownBlock) : Piece W' base a bs := by
  refine h.of_block hg.size fun b hl ht => hg.block b hl fun e => ?_
  rcases hown.2 with ⟨rfl, _⟩ | ⟨g, cap, cur, rfl, hb, hh, _⟩
  · simp [Value.ownBlock] at e
  · obtain rfl : b = g := by simpa [Value.ownBlock] using e
    rcases ht with ht | ⟨c2, fr, ht⟩
    · omega
    · rw [hh] at ht; simp at ht
theorem OwnB.piece {W : World} {g : Nat} {bs : List Nat} (h : OwnB W g bs) (base : Nat) (hx : ∀ x ∈ bs, x < 256) : Piece W base (some ⟨g, 0, none⟩) bs :=
  .inr ⟨g, 0, rfl, h.lt, .inr ⟨_, _, h⟩, fun i x hi => ⟨by rw [Nat.zero_add]; exact h.cell i x hi, hx x (List.mem_of_getElem? hi)⟩⟩

/-- Cells that hold slices of these bytes. -/
def Ties (W : World) (base : Nat) (cs : List Value) (rs : List (List Nat)) : Prop :=
  cs.length = rs.length ∧ ∀ (i : Nat) (r : List Nat), rs[i]? = some r → ∃ ai ci, cs[i]? = some (.slice ai r.length ci) ∧ Piece W base ai r ∧ r.length ≤ maxLen

theorem Ties.nil (W : World) (base : Nat) : Ties W base [] [] := ⟨rfl, fun i r h => by simp at h⟩
theorem Ties.below {W W' : World} {base : Nat} {cs : List Value} {rs : List (List Nat)} (h : Ties W base cs rs) (hb : Below W.heap.size W W') : Ties W' base cs rs :=
  ⟨h.1, fun i r hr => by obtain ⟨ai, ci, h1, h2, h3⟩ := h.2 i r hr; exact ⟨ai, ci, h1, h2.below hb, h3⟩⟩
theorem Ties.grown {W W' : World} {base : Nat} {cs : List Value} {rs : List (List Nat)} {v : Value} {k : Nat} {xs : List Value} (h : Ties W base cs rs) (hown : W.ownsRow base 55 1 v k xs) (hg : W.grownBy W' v.ownBlock) : Ties W' base cs rs :=
  ⟨h.1, fun i r hr => by obtain ⟨ai, ci, h1, h2, h3⟩ := h.2 i r hr; exact ⟨ai, ci, h1, h2.grown hown hg, h3⟩⟩
theorem Ties.snoc {W : World} {base : Nat} {cs : List Value} {rs : List (List Nat)} (h : Ties W base cs rs) {a : Option Addr} {r : List Nat} (c : Nat) (hp : Piece W base a r) (hl : r.length ≤ maxLen) : Ties W base (cs ++ [.slice a r.length c]) (rs ++ [r]) := by
  refine ⟨by simp [h.1], fun i r' hr => ?_⟩
  by_cases hi : i < rs.length
  · rw [List.getElem?_append_left hi] at hr
    rw [List.getElem?_append_left (by rw [h.1]; exact hi)]
    exact h.2 i r' hr
  · rw [List.getElem?_append_right (by omega)] at hr
    rw [List.getElem?_append_right (by rw [h.1]; omega), h.1]
    have h0 : i - rs.length = 0 := by
      have := (List.getElem?_eq_some_iff.1 hr).1
      simp at this
      omega
    rw [h0] at hr ⊢
    simp at hr
    subst hr
    exact ⟨a, c, by simp, hp, hl⟩
theorem slr_of_owns {W : World} {base : Nat} {v : Value} {cs : List Value} {rs : List (List Nat)} (h : W.ownsRow base 55 1 v cs.length cs) (ht : Ties W base cs rs) : ∃ a cap, v = .slice a rs.length cap ∧ SlR W a rs := by
  rcases h.2 with ⟨rfl, h0⟩ | ⟨g, cap, cur, rfl, _, hg, hn, _, hs, hc⟩
  · rw [ht.1] at h0
    exact ⟨none, 0, by rw [h0], .inl (List.eq_nil_of_length_eq_zero h0)⟩
  · refine ⟨_, cap, by rw [ht.1], .inr ⟨g, 0, rfl, (Array.getElem?_eq_some_iff.1 hg).1, fun i r hr => ?_⟩⟩
    obtain ⟨ai, ci, h1, h2, h3⟩ := ht.2 i r hr
    refine ⟨ai, ci, ?_, h2.sl, h3⟩
    have hi : i < cs.length := (List.getElem?_eq_some_iff.1 h1).1
    rw [← hc, List.getElem?_take, if_pos (by omega)] at h1
    simp only [Nat.zero_add, World.cell?, hg]
    simpa using h1

end Go.Proofs.Ytmcbkflfopfolaa
namespace Go.Proofs.Ytmcbkflfopfolaa
open Go.RowKit
set_option linter.unusedVariables false

theorem flat_at {rs : List (List Nat)} {i : Nat} {r : List Nat} (h : rs[i]? = some r) : (rs.take i).flatten.length + r.length ≤ rs.flatten.length := by
  have e := List.take_append_drop (i + 1) rs
  have l := congrArg (fun l => l.flatten.length) e
  simp only [List.flatten_append, List.length_append, List.take_add_one, h, Option.toList_some, List.flatten_cons, List.flatten_nil, List.append_nil] at l
  omega
theorem flat_next {rs : List (List Nat)} {i : Nat} {r : List Nat} (h : rs[i]? = some r) : (rs.take (i + 1)).flatten = (rs.take i).flatten ++ r := by
  simp [List.take_add_one, h]



end Go.Proofs.Ytmcbkflfopfolaa
namespace Go.Proofs.Ytmcbkflfopfolaa
open Go.RowKit
set_option linter.unusedVariables false

theorem ret_int' {k : IntKind} {a b : Int} (h : a = b) : Ending.returned (.int k a) = .returned (.int k b) := by rw [h]

/-- The number of so many bytes at a place, and the error's number. -/
def takeV (bs : List Nat) (p : Int) (n : Nat) : Nat × Int :=
  if p < 0 ∨ (bs.length : Int) - n < p then (0, 6) else (leV ((bs.drop p.toNat).take n), 0)
theorem takeV_lt (bs : List Nat) (p : Int) (n : Nat) (h : ∀ x ∈ bs, x < 256) : (takeV bs p n).1 < 256 ^ n := by
  unfold takeV
  split
  · exact Nat.pow_pos (by omega)
  · refine Nat.lt_of_lt_of_le (leV_lt _ fun x hx => h x (List.mem_of_mem_drop (List.mem_of_mem_take hx))) (Nat.pow_le_pow_right (by omega) (List.length_take_le _ _))
theorem leB_mod (n v : Nat) : leB n (v % 256 ^ n) = leB n v := by
  induction n generalizing v with
  | zero => rfl
  | succ n ih =>
    simp only [leB]
    have e1 : v % 256 ^ (n + 1) % 256 = v % 256 := Nat.mod_mod_of_dvd v ⟨256 ^ n, by rw [Nat.pow_succ, Nat.mul_comm]⟩
    have e2 : v % 256 ^ (n + 1) / 256 = v / 256 % 256 ^ n := by rw [Nat.pow_succ, Nat.mul_comm, Nat.mod_mul_right_div_self]
    rw [e1, e2, ih]

theorem take64_any (a : Option Addr) (cap : Nat) (bs : List Nat) (p : Int) (w : World) (hg : Sl w a bs) (hl : bs.length ≤ maxLen) :
    Calls Try.prog 91 #[.slice a bs.length cap, .int .i64 p] w fun e w' => e = .returned (.tuple #[.int .u64 (takeV bs p 8).1, .int .i64 (takeV bs p 8).2]) ∧ w' = w := by
  unfold takeV
  by_cases h1 : p < 0
  · rw [if_pos (.inl h1)]; exact take64_low a bs.length cap w p h1
  · by_cases h2 : (bs.length : Int) - 8 < p
    · rw [if_pos (.inr h2)]; exact take64_high a bs.length cap w p hl (by omega) h2
    · rw [if_neg (by intro h; rcases h with h | h; exact h1 h; exact h2 h)]
      obtain ⟨q, rfl⟩ := Int.eq_ofNat_of_zero_le (show 0 ≤ p by omega)
      exact take64_good a cap q bs w hg hl (by omega)

end Go.Proofs.Ytmcbkflfopfolaa
namespace Go.Proofs.Ytmcbkflfopfolaa
open Go.RowKit
set_option linter.unusedVariables false

theorem shr_byte (v k : Nat) : (v : Int) / 2 ^ (8 * k) % 256 = ((v / 256 ^ k % 256 : Nat) : Int) := by
  have e : (2 : Int) ^ (8 * k) = ((256 ^ k : Nat) : Int) := by rw [Int.pow_mul, Int.natCast_pow]; rfl
  rw [e, ← Int.natCast_ediv]
  omega
theorem leB_take (n v k x : Nat) (h : k < n) (hx : x = v / 256 ^ k % 256) : (leB n v).take (k + 1) = (leB n v).take k ++ [x] := by
  rw [List.take_add_one, leB_get n v k h, hx]; rfl


def markOf (i k : Nat) : Nat := (i * 31 + k * 7 + 1) % 256
theorem mark_any (i k : Nat) (w : World) (hi : i ≤ 1000000000000) (hk : k ≤ 1000000000000000) :
    Calls Try.prog 51 #[.int .i64 i, .int .i64 k] w fun e w' => e = .returned (.int .u8 ((markOf i k : Nat) : Int)) ∧ w' = w := by
  go_enter Try.func51, Try.ntmps51
  go_wp2
  go_ret
  exact ⟨ret_int' (by unfold markOf; omega), rfl⟩

theorem xor_half (a b : Nat) : (a ^^^ b) / 2 = a / 2 ^^^ b / 2 := Nat.xor_div_two
theorem xor_low (a b : Nat) : (a ^^^ b) % 2 = (a % 2 + b % 2) % 2 := by
  have e : (a ^^^ b) % 2 ^ 1 = a % 2 ^ 1 ^^^ b % 2 ^ 1 := Nat.xor_mod_two_pow
  rw [Nat.pow_one] at e
  rw [e]
  rcases Nat.mod_two_eq_zero_or_one a with h1 | h1 <;> rcases Nat.mod_two_eq_zero_or_one b with h2 | h2 <;> rw [h1, h2] <;> rfl
def refStep (r y : Nat) : Nat := if y % 2 = r % 2 then r / 2 else r / 2 ^^^ 2197175160
theorem refStep_eq (r y : Nat) : bitStep (r ^^^ y) = refStep r y ^^^ (y / 2) := by
  unfold bitStep refStep
  rw [xor_low, xor_half]
  by_cases h : y % 2 = r % 2
  · rw [if_neg (by omega), if_pos h]
  · rw [if_pos (by omega), if_neg h, Nat.xor_assoc, Nat.xor_comm (y / 2), ← Nat.xor_assoc]
theorem refStep_lt (r y : Nat) (h : r < 4294967296) : refStep r y < 4294967296 := by
  unfold refStep
  split
  · omega
  · exact xor_lt32 _ _ (by omega) (by omega)
theorem refSteps_next {z R x k : Nat} (h : bitSteps k z = R ^^^ x / 2 ^ k) : bitSteps (k + 1) z = refStep R (x / 2 ^ k) ^^^ x / 2 ^ (k + 1) := by
  show bitStep (bitSteps k z) = _
  rw [h, refStep_eq, Nat.pow_succ, Nat.div_div_eq_div_mul]
theorem refSteps_end {z R x : Nat} (hx : x < 256) (h : bitSteps 8 z = R ^^^ x / 2 ^ 8) : bitSteps 8 z = R := by
  rw [h, Nat.div_eq_of_lt (by omega), Nat.xor_zero]

theorem ref_inv (s : Nat) (h : s < 4294967296) : bits BinOp.xor IntKind.u64 (s : Int) 4294967295 = ((4294967295 ^^^ s : Nat) : Int) := by
  rw [Nat.xor_comm]; exact u64_xor_nat s 4294967295 (by omega) (by omega)
theorem ref_mix (r : Nat) (h : r < 4294967296) : bits BinOp.xor IntKind.u64 (r : Int) 2197175160 = ((r ^^^ 2197175160 : Nat) : Int) :=
  u64_xor_nat r 2197175160 (by omega) (by omega)
theorem ref_bit (x k : Nat) : (x : Int) / 2 ^ k = ((x / 2 ^ k : Nat) : Int) := by rw [Int.natCast_ediv, Int.natCast_pow]; rfl


end Go.Proofs.Ytmcbkflfopfolaa
namespace Go.Proofs.Ytmcbkflfopfolaa
open Go.RowKit
set_option linter.unusedVariables false

theorem qownsRow_base {W : World} {base base' : Nat} {e : TypeId} {size : Nat} {v : Value} {k : Nat} {xs : List Value} (h : W.ownsRow base e size v k xs) (hb : base' ≤ base) : W.ownsRow base' e size v k xs := by
  refine ⟨h.1, ?_⟩
  rcases h.2 with h2 | ⟨g, cap, cur, hv, hg, r⟩
  · exact .inl h2
  · exact .inr ⟨g, cap, cur, hv, Nat.le_trans hb hg, r⟩
theorem qpair_slr (W : World) (a0 a1 : Option Addr) (c0 c1 : Nat) (x0 x1 : List Nat) (h0 : Sl W a0 x0) (h1 : Sl W a1 x1) (l0 : x0.length ≤ maxLen) (l1 : x1.length ≤ maxLen) :
    SlR (W.alloc (.cells #[.slice a0 x0.length c0, .slice a1 x1.length c1] 55)) (some ⟨W.heap.size, 0, none⟩) [x0, x1] := by
  have hB : Below W.heap.size W (W.alloc (.cells #[.slice a0 x0.length c0, .slice a1 x1.length c1] 55)) := (Below.refl _ _).alloc (Nat.le_refl _) _
  refine .inr ⟨_, _, rfl, by simp, fun i r hx => ?_⟩
  match i, hx with
  | 0, hx => simp at hx; subst hx; exact ⟨a0, c0, by simp, h0.below hB, l0⟩
  | 1, hx => simp at hx; subst hx; exact ⟨a1, c1, by simp, h1.below hB, l1⟩
  | n + 2, hx => simp at hx
end Go.Proofs.Ytmcbkflfopfolaa
namespace Go.Proofs.Ytmcbkflfopfolaa
open Go.RowKit Go.Shelf
set_option linter.unusedVariables false

section
variable {w : World} {b : Nat} {L : Lay} {σ : St}
theorem infoArm2 : ∃ i, Try.prog.info? 153 = some i ∧ i.zero = some (.agg #[.int .i64 0, .slice none 0 0]) ∧ i.size = 2 ∧ i.bytes = 32 := by
  have h : (Try.prog.info? 153).map (fun i => (i.zero, i.size, i.bytes)) = some (some (.agg #[.int .i64 0, .slice none 0 0]), 2, 32) := by kernel_rfl
  obtain ⟨i, h1, h2⟩ := Option.map_eq_some_iff.1 h
  simp only [Prod.mk.injEq] at h2
  exact ⟨i, h1, h2.1, h2.2.1, h2.2.2⟩
theorem infoInt2 : ∃ i, Try.prog.info? 3 = some i ∧ i.zero = some (.int .i64 0) ∧ i.size = 1 ∧ i.bytes = 8 := by
  have h : (Try.prog.info? 3).map (fun i => (i.zero, i.size, i.bytes)) = some (some (.int .i64 0), 1, 8) := by kernel_rfl
  obtain ⟨i, h1, h2⟩ := Option.map_eq_some_iff.1 h
  simp only [Prod.mk.injEq] at h2
  exact ⟨i, h1, h2.1, h2.2.1, h2.2.2⟩
theorem cut_ints (g m cap : Nat) (hm : m ≤ cap) (w : World) : (Instr.sliceAt 22 (.slice (some ⟨g, 0, none⟩) m cap) none (some (.int .i64 (m : Int))) none).run Try.prog w = .ok (.slice (some ⟨g, 0, none⟩) m cap) w := by
  obtain ⟨i, h1, _⟩ := infoInt2
  simp [Instr.sliceAt, Instr.slice, Sem.run_bind, run_underlying Try.underlying22, Instr.sliceBounds, Instr.sliceBound, asIntOf, sizeOf, typeInfo, h1, Addr.add_mid, hm]
theorem slice_arm (X : List Value) (w : World) (hx : X.length = 2) : (Instr.buildSlice 61 1 #[(0, .agg X.toArray)]).run Try.prog w = .ok (.slice (some ⟨w.heap.size, 0, none⟩) 1 1) (w.alloc (.cells X.toArray 153)) := by
  obtain ⟨it, hi, hz, h2, _⟩ := infoArm2
  refine run_buildSlice w _ 153 1 _ X.toArray it (.agg #[.int .i64 0, .slice none 0 0]) armSlice hi hz (by rw [h2]; decide) (by rw [h2]; decide) ?_
  rw [h2]
  have := Great.fill_whole (s := 2) (by decide) [.agg X.toArray] ((Array.range (1 * 2)).map ((Value.agg #[.int .i64 0, .slice none 0 0]).cells[· % (Value.agg #[.int .i64 0, .slice none 0 0]).cells.size]!)) (by simp [Value.cells, hx]) (by simp)
  simpa [Value.cells] using this
theorem wp_slice_arm {o : Oper} {a : Act} {w : World} {K : Act → World → Prop} {Q : Exit → Act → World → Prop} (x : Operand) (ho : o.op = .buildSlice 61 1 #[(0, x)]) (X : List Value) (hx : a.eval x = .agg X.toArray) (hl : X.length = 2)
    (h : K (a.put o.dst (.slice (some ⟨w.heap.size, 0, none⟩) 1 1)) (w.alloc (.cells X.toArray 153))) : o.wp Try.prog a w K Q := by
  have hr := slice_arm X w hl
  unfold Oper.wp execOp
  simp only [ho, Sem.run_bind, List.map_toArray, List.map_cons, List.map_nil, hx, hr, Result.andThen_ok]
  exact h
/-- A loss waits. -/
theorem DevL.armed {w' : World} {v8 kv : Value} {gk af : Nat} {kp : List Nat} (h : DevL w b L σ) (hb : w'.heap[b]? = some (.cells (devC b { L with av := v8 } { σ with arms := [(af, kp)] }) 75 (0, 0))) (hrow : w'.ownsRow 0 153 2 v8 1 [.int .i64 (af : Int), kv])
    (hkeep : KeepAt w' (fun k => k = gk) kv kp) (hgk : ∃ c, w'.heap[gk]? = some (.cells c 3 (0, 0))) (hk : ∀ k, k < w.heap.size → k ≠ b → L.av.ownBlock ≠ some k → w'.heap[k]? = w.heap[k]?) :
    DevL w' b { L with av := v8, KB := fun k => k = gk } { σ with arms := [(af, kp)] } := by
  have hs : ∀ (k : Nat) (c : Array Value) t fr, w.heap[k]? = some (Obj.cells c t fr) → t ≠ 75 → t ≠ 153 → w'.heap[k]? = w.heap[k]? := fun k c t fr h1 h2 h3 => hk k (lt_of_heap h1) (ne_ty h1 h.dev h2) (fun e => by obtain ⟨c', hc'⟩ := h.av_row e; exact ne_ty h1 hc' h3 rfl)
  have hm : ∀ (k : Nat) es q, w.heap[k]? = some (Obj.map es q) → w'.heap[k]? = w.heap[k]? := fun k es q h1 => hk k (lt_of_heap h1) (ne_map h.dev h1).symm (fun e => by obtain ⟨c', hc'⟩ := h.av_row e; exact ne_map hc' h1 rfl)
  obtain ⟨e1, k1, hob⟩ := h.old.block
  obtain ⟨e2, k2, hfb⟩ := h.flm.block
  refine ⟨hb, (hs _ _ _ _ h.seen (by decide) (by decide)).trans h.seen, h.old.of_block (hm _ _ _ hob), h.flm.of_block (hm _ _ _ hfb),
    fun i hi => (h.pasts i hi).keep (hs _ _ _ _ (h.pasts i hi).1 (by decide) (by decide)) (fun g' hg' => ?_), h.pne, h.rne, h.mne, ⟨[kv], rfl, hrow, fun i k a h1 h2 => ?_⟩, fun k hkb => ?_⟩
  · obtain ⟨c, hc⟩ := (h.pasts i hi).row hg'
    exact hs _ _ _ _ hc (by decide) (by decide)
  · cases i with
    | zero => cases h1; cases h2; exact hkeep
    | succ i => simp at h1
  · subst hkb; exact hgk
end
end Go.Proofs.Ytmcbkflfopfolaa
namespace Go.Proofs.Ytmcbkflfopfolaa
open Go.RowKit Go.Shelf
set_option linter.unusedVariables false

/-- A device of a walk's own. -/
structure AtW (w W : World) (b : Nat) (L : Lay) (σ : St) : Prop where
  dev : DevL W b L σ
  ok : σ.Ok
  foot : ∀ k, Foot b L σ k → w.heap.size ≤ k
  bel : Below w.heap.size w W
theorem AtW.step {w W W' : World} {b : Nat} {L L' : Lay} {σ σ' : St} (h : AtW w W b L σ) (hd : DevL W' b L' σ') (hok : σ'.Ok) (hf : ∀ k, Foot b L' σ' k → Foot b L σ k ∨ W.heap.size ≤ k) {X : Nat → Prop} (hX : ∀ k, X k → Foot b L σ k) (hg : Gr X W W') : AtW w W' b L' σ' := by
  refine ⟨hd, hok, fun k hk => ?_, hg.1.trans h.bel.os, hg.2.1.trans h.bel.tape, hg.2.2.1.trans h.bel.output, Nat.le_trans h.bel.size hg.size, fun k hk => (hg.block (Nat.lt_of_lt_of_le hk h.bel.size) (fun hx => by have := h.foot k (hX k hx); omega)).trans (h.bel.block k hk)⟩
  rcases hf k hk with h1 | h1
  · exact h.foot k h1
  · exact Nat.le_trans h.bel.size h1
theorem AtW.below {w W W' : World} {b : Nat} {L : Lay} {σ : St} (h : AtW w W b L σ) (hB : Below W.heap.size W W') : AtW w W' b L σ := ⟨h.dev.below hB, h.ok, h.foot, h.bel.trans (hB.mono h.bel.size)⟩
theorem ok_arms {σ : St} {a : List (Nat × List Nat)} (h : σ.Ok) : ({ σ with arms := a } : St).Ok := ⟨h.pos, h.max, h.len, h.byte, h.out, h.clen, h.cbyte, h.few, h.flp, h.opsm⟩
theorem ok_off {σ : St} {o : Bool} (h : σ.Ok) : ({ σ with off := o } : St).Ok := ⟨h.pos, h.max, h.len, h.byte, h.out, h.clen, h.cbyte, h.few, h.flp, h.opsm⟩
theorem w_from {W2 : World} {g : Nat} {ys : List Nat} (ho : OwnB W2 g ys) (hl : ys.length = 128) (hb : ∀ x ∈ ys, x < 256) : Calls Try.prog 40 #[.slice (some ⟨g, 0, none⟩) 128 128] W2 fun e w' => ∃ b L, e = .returned (.tuple #[.pointer (some ⟨b, 0, none⟩), .int .i64 0]) ∧ AtW W2 w' b L (fromD 2 ys) ∧ L.N = 0 := by
  obtain ⟨ab, ao, e, hlt, hsg⟩ : ∃ ab ao, (some ⟨g, 0, none⟩ : Option Addr) = some ⟨ab, ao, none⟩ ∧ ab < W2.heap.size ∧ Seg W2 ab ao ys := by
    rcases ho.sl hb with h | h
    · rw [h] at hl; simp at hl
    · exact h
  cases e
  refine (pfrom_any W2 g 0 128 128 2 ys hsg hlt hl rfl (by omega) (by omega) hb (by omega)).mono ?_
  rintro e w' ⟨b, L, rfl, h1, h2, h3, h4⟩
  exact ⟨b, L, rfl, ⟨h1, fromD_ok (by omega) (by omega) hl hb, h2, h3⟩, h4⟩
/-- Publish, and what it leaves. -/
theorem w_pub {W2 W5 : World} {b : Nat} {L : Lay} {ys : List Nat} {i j k v : Nat} (h : AtW W2 W5 b L { fromD 2 ys with arms := [(1 + i, [k, k])] }) (hN : L.N = 0) (hi : i < 4) (hj : j < 16) (hk : k < 1000) (hv : v < 18446744073709551616) :
    Calls Try.prog 67 #[.pointer (some ⟨b, 0, none⟩), .int .i64 (8 * (j : Int)), .int .u64 (v : Int)] W5 fun e w' => ∃ L' s, e = .returned (.int .i64 (if i = 3 then 0 else 5)) ∧ AtW W2 w' b L' s ∧ s.n = 2 ∧ ((i < 3 ∧ s.off = true ∧ (s.bytes = splice ys (8 * j) (leB 8 v) ∨ i < 2 ∧ s.bytes = ys)) ∨ (i = 3 ∧ s.off = false ∧ s.bytes = splice ys (8 * j) (leB 8 v) ∧ ∀ i, s.past i = [])) := by
  have hp := qpubG_any v (8 * j) h.dev h.ok rfl (by rw [hN]; exact Nat.zero_le _) ⟨.inr ⟨1 + i, [k, k], rfl, fun x hx => by simp at hx; omega, by simp⟩, by show 0 < 1400000000000; omega⟩ (by show 0 + _ ≤ _; omega) (by show 0 + _ ≤ _; omega) hv (by omega) (by show 8 * j + 8 ≤ 64 * 2; omega)
  rw [show ((8 * j : Nat) : Int) = 8 * (j : Int) by omega] at hp
  refine hp.mono ?_
  rintro e w' ⟨c, s, rfl, h1, hg, L', hd, hf, _⟩
  obtain ⟨q1, q2, q3⟩ := pub_whole (σ := { fromD 2 ys with arms := [(1 + i, [k, k])] }) (n := 1 + i) h.ok (fun _ => rfl) rfl rfl rfl rfl (by omega) (by omega) (by omega) (by show 8 * j + 8 ≤ 64 * 2; omega) hv h1
  have hA := h.step hd q1 hf (fun k hk => hk) hg
  rcases q3 with ⟨r1, rfl, r2, r3⟩ | ⟨r1, rfl, r2, r3, r4⟩
  · refine ⟨L', s, by rw [if_neg (by omega)], hA, q2, .inl ⟨by omega, r2, r3.imp id (fun h => ⟨by omega, h.2⟩)⟩⟩
  · refine ⟨L', s, by rw [if_pos (by omega)], hA, q2, .inr ⟨by omega, r2, r3, r4⟩⟩
end Go.Proofs.Ytmcbkflfopfolaa
namespace Go.Proofs.Ytmcbkflfopfolaa
open Go.RowKit Go.Shelf
set_option linter.unusedVariables false

theorem cut_to (g o len cap m : Nat) (hm : m ≤ len) (hl : len ≤ cap) (w : World) : (Instr.sliceAt 55 (.slice (some ⟨g, o, none⟩) len cap) none (some (.int .i64 (m : Int))) none).run Try.prog w = .ok (.slice (some ⟨g, o, none⟩) m cap) w := by
  obtain ⟨i0, hi, hz0, hz1, hz2⟩ := info_parts Try.info5
  have hc2 : m ≤ cap := by omega
  simp [Instr.sliceAt, Instr.slice, Sem.run_bind, run_underlying Try.underlying55, Instr.sliceBounds, Instr.sliceBound, asIntOf, sizeOf, typeInfo, hi, Addr.add_mid, hc2]
theorem w_image {W2 W : World} {b : Nat} {L : Lay} {s : St} (h : AtW W2 W b L s) (hn : s.n = 2) : Calls Try.prog 23 #[.pointer (some ⟨b, 0, none⟩)] W fun e w' => e = .returned (.slice (some ⟨W.heap.size, 0, none⟩) 128 128) ∧ OwnB w' W.heap.size s.bytes ∧ Below W.heap.size W w' := by
  have h1 := pimg_any h.dev h.ok
  rw [hn] at h1
  exact h1
theorem wpAnyH_go {P : Program} {ops : Array Oper} {Q : Exit → Act → World → Prop} {md : Region.Mode} {S : World → Prop} {i : Nat} {o : Oper} {fuel : Nat} {listed : Array Bool} {a : Act} {w : World} (hr : Region.ready md ops listed = [i]) (ho : ops[i]? = some o) (hw : Region.wanted o (yielded ops a.tmps) = true)
    (h : ∀ K' : Act → World → Prop, Shut (∀ a w, wpAnyH P md ops Q S fuel (listed.setIfInBounds i true) a w → K' a w) → Oper.wp P o a w K' Q) (hT : ∀ w, S w) : wpAnyH P md ops Q S (fuel + 1) listed a w := by
  refine wpAnyH_ready (rs := [i]) hr (by simp) (AllReadyH.cons ho (fun K hK => ?_) AllReadyH.nil)
  rw [if_pos hw]
  exact h K (fun a w hq => hK a w (hT w) (fun _ => hq))
theorem cut_from (g j : Nat) (hj : j < 16) (ys : List Nat) (hl : ys.length = 128) (hb : ∀ x ∈ ys, x < 256) : ∃ ad : Addr, (∀ w : World, (Instr.sliceAt 55 (.slice (some ⟨g, 0, none⟩) 128 128) (some (.int .i64 (8 * (j : Int) + 8))) none none).run Try.prog w = .ok (.slice (some ad) (128 - (8 * j + 8)) (128 - (8 * j + 8))) w) ∧ ∀ W, OwnB W g ys → Sl W (some ad) (ys.drop (8 * j + 8)) := by
  obtain ⟨i0, hi, hz0, hz1, hz2⟩ := info_parts Try.info5
  by_cases h15 : j = 15
  · subst h15
    refine ⟨⟨g, 0, none⟩, fun w => ?_, fun W h => .inl ?_⟩
    · simp [Instr.sliceAt, Instr.slice, Sem.run_bind, run_underlying Try.underlying55, Instr.sliceBounds, Instr.sliceBound, asIntOf, sizeOf, typeInfo, hi, Addr.add_mid]
    · exact List.drop_of_length_le (by omega)
  · refine ⟨⟨g, 8 * j + 8, none⟩, fun w => ?_, fun W h => ?_⟩
    · have e := slice_bytes g 0 (8 * j + 8) 128 128 (by omega) (by omega) w
      rw [Nat.zero_add, show ((8 * j + 8 : Nat) : Int) = 8 * (j : Int) + 8 by omega] at e
      exact e
    · refine .inr ⟨g, 8 * j + 8, rfl, h.lt, fun i x hx => ?_⟩
      rw [List.getElem?_drop] at hx
      exact ⟨h.cell _ _ hx, hb x (List.mem_of_getElem? hx)⟩
theorem cut_at (g j : Nat) (hj : j < 16) (w : World) : (Instr.sliceAt 55 (.slice (some ⟨g, 0, none⟩) 128 128) none (some (.int .i64 (8 * (j : Int)))) none).run Try.prog w = .ok (.slice (some ⟨g, 0, none⟩) (8 * j) 128) w := by
  have e := cut_to g 0 128 128 (8 * j) (by omega) (by omega) w
  rwa [show ((8 * j : Nat) : Int) = 8 * (j : Int) by omega] at e
theorem front_sl {W : World} {g j : Nat} {ys : List Nat} (h : OwnB W g ys) (hb : ∀ x ∈ ys, x < 256) : Sl W (some ⟨g, 0, none⟩) (ys.take (8 * j)) := by
  refine .inr ⟨g, 0, rfl, h.lt, fun i x hx => ?_⟩
  rw [List.getElem?_take] at hx
  split at hx
  · rw [Nat.zero_add]
    exact ⟨h.cell _ _ hx, hb x (List.mem_of_getElem? hx)⟩
  · cases hx
theorem w_eq {W : World} {g : Nat} {sb ws : List Nat} {aw : Option Addr} {cw n : Nat} (h : OwnB W g sb) (hl : sb.length = 128) (hb : ∀ x ∈ sb, x < 256) (hw : Sl W aw ws) (hn : ws.length = n) : Calls Try.prog 39 #[.slice (some ⟨g, 0, none⟩) 128 128, .slice aw n cw] W fun e w' => e = .returned (.bool (decide (sb = ws))) ∧ ∃ q, w' = W.drewN q := by
  have h5 := eqBytes_any (some ⟨g, 0, none⟩) aw 128 cw sb ws W (h.sl hb) hw (by omega)
  rw [hl, hn] at h5
  exact h5
end Go.Proofs.Ytmcbkflfopfolaa
namespace Go.Proofs.Ytmcbkflfopfolaa
open Go.RowKit Go.Shelf
set_option linter.unusedVariables false
set_option maxRecDepth 100000

/-- A log lies at block g: on the device at b, from a on, of z bytes. -/
def LogL (w : World) (g b a z : Nat) : Prop := w.heap[g]? = some (.cells #[.pointer (some ⟨g, 0, none⟩), .pointer (some ⟨b, 0, none⟩), .int .i64 (a : Int), .int .i64 (z : Int)] 78 (0, 0))
theorem log_nd : NDt 78 := ⟨by decide, by decide, by decide, by decide, by decide, by decide⟩
theorem byte_nd : NDt 5 := ⟨by decide, by decide, by decide, by decide, by decide, by decide⟩
section
variable {w w' : World} {g b a z : Nat}
theorem LogL.c0 (h : LogL w g b a z) : w.cell? ⟨g, 0, none⟩ = some (.pointer (some ⟨g, 0, none⟩)) := cell8 h 0
theorem LogL.c1 (h : LogL w g b a z) : w.cell? ⟨g, 1, none⟩ = some (.pointer (some ⟨b, 0, none⟩)) := cell8 h 1
theorem LogL.c2 (h : LogL w g b a z) : w.cell? ⟨g, 2, none⟩ = some (.int .i64 (a : Int)) := cell8 h 2
theorem LogL.c3 (h : LogL w g b a z) : w.cell? ⟨g, 3, none⟩ = some (.int .i64 (z : Int)) := cell8 h 3
theorem LogL.below (h : LogL w g b a z) (hB : Below w.heap.size w w') : LogL w' g b a z := (hB.block g (lt_of_heap h)).trans h
theorem LogL.drew (h : LogL w g b a z) : LogL w.drew g b a z := h
theorem LogL.atd {L : Lay} {σ s : St} {m : Nat} (h : LogL w g b a z) (hd : DevL w b L σ) (ha : Atd w b L σ w' s m) : LogL w' g b a z := ha.kept hd h log_nd
theorem OwnB.atd {L : Lay} {σ s : St} {m R : Nat} {bs : List Nat} (h : OwnB w R bs) (hd : DevL w b L σ) (ha : Atd w b L σ w' s m) : OwnB w' R bs := ha.kept hd h byte_nd
theorem neq_log (a : Addr) (w : World) : (binOp .neq 37 (.pointer (some a)) (.pointer (some a))).run Try.prog w = .ok (.bool false) w := by
  have h : ∀ d : Nat, (Op.equalIn (d + 1) 37 (.pointer (some a)) (.pointer (some a))).run Try.prog w = .ok true w := fun d => by
    simp [Op.equalIn, run_underlying (show Try.prog.underlying 37 = some (.pointer 78) by kernel_rfl), run_sameAddr_same]
  simp only [binOp]
  simp [Op.equal, Op.maxDepth, h 9999]
theorem lnone_any (h : LogL w g b a z) : Calls Try.prog 48 #[.pointer (some ⟨g, 0, none⟩)] w fun e w' => e = .returned (.bool false) ∧ w' = w := by
  have c0 := h.c0
  have hq := neq_log ⟨g, 0, none⟩ w
  clear h
  go_enter Try.func48, Try.ntmps48
  go_wp2
  go_ret
  exact ⟨rfl, rfl⟩
theorem lroom_any (h : LogL w g b a z) (ha : a ≤ 4194304) : Calls Try.prog 45 #[.pointer (some ⟨g, 0, none⟩)] w fun e w' => e = .returned (.int .i64 ((a + 64 : Nat) : Int)) ∧ w' = w := by
  have c2 := h.c2
  have wm : IntKind.i64.wrap ((a : Int) + 64) = ((a + 64 : Nat) : Int) := by rw [IntKind.wrap_i64]; omega
  clear h
  go_enter Try.func45, Try.ntmps45
  go_wp2
  go_ret
  exact ⟨rfl, rfl⟩
theorem lend_any (h : LogL w g b a z) (ha : a + z ≤ 4194304) : Calls Try.prog 63 #[.pointer (some ⟨g, 0, none⟩)] w fun e w' => e = .returned (.int .i64 ((a + z : Nat) : Int)) ∧ w' = w.drew := by
  have WM := hide (show IntKind.i64.wrap ((a : Int) + (z : Int)) = ((a + z : Nat) : Int) by rw [IntKind.wrap_i64]; omega)
  have H := hide h
  clear h
  go_enter Try.func63, Try.ntmps63
  go_wp2
  refine wp_region_held_drew (S := fun Y => Y = w.drew) (by kernel_rfl) rfl (fun hS => ?_)
  refine wpAnyH_take (i := 0) (v := (.pointer (some ⟨g, 0, none⟩))) rfl (by kernel_rfl) (by kernel_rfl) (by kernel_rfl) (fun _ _ _ h => h) (Or.inl ⟨by kernel_rfl, fun w' hw => by (go_simp)⟩) hS ?_
  refine wpAnyH_take (i := 1) (v := (.pointer (some ⟨g, 0, none⟩))) rfl (by kernel_rfl) (by kernel_rfl) (by kernel_rfl) (fun _ _ _ h => h) (Or.inl ⟨by kernel_rfl, fun w' hw => by (go_simp)⟩) hS ?_
  refine wpAnyH_take (i := 2) (v := (.pointer (some ⟨g, 2, none⟩))) rfl (by kernel_rfl) (by kernel_rfl) (by kernel_rfl) (fun _ _ _ h => h) (Or.inl ⟨by kernel_rfl, fun w' hw => by (go_simp)⟩) hS ?_
  refine wpAnyH_take (i := 3) (v := (.int .i64 (a : Int))) rfl (by kernel_rfl) (by kernel_rfl) (by kernel_rfl) (fun _ _ _ h => h) (Or.inl ⟨by kernel_rfl, fun w' hw => by (have z2 := H.out.drew.c2; have e : w' = w.drew := hw; rw [e]; go_simp)⟩) hS ?_
  refine wpAnyH_take (i := 4) (v := (.pointer (some ⟨g, 0, none⟩))) rfl (by kernel_rfl) (by kernel_rfl) (by kernel_rfl) (fun _ _ _ h => h) (Or.inl ⟨by kernel_rfl, fun w' hw => by (go_simp)⟩) hS ?_
  refine wpAnyH_take (i := 5) (v := (.pointer (some ⟨g, 0, none⟩))) rfl (by kernel_rfl) (by kernel_rfl) (by kernel_rfl) (fun _ _ _ h => h) (Or.inl ⟨by kernel_rfl, fun w' hw => by (go_simp)⟩) hS ?_
  refine wpAnyH_take (i := 6) (v := (.pointer (some ⟨g, 3, none⟩))) rfl (by kernel_rfl) (by kernel_rfl) (by kernel_rfl) (fun _ _ _ h => h) (Or.inl ⟨by kernel_rfl, fun w' hw => by (go_simp)⟩) hS ?_
  refine wpAnyH_take (i := 7) (v := (.int .i64 (z : Int))) rfl (by kernel_rfl) (by kernel_rfl) (by kernel_rfl) (fun _ _ _ h => h) (Or.inl ⟨by kernel_rfl, fun w' hw => by (have z3 := H.out.drew.c3; have e : w' = w.drew := hw; rw [e]; go_simp)⟩) hS ?_
  refine wpAnyH_take (i := 8) (v := (.int .i64 ((a + z : Nat) : Int))) rfl (by kernel_rfl) (by kernel_rfl) (by kernel_rfl) (fun _ _ _ h => h) (Or.inl ⟨by kernel_rfl, fun w' hw => by (have wm := WM.out; go_simp)⟩) hS ?_
  refine wpAnyH_take (i := 9) (v := (.int .i64 ((a + z : Nat) : Int))) rfl (by kernel_rfl) (by kernel_rfl) (by kernel_rfl) (fun _ _ _ h => h) (Or.inl ⟨by kernel_rfl, fun w' hw => by (go_simp)⟩) hS ?_
  refine wpAnyH_done (by kernel_rfl) ?_ _
  simp only [Act.put, List.getElem_toArray, List.getElem_cons_zero, List.getElem_cons_succ, List.setIfInBounds_toArray, List.set_cons_zero, List.set_cons_succ]
  go_wp2_with (fail)
  go_ret
  exact ⟨rfl, rfl⟩
/-- How many records the log says that it has. -/
theorem lnumber_any {L : Lay} {σ : St} (h : LogL w g b a z) (hd : Dv w b L σ) (ha8 : a % 8 = 0) (hal : a + 8 ≤ 64 * σ.n) : Calls Try.prog 41 #[.pointer (some ⟨g, 0, none⟩)] w fun e w' => e = .returned (.tuple #[.int .u64 ((leV ((σ.bytes.drop a).take 8) : Nat) : Int), .int .i64 0]) ∧ Below w.heap.size w w' := by
  have hmx := hd.ok.max
  have kw : ∀ W, Below w.heap.size w W → Calls Try.prog 61 #[.pointer (some ⟨b, 0, none⟩), .int .i64 (a : Int)] W fun e w' => e = .returned (.tuple #[.int .u64 ((leV ((σ.bytes.drop a).take 8) : Nat) : Int), .int .i64 0]) ∧ Below W.heap.size W w' := fun W hB => by
    exact qword (w := W) (p := some ⟨b, 0, none⟩) (a : Int) (by omega) (by omega) ((σ.bytes.drop a).take 8) (by rw [List.length_take, List.length_drop, hd.ok.len]; omega) (fun y hy => hd.ok.byte y (List.mem_of_mem_drop (List.mem_of_mem_take hy))) (fun X hX => (dv_load (at_ := a) (n := 8) ((hd.below hB).below hX) hal).mono fun e w' ⟨R, q1, _, q3, q4⟩ => ⟨R, q1, q3, q4⟩)
  generalize leV ((σ.bytes.drop a).take 8) = v at *
  have KN := hide (lnone_any h)
  have KW := hide kw
  have H := hide h
  clear h hd kw hmx
  go_enter Try.func41, Try.ntmps41
  go_wp2_with (go_at_call 48; refine (KN.out).mono ?_; rintro e w' ⟨rfl, hw⟩; obtain rfl := hw.symm)
  refine wp_region_held_drew (S := fun Y => LogL Y g b a z) (by kernel_rfl) H.out.drew (fun hS => ?_)
  refine wpAnyH_take (i := 0) (v := (.pointer (some ⟨g, 0, none⟩))) rfl (by kernel_rfl) (by kernel_rfl) (by kernel_rfl) (fun _ _ _ h => h) (Or.inl ⟨by kernel_rfl, fun w' hw => by (go_simp)⟩) hS ?_
  refine wpAnyH_take (i := 1) (v := (.pointer (some ⟨g, 0, none⟩))) rfl (by kernel_rfl) (by kernel_rfl) (by kernel_rfl) (fun _ _ _ h => h) (Or.inl ⟨by kernel_rfl, fun w' hw => by (go_simp)⟩) hS ?_
  refine wpAnyH_take (i := 2) (v := (.pointer (some ⟨g, 1, none⟩))) rfl (by kernel_rfl) (by kernel_rfl) (by kernel_rfl) (fun _ _ _ h => h) (Or.inl ⟨by kernel_rfl, fun w' hw => by (go_simp)⟩) hS ?_
  refine wpAnyH_take (i := 3) (v := (.pointer (some ⟨b, 0, none⟩))) rfl (by kernel_rfl) (by kernel_rfl) (by kernel_rfl) (fun _ _ _ h => h) (Or.inl ⟨by kernel_rfl, fun w' hw => by (have z1 := LogL.c1 hw; have z2 := LogL.c2 hw; have z3 := LogL.c3 hw; go_simp)⟩) hS ?_
  refine wpAnyH_take (i := 4) (v := (.pointer (some ⟨g, 0, none⟩))) rfl (by kernel_rfl) (by kernel_rfl) (by kernel_rfl) (fun _ _ _ h => h) (Or.inl ⟨by kernel_rfl, fun w' hw => by (go_simp)⟩) hS ?_
  refine wpAnyH_take (i := 5) (v := (.pointer (some ⟨g, 0, none⟩))) rfl (by kernel_rfl) (by kernel_rfl) (by kernel_rfl) (fun _ _ _ h => h) (Or.inl ⟨by kernel_rfl, fun w' hw => by (go_simp)⟩) hS ?_
  refine wpAnyH_take (i := 6) (v := (.pointer (some ⟨g, 2, none⟩))) rfl (by kernel_rfl) (by kernel_rfl) (by kernel_rfl) (fun _ _ _ h => h) (Or.inl ⟨by kernel_rfl, fun w' hw => by (go_simp)⟩) hS ?_
  refine wpAnyH_take (i := 7) (v := (.int .i64 (a : Int))) rfl (by kernel_rfl) (by kernel_rfl) (by kernel_rfl) (fun _ _ _ h => h) (Or.inl ⟨by kernel_rfl, fun w' hw => by (have z1 := LogL.c1 hw; have z2 := LogL.c2 hw; have z3 := LogL.c3 hw; go_simp)⟩) hS ?_
  refine wpAnyH_goS (i := 8) (by kernel_rfl) rfl (by kernel_rfl) (fun K hK => ?_)
  go_wp2_with (go_at_call 61; refine (KW.out _ (Below.refl _ w).drew).mono ?_; rintro e W1 ⟨rfl, hB⟩; have HB := hide (bseq (Below.refl _ w).drew hB); clear hB)
  have hS2 := H.out.below HB.out
  refine hK.out _ _ hS2 ?_
  clear hK K
  refine wpAnyH_take (i := 9) (v := (.int .u64 (v : Int))) rfl (by kernel_rfl) (by kernel_rfl) (by kernel_rfl) (fun _ _ _ h => h) (Or.inl ⟨by kernel_rfl, fun w' hw => by (go_simp)⟩) hS2 ?_
  refine wpAnyH_take (i := 10) (v := (.int .i64 0)) rfl (by kernel_rfl) (by kernel_rfl) (by kernel_rfl) (fun _ _ _ h => h) (Or.inl ⟨by kernel_rfl, fun w' hw => by (go_simp)⟩) hS2 ?_
  refine wpAnyH_take (i := 11) (v := (.int .u64 (v : Int))) rfl (by kernel_rfl) (by kernel_rfl) (by kernel_rfl) (fun _ _ _ h => h) (Or.inl ⟨by kernel_rfl, fun w' hw => by (go_simp)⟩) hS2 ?_
  refine wpAnyH_take (i := 12) (v := (.int .i64 0)) rfl (by kernel_rfl) (by kernel_rfl) (by kernel_rfl) (fun _ _ _ h => h) (Or.inl ⟨by kernel_rfl, fun w' hw => by (go_simp)⟩) hS2 ?_
  refine wpAnyH_done (by kernel_rfl) ?_ _
  simp only [Act.put, List.getElem_toArray, List.getElem_cons_zero, List.getElem_cons_succ, List.setIfInBounds_toArray, List.set_cons_zero, List.set_cons_succ]
  go_wp2_with (fail)
  go_ret2
  exact ⟨rfl, HB.out⟩
theorem lpub_any {L : Lay} {σ : St} (n : Nat) (h : LogL w g b a z) (hd : Dv w b L σ) (hops : σ.ops + 4000000 ≤ 1400000000000) (hn : n ≤ 9223372036854775807) (ha8 : a % 8 = 0) (hal : a + 8 ≤ 64 * σ.n) : Calls Try.prog 46 #[.pointer (some ⟨g, 0, none⟩), .int .i64 (n : Int)] w fun e w' => ∃ c s, e = .returned (.int .i64 c) ∧ RunD (pubF n a) σ c s ∧ Atd w b L σ w' s (pubF n a).length := by
  have CV := hide (show IntKind.u64.wrap (n : Int) = (n : Int) by rw [IntKind.wrap_u64]; omega)
  have HLOG := hide (fun (W1 : World) (c : Int) (s : St) (hp : RunD (pubF n a) σ c s ∧ Atd w.drew b L σ W1 s (pubF n a).length) => h.drew.atd (hd.below (w' := w.drew) (Below.refl _ w).drew).dev hp.2)
  have KP := hide (dv_pub n a (hd.below (w' := w.drew) (Below.refl _ w).drew) hops (by omega) ha8 hal)
  have H := hide h
  clear h hd
  go_enter Try.func46, Try.ntmps46
  go_wp2
  refine wp_region_held_drew (S := fun Y => LogL Y g b a z) (by kernel_rfl) H.out.drew (fun hS => ?_)
  refine wpAnyH_take (i := 0) (v := (.pointer (some ⟨g, 0, none⟩))) rfl (by kernel_rfl) (by kernel_rfl) (by kernel_rfl) (fun _ _ _ h => h) (Or.inl ⟨by kernel_rfl, fun w' hw => by (go_simp)⟩) hS ?_
  refine wpAnyH_take (i := 1) (v := (.pointer (some ⟨g, 0, none⟩))) rfl (by kernel_rfl) (by kernel_rfl) (by kernel_rfl) (fun _ _ _ h => h) (Or.inl ⟨by kernel_rfl, fun w' hw => by (go_simp)⟩) hS ?_
  refine wpAnyH_take (i := 2) (v := (.pointer (some ⟨g, 1, none⟩))) rfl (by kernel_rfl) (by kernel_rfl) (by kernel_rfl) (fun _ _ _ h => h) (Or.inl ⟨by kernel_rfl, fun w' hw => by (go_simp)⟩) hS ?_
  refine wpAnyH_take (i := 3) (v := (.pointer (some ⟨b, 0, none⟩))) rfl (by kernel_rfl) (by kernel_rfl) (by kernel_rfl) (fun _ _ _ h => h) (Or.inl ⟨by kernel_rfl, fun w' hw => by (have z1 := LogL.c1 hw; have z2 := LogL.c2 hw; have z3 := LogL.c3 hw; go_simp)⟩) hS ?_
  refine wpAnyH_take (i := 4) (v := (.pointer (some ⟨g, 0, none⟩))) rfl (by kernel_rfl) (by kernel_rfl) (by kernel_rfl) (fun _ _ _ h => h) (Or.inl ⟨by kernel_rfl, fun w' hw => by (go_simp)⟩) hS ?_
  refine wpAnyH_take (i := 5) (v := (.pointer (some ⟨g, 0, none⟩))) rfl (by kernel_rfl) (by kernel_rfl) (by kernel_rfl) (fun _ _ _ h => h) (Or.inl ⟨by kernel_rfl, fun w' hw => by (go_simp)⟩) hS ?_
  refine wpAnyH_take (i := 6) (v := (.pointer (some ⟨g, 2, none⟩))) rfl (by kernel_rfl) (by kernel_rfl) (by kernel_rfl) (fun _ _ _ h => h) (Or.inl ⟨by kernel_rfl, fun w' hw => by (go_simp)⟩) hS ?_
  refine wpAnyH_take (i := 7) (v := (.int .i64 (a : Int))) rfl (by kernel_rfl) (by kernel_rfl) (by kernel_rfl) (fun _ _ _ h => h) (Or.inl ⟨by kernel_rfl, fun w' hw => by (have z1 := LogL.c1 hw; have z2 := LogL.c2 hw; have z3 := LogL.c3 hw; go_simp)⟩) hS ?_
  refine wpAnyH_take (i := 8) (v := (.int .i64 (n : Int))) rfl (by kernel_rfl) (by kernel_rfl) (by kernel_rfl) (fun _ _ _ h => h) (Or.inl ⟨by kernel_rfl, fun w' hw => by (go_simp)⟩) hS ?_
  refine wpAnyH_take (i := 9) (v := (.int .u64 (n : Int))) rfl (by kernel_rfl) (by kernel_rfl) (by kernel_rfl) (fun _ _ _ h => h) (Or.inl ⟨by kernel_rfl, fun w' hw => by (have wm := CV.out; go_simp)⟩) hS ?_
  refine wpAnyH_goS (i := 10) (by kernel_rfl) rfl (by kernel_rfl) (fun K hK => ?_)
  go_wp2_with (go_at_call 67; refine (KP.out).mono ?_; rintro e W1 ⟨c, s, rfl, hp⟩; have HP := hide hp; clear hp)
  have hS2 := HLOG.out W1 c s HP.out
  refine hK.out _ _ hS2 ?_
  clear hK K
  refine wpAnyH_take (i := 11) (v := (.int .i64 c)) rfl (by kernel_rfl) (by kernel_rfl) (by kernel_rfl) (fun _ _ _ h => h) (Or.inl ⟨by kernel_rfl, fun w' hw => by (go_simp)⟩) hS2 ?_
  refine wpAnyH_done (by kernel_rfl) ?_ _
  simp only [Act.put, List.getElem_toArray, List.getElem_cons_zero, List.getElem_cons_succ, List.setIfInBounds_toArray, List.set_cons_zero, List.set_cons_succ]
  go_wp2_with (fail)
  go_ret
  obtain ⟨h1, h2⟩ := HP.out
  exact ⟨c, s, rfl, h1, h2.base (Below.refl _ w).drew⟩
end
end Go.Proofs.Ytmcbkflfopfolaa
