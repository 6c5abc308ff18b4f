/- Two and Little of the statements' helpers. -/
import Derived.Test.YtgfgihpkbbjkfaaQBy2
import Derived.Test.YtgfgihpkbbjkfaaQPubGM
import Derived.Test.YtgfgihpkbbjkfaaPSto
import Derived.Test.YtgfgihpkbbjkfaaPFl
import Derived.Test.YtgfgihpkbbjkfaaPFnW
import Derived.Test.YtgfgihpkbbjkfaaPNew
import Derived.Test.YtgfgihpkbbjkfaaPSt
import Derived.Test.YtgfgihpkbbjkfaaPut
import Derived.Test.YtgfgihpkbbjkfaaQPub
import Derived.Test.YtgfgihpkbbjkfaaPLd
import Derived.Test.YtgfgihpkbbjkfaaPMap
import Derived.Test.YtgfgihpkbbjkfaaBase
import Derived.Laws.BitsAllLaws
import Derived.Test.YtgfgihpkbbjkfaaEq
import Derived.Maps.AppendAt
import Derived.Laws.AppendOwnNone
namespace Go.Proofs.Ytgfgihpkbbjkfaa
open Go.RowKit Go.Shelf
set_option linter.unusedVariables false

section
variable {w : World} {b : Nat} {L : Lay} {σ : St}
variable {a : Option Addr} {bs : List Nat}
theorem psto_gen (at_ cap : Nat) (h : DevL w b L σ) (hok : σ.Ok) (ho : σ.off = false) (hN : L.N ≤ σ.ops + 100000000000) (hfw : Few σ) (hcn : σ.cnt + 600000 ≤ 1400000000000) (hops : σ.ops + 600000 ≤ 1400000000000) (hsl : Sl w a bs) (hcap : bs.length ≤ cap) (hlen : at_ + bs.length ≤ 64 * σ.n) (haf : ∀ ad, a = some ad → ad.block < w.heap.size ∧ ¬ Foot b L σ ad.block) :
    Calls Try.prog 20 #[.pointer (some ⟨b, 0, none⟩), .int .i64 (at_ : Int), .slice a bs.length cap] w fun e w' => ∃ c σ' L', e = .returned (.int .i64 c) ∧ WrD bs at_ σ (wordsOf at_ bs.length) c σ' ∧ DevL w' b L' σ' ∧ (∀ k, Foot b L' σ' k → Foot b L σ k ∨ w.heap.size ≤ k) ∧ Gr (Foot b L σ) w w' ∧ L'.N ≤ L.N + (wordsOf at_ bs.length).length ∧ L'.KB = L.KB ∧ (c = 0 → SameL L L') := by
  have hmx := hok.max
  have ks := pstate_any h
  rw [ho] at ks
  simp only [Bool.false_eq_true, if_false] at ks
  have kh := pholds_any h hok.max (at_ : Int) (bs.length : Int) (by omega) (by omega)
  have hb : hasB σ (at_ : Int) (bs.length : Int) = true := by unfold hasB; simp; omega
  rw [hb] at kh
  have kw := callsIn_wide.1 (pwriteG_in (cap := cap) h hok hN hfw hcn hsl hcap hlen hops haf)
  have KS := hide ks
  have KH := hide kh
  have KW := hide kw
  clear h hok ks kh kw hb hfw hcn hN ho hsl hlen haf
  generalize bs.length = n at *
  go_enter Try.func20, Try.ntmps20
  go_wp2_with (first | (go_at_call 37; refine (KS.out).mono ?_; rintro e w' ⟨rfl, hw⟩; obtain rfl := hw.symm) | (go_at_call 45; refine (KH.out).mono ?_; rintro e w' ⟨rfl, hw⟩; obtain rfl := hw.symm) | (go_at_call 46; refine (KW.out).mono ?_; rintro e w' ⟨c, σ', L', rfl, hw⟩; have HW := hide hw; clear hw))
  go_ret
  exact ⟨c, σ', L', rfl, HW.out⟩
end
/-- What Bytes leaves, and what it answers. -/
def BytD (bs : List Nat) (at_ : Nat) (σ : St) (c : Int) (σ' : St) : Prop :=
  (c = 5 ∧ WrD bs at_ σ (wordsOf at_ bs.length) 5 σ') ∨ ∃ s1, WrD bs at_ σ (wordsOf at_ bs.length) 0 s1 ∧ ((c = 5 ∧ FlD s1 (linesOf at_ bs.length) 5 σ') ∨ ∃ s2, FlD s1 (linesOf at_ bs.length) 0 s2 ∧ Opd (fnA s2) c σ')
def bytS (bs : List Nat) (at_ : Nat) (σ : St) (j : Nat) (s : St) : Prop :=
  if j = 0 then s = σ else if j = 1 then WrD bs at_ σ (wordsOf at_ bs.length) 0 s else if j = 2 then ∃ s1, WrD bs at_ σ (wordsOf at_ bs.length) 0 s1 ∧ FlD s1 (linesOf at_ bs.length) 0 s else BytD bs at_ σ 0 s
section
variable {w : World} {b : Nat} {L : Lay} {σ : St}
end
end Go.Proofs.Ytgfgihpkbbjkfaa
namespace Go.Proofs.Ytgfgihpkbbjkfaa
open Go.RowKit Go.Shelf
set_option linter.unusedVariables false

theorem splice_in (l p : List Nat) (i o : Nat) (hi : 64 * i + 64 ≤ l.length) (ho : o + p.length ≤ 64) : splice l (64 * i) (splice ((l.drop (64 * i)).take 64) o p) = splice l (64 * i + o) p := by
  have l0 : ((l.drop (64 * i)).take 64).length = 64 := by rw [List.length_take, List.length_drop]; omega
  have l1 := splice_len ((l.drop (64 * i)).take 64) p o (by omega)
  refine List.ext_getElem? fun q => ?_
  rw [splice_get _ _ _ _ (by omega), splice_get _ _ _ _ (by omega), splice_get _ _ _ _ (by omega), l1, l0]
  by_cases h0 : q < 64 * i
  · rw [if_pos h0, if_pos (by omega)]
  · rw [if_neg h0]
    by_cases h1 : q < 64 * i + 64
    · rw [if_pos h1]
      by_cases h2 : q < 64 * i + o
      · rw [if_pos (by omega), if_pos h2, List.getElem?_take, if_pos (by omega), List.getElem?_drop]
        congr 1
        omega
      · rw [if_neg (by omega), if_neg h2]
        by_cases h3 : q < 64 * i + o + p.length
        · rw [if_pos (by omega), if_pos h3]
          congr 1
          omega
        · rw [if_neg (by omega), if_neg h3, List.getElem?_take, if_pos (by omega), List.getElem?_drop]
          congr 1
          omega
    · rw [if_neg h1, if_neg (by omega), if_neg (by omega)]
theorem wordDo_bytes {bs : List Nat} {at_ no : Nat} {σ : St} (hl : σ.bytes.length = 64 * σ.n) (hi : no / 8 < σ.n) (fr : Nat) (hfr : fr = max at_ (no * 8)) (hf3 : fr < no * 8 + 8) : (wordDo bs at_ σ no).bytes = splice σ.bytes fr ((bs.drop (fr - at_)).take (8 - fr % 8)) := by
  show splice σ.bytes (64 * (no / 8)) (splice (σ.line (no / 8)) (max at_ (no * 8) % 64) ((bs.drop (max at_ (no * 8) - at_)).take (8 - max at_ (no * 8) % 8))) = _
  rw [← hfr]
  unfold St.line
  rw [splice_in _ _ _ _ (by omega) (by rw [List.length_take]; omega)]
  congr 1
  omega
theorem words_bytes {bs : List Nat} {at_ : Nat} (hbs : ∀ x ∈ bs, x < 256) {σ : St} (hok : σ.Ok) (hlen : at_ + bs.length ≤ 64 * σ.n) (hops : σ.ops + 600000 ≤ 1400000000000) (hn : 1 ≤ bs.length) : ∀ m, m ≤ (at_ + bs.length - 1) / 8 - at_ / 8 + 1 →
    (writeDo bs at_ σ ((List.range m).map (at_ / 8 + ·))).bytes = splice σ.bytes at_ (bs.take (min bs.length ((at_ / 8 + m) * 8 - at_)))
  | 0, _ => by
    have e : (at_ / 8 + 0) * 8 - at_ = 0 := by omega
    rw [e, Nat.min_zero, List.take_zero, splice_nil]
    rfl
  | m + 1, hm => by
    have ih := words_bytes hbs hok hlen hops hn m (by omega)
    have hmx := hok.max
    have hol := hok.len
    have hlk := write_like (at_ := at_) hbs ((List.range m).map (at_ / 8 + ·)) σ hok (fun no h => by
      obtain ⟨i, hi, rfl⟩ := List.mem_map.1 h
      have := List.mem_range.1 hi
      omega) (by simp; omega)
    rw [List.range_succ, List.map_append, List.map_cons, List.map_nil, writeDo_snoc]
    obtain ⟨fr, hfr⟩ : ∃ fr, fr = max at_ ((at_ / 8 + m) * 8) := ⟨_, rfl⟩
    rw [wordDo_bytes (by rw [hlk.ok.len]) (by rw [hlk.n]; omega) fr hfr (by omega), ih]
    have e1 : min bs.length ((at_ / 8 + m) * 8 - at_) = fr - at_ := by omega
    obtain ⟨p, hp⟩ : ∃ p, p = min (8 - fr % 8) (bs.length - (fr - at_)) := ⟨_, rfl⟩
    have e2 : (bs.drop (fr - at_)).take (8 - fr % 8) = (bs.drop (fr - at_)).take p := by
      rw [hp]
      refine List.ext_getElem? fun q => ?_
      rw [List.getElem?_take, List.getElem?_take, List.getElem?_drop]
      by_cases h1 : q < bs.length - (fr - at_)
      · by_cases h2 : q < 8 - fr % 8
        · rw [if_pos h2, if_pos (by omega)]
        · rw [if_neg h2, if_neg (by omega)]
      · rw [if_neg (show ¬ q < min (8 - fr % 8) (bs.length - (fr - at_)) by omega)]
        split
        · rw [List.getElem?_eq_none (by omega)]
        · rfl
    rw [e1, e2, splice_words σ.bytes bs at_ fr (by omega) (by omega) (by omega) p (by omega) (by omega)]
    congr 2
    omega
theorem store_bytes {bs : List Nat} {at_ : Nat} (hbs : ∀ x ∈ bs, x < 256) {σ : St} (hok : σ.Ok) (hlen : at_ + bs.length ≤ 64 * σ.n) (hops : σ.ops + 600000 ≤ 1400000000000) : (writeDo bs at_ σ (wordsOf at_ bs.length)).bytes = splice σ.bytes at_ bs := by
  have hmx := hok.max
  rw [wordsOf_eq at_ bs.length (by omega)]
  by_cases h0 : bs.length = 0
  · rw [if_pos h0, List.eq_nil_of_length_eq_zero h0, splice_nil]
    rfl
  · rw [if_neg h0, words_bytes hbs hok hlen hops (by omega) _ (Nat.le_refl _), List.take_of_length_le (by omega)]
end Go.Proofs.Ytgfgihpkbbjkfaa
namespace Go.Proofs.Ytgfgihpkbbjkfaa
open Go.RowKit Go.Shelf
set_option linter.unusedVariables false

/-- All contents of a line are so. -/
def Every (σ : St) (i : Nat) (P : List Nat → Prop) : Prop := P (σ.line i) ∧ ∀ c ∈ σ.past i, P c
theorem Every.put {σ : St} {i j : Nat} {c : List Nat} {P : List Nat → Prop} (hl : σ.bytes.length = 64 * σ.n) (hi : i < σ.n) (hc : c.length = 64) (hj : j < σ.n) (h : Every σ j P) (hP : j = i → P c) : Every (σ.put i c) j P := by
  have hb : (σ.put i c).line j = if j = i then c else σ.line j := splice_line (c := c) hl hi hc j hj
  have hp : (σ.put i c).past j = if j = i then σ.past i ++ [σ.line i] else σ.past j := rfl
  by_cases e : j = i
  · subst e
    rw [if_pos rfl] at hb hp
    refine ⟨by rw [hb]; exact hP rfl, fun d hd => ?_⟩
    rw [hp] at hd
    rcases List.mem_append.1 hd with h1 | h1
    · exact h.2 d h1
    · simp at h1
      rw [h1]
      exact h.1
  · rw [if_neg e] at hb hp
    exact ⟨by rw [hb]; exact h.1, fun d hd => h.2 d (by rw [hp] at hd; exact hd)⟩
theorem Every.word {bs : List Nat} {at_ no : Nat} {σ : St} {j : Nat} {P : List Nat → Prop} (hok : σ.Ok) (hi : no / 8 < σ.n) (hj : j < σ.n) (h : Every σ j P)
    (hP : j = no / 8 → P (splice (σ.line (no / 8)) (max at_ (no * 8) % 64) ((bs.drop (max at_ (no * 8) - at_)).take (8 - max at_ (no * 8) % 8)))) : Every (wordDo bs at_ σ no) j P := by
  have hl : (splice (σ.line (no / 8)) (max at_ (no * 8) % 64) ((bs.drop (max at_ (no * 8) - at_)).take (8 - max at_ (no * 8) % 8))).length = 64 := by
    have h1 := line_len hok hi
    rw [length_splice _ _ _ (by rw [h1, List.length_take]; omega), h1]
  exact Every.put (i := no / 8) hok.len hi hl hj h hP
theorem Every.flush {σ : St} {i j : Nat} {P : List Nat → Prop} (h : Every σ j P) : Every (flushDo σ i) j P := h
theorem Every.fence {σ : St} {j : Nat} {P : List Nat → Prop} (h : Every σ j P) : Every (fenceDo σ) j P := by
  refine ⟨h.1, fun c hc => h.2 c ?_⟩
  have hc : c ∈ fenP σ false j := hc
  unfold fenP at hc
  split at hc
  · rw [if_neg (by simp)] at hc
    exact List.mem_of_mem_drop hc
  · exact hc
theorem Every.lost {σ σ' : St} {kp : List Nat} {j : Nat} {P : List Nat → Prop} (hl : Lost σ kp σ') (hj : j < σ.n) (h : Every σ j P) : P (σ'.line j) := by
  rw [hl.lines j hj]
  unfold Go.Proofs.Ytgfgihpkbbjkfaa.lost
  cases hk : (σ.past j)[lostK σ kp j]? with
  | none => exact h.1
  | some c => exact h.2 c (List.mem_of_getElem? hk)
theorem Every.mono {σ : St} {j : Nat} {P Q : List Nat → Prop} (h : Every σ j P) (hpq : ∀ c, P c → Q c) : Every σ j Q := ⟨hpq _ h.1, fun c hc => hpq c (h.2 c hc)⟩
/-- A line that was flushed behind all its contents has one content behind a Fence. -/
theorem fence_one {σ : St} {j : Nat} (h : σ.fl j = some (σ.past j).length ∨ σ.past j = []) (hf : ∀ k, σ.fl j = some k → σ.past j ≠ []) : (fenceDo σ).past j = [] := by
  show fenP σ false j = []
  unfold fenP
  rcases h with h | h
  · rw [h]
    simp
  · cases hq : σ.fl j with
    | none => exact h
    | some k => exact absurd h (hf k hq)

/-- A byte that all contents of its line have. -/
def Sure (σ : St) (a x : Nat) : Prop := Every σ (a / 64) (fun c => c[a % 64]? = some x)
theorem line_get {σ : St} {i k : Nat} (hk : k < 64) : (σ.line i)[k]? = σ.bytes[64 * i + k]? := by
  unfold St.line
  rw [List.getElem?_take, if_pos hk, List.getElem?_drop]
theorem Sure.seen {σ : St} {a x : Nat} (h : Sure σ a x) : σ.bytes[a]? = some x := by
  have h1 : (σ.line (a / 64))[a % 64]? = some x := h.1
  rw [line_get (by omega), show 64 * (a / 64) + a % 64 = a by omega] at h1
  exact h1
theorem Sure.word {bs : List Nat} {at_ no : Nat} {σ : St} {a x : Nat} (hok : σ.Ok) (hi : no / 8 < σ.n) (ha : a / 64 < σ.n) (h : Sure σ a x) (hno : a < at_ ∨ at_ + bs.length ≤ a) (h8 : max at_ (no * 8) < no * 8 + 8) : Sure (wordDo bs at_ σ no) a x := by
  refine Every.word hok hi ha h (fun e => ?_)
  have h1 : (σ.line (a / 64))[a % 64]? = some x := h.1
  have hl := line_len hok hi
  have e2 : max at_ (no * 8) % 8 + (max at_ (no * 8) / 8) * 8 = max at_ (no * 8) := by omega
  have hp : ((bs.drop (max at_ (no * 8) - at_)).take (8 - max at_ (no * 8) % 8)).length = min (8 - max at_ (no * 8) % 8) (bs.length - (max at_ (no * 8) - at_)) := by rw [List.length_take, List.length_drop]
  rw [splice_get _ _ _ _ (by rw [hl, hp]; omega), hp, ← e]
  by_cases c1 : a % 64 < max at_ (no * 8) % 64
  · rw [if_pos c1]; exact h1
  · rw [if_neg c1]
    by_cases c2 : a % 64 < max at_ (no * 8) % 64 + min (8 - max at_ (no * 8) % 8) (bs.length - (max at_ (no * 8) - at_))
    · exfalso
      have q1 : max at_ (no * 8) / 64 = a / 64 := by omega
      omega
    · rw [if_neg c2]; exact h1
theorem Sure.write {bs : List Nat} {at_ : Nat} (hbs : ∀ x ∈ bs, x < 256) {a x : Nat} (hno : a < at_ ∨ at_ + bs.length ≤ a) : ∀ (nos : List Nat) (σ : St), σ.Ok → (∀ no ∈ nos, no / 8 < σ.n ∧ max at_ (no * 8) < no * 8 + 8) → σ.ops + nos.length ≤ 1400000000000 → a / 64 < σ.n → Sure σ a x → Sure (writeDo bs at_ σ nos) a x
  | [], σ, _, _, _, _, h => h
  | no :: nos, σ, hok, hn, hb, ha, h => by
    rw [List.length_cons] at hb
    obtain ⟨hi, h8⟩ := hn no (by simp)
    obtain ⟨h1, h2⟩ := word_part (at_ := at_) hbs hok hi
    have hok' : (wordDo bs at_ σ no).Ok := put_ok hok hi h1 h2 (by omega)
    exact Sure.write hbs hno nos (wordDo bs at_ σ no) hok' (fun y hy => hn y (by simp [hy])) (by show σ.ops + 1 + nos.length ≤ _; omega) ha (h.word hok hi ha hno h8)
theorem wordsOf_max {at_ n : Nat} (h : at_ + n ≤ 4194304) : ∀ no ∈ wordsOf at_ n, max at_ (no * 8) < no * 8 + 8 := by
  intro no hno
  rw [wordsOf_eq at_ n h] at hno
  split at hno
  · cases hno
  · obtain ⟨i, hi, rfl⟩ := List.mem_map.1 hno
    have := List.mem_range.1 hi
    omega
theorem Sure.store {bs : List Nat} {at_ : Nat} {σ : St} {a x : Nat} (hbs : ∀ x ∈ bs, x < 256) (hok : σ.Ok) (hlen : at_ + bs.length ≤ 64 * σ.n) (hops : σ.ops + 600000 ≤ 1400000000000) (ha : a / 64 < σ.n) (hno : a < at_ ∨ at_ + bs.length ≤ a) (h : Sure σ a x) : Sure (writeDo bs at_ σ (wordsOf at_ bs.length)) a x := by
  have hm := hok.max
  have hw := wordsOf_len (at_ := at_) (n := bs.length) (by omega)
  exact Sure.write hbs hno _ σ hok (fun no hn => ⟨wordsOf_lt hlen hm no hn, wordsOf_max (by omega) no hn⟩) (by omega) ha h
theorem Sure.lost {σ σ' : St} {kp : List Nat} {a x : Nat} (hl : Lost σ kp σ') (ha : a / 64 < σ.n) (h : Sure σ a x) : σ'.bytes[a]? = some x := by
  have h1 : (σ'.line (a / 64))[a % 64]? = some x := Every.lost (P := fun c => c[a % 64]? = some x) hl ha h
  rw [line_get (by omega), show 64 * (a / 64) + a % 64 = a by omega] at h1
  exact h1
end Go.Proofs.Ytgfgihpkbbjkfaa
namespace Go.Proofs.Ytgfgihpkbbjkfaa
open Go.RowKit Go.Shelf
set_option linter.unusedVariables false

/-- A pointer to what is no device, or one that is off, in every world that keeps w. -/
def BadD (w : World) (p : Value) (c : Int) : Prop := c ≠ 0 ∧ ∀ W, Below w.heap.size w W → Calls Try.prog 37 #[p] W fun e w' => e = .returned (.int .i64 c) ∧ w' = W
theorem BadD.below {w W : World} {p : Value} {c : Int} (h : BadD w p c) (hB : Below w.heap.size w W) : BadD W p c := ⟨h.1, fun W' hB' => h.2 W' (hB.trans (hB'.mono hB.size))⟩
theorem BadD.of_none {w : World} {p : Option Addr} (h : ∀ W, Below w.heap.size w W → Calls Try.prog 26 #[.pointer p] W fun e w' => e = .returned (.bool true) ∧ w' = W) : BadD w (.pointer p) 1 := ⟨by omega, fun W hB => by
  have KN := hide (h W hB)
  clear h hB
  go_enter Try.func37, Try.ntmps37
  go_wp2_with (go_at_call 26; refine (KN.out).mono ?_; rintro e w' ⟨rfl, hw⟩; obtain rfl := hw.symm)
  go_ret
  exact ⟨rfl, rfl⟩⟩
theorem BadD.nil (w : World) : BadD w (.pointer none) 1 := BadD.of_none fun W _ => by
  go_enter Try.func26, Try.ntmps26
  go_wp2
  go_ret
  exact ⟨rfl, rfl⟩
theorem neq_nilQ (a : Addr) (w : World) : (binOp .neq 28 (.pointer none) (.pointer (some a))).run Try.prog w = .ok (.bool true) w := by
  have h : ∀ d : Nat, (Op.equalIn (d + 1) 28 (.pointer none) (.pointer (some a))).run Try.prog w = .ok false w := fun d => by
    simp [Op.equalIn, run_underlying Try.underlying28]
  simp only [binOp]
  simp [Op.equal, Op.maxDepth, h 9999]
theorem BadD.zero {w : World} {b : Nat} {c1 c2 c3 c4 c5 c6 c7 : Value} (h : w.heap[b]? = some (.cells #[.pointer none, c1, c2, c3, c4, c5, c6, c7] 69 (0, 0))) : BadD w (.pointer (some ⟨b, 0, none⟩)) 1 := BadD.of_none fun W hB => by
  have c0 : W.cell? ⟨b, 0, none⟩ = some (.pointer none) := cell8 ((hB.block b (lt_of_heap h)).trans h) 0
  have hq := neq_nilQ ⟨b, 0, none⟩ W
  clear h hB
  go_enter Try.func26, Try.ntmps26
  go_wp2
  go_ret
  exact ⟨rfl, rfl⟩
theorem BadD.off {w : World} {b : Nat} {L : Lay} {σ : St} (h : DevL w b L σ) (ho : σ.off = true) : BadD w (.pointer (some ⟨b, 0, none⟩)) 5 := ⟨by omega, fun W hB => by
  have ks := pstate_any (h.below hB)
  rw [ho] at ks
  simp only [if_true] at ks
  exact ks⟩
section
variable {w : World} {p : Option Addr} {c : Int}
theorem bad_load (h : BadD w (.pointer p) c) (x y : Int) : Calls Try.prog 21 #[.pointer p, .int .i64 x, .int .i64 y] w fun e w' => e = .returned (.tuple #[.slice none 0 0, .int .i64 c]) ∧ Below w.heap.size w w' := by
  have hA : Below w.heap.size w ((w.alloc (.cells #[.pointer p] 28)).alloc (.cells #[.int .i64 x] 3)) := ((Below.refl _ w).alloc (Nat.le_refl _) _).alloc (by simp) _
  have KS := hide (h.2 _ hA)
  have HA := hide hA
  have hc : (c != 0) = true := by simpa using h.1
  clear h hA
  refine (callsIn_wide (n := 3)).1 ?_
  refine callsIn_of_wp_marks Try.func21 rfl trivial ?_ rfl
  simp only [Try.ntmps21, List.size_toArray, List.length_cons, List.length_nil, Nat.reduceAdd, Nat.reduceSub, Array.replicate_succ, Array.replicate_zero, List.push_toArray, List.append_toArray, List.nil_append, List.cons_append]
  gi_wp2_with (refine ⟨trivial, ?_⟩; gi_at_call 37; refine (inW KS.out).mono ?_; rintro e w' ⟨rfl, hw⟩; obtain rfl := hw)
  exact ⟨_, results_tmp2 rfl _ _ _, rfl, HA.out⟩
theorem bad_turn (h : BadD w (.pointer p) c) (x y : Int) (sl : Value) (W : World) (hB : Below w.heap.size w W) : Calls Try.prog 57 #[.agg #[.pointer p, .int .i64 x, .int .i64 y], sl] W fun e w' => e = .returned (.int .i64 c) ∧ Below W.heap.size W w' :=
  qturn_early (.pointer p) c x y sl (fun W' hB' => (bad_load (h.below (hB.trans (hB'.mono hB.size))) 0 0).mono (fun e w' ⟨h1, h2⟩ => ⟨_, h1, h2⟩)) (.inl h.1)
theorem bad_range (h : BadD w (.pointer p) c) (x y : Int) : Calls Try.prog 32 #[.pointer p, .int .i64 x, .int .i64 y] w fun e w' => e = .returned (.int .i64 c) ∧ Below w.heap.size w w' := by
  have KT := hide (fun sl W hB => bad_turn h x y sl W hB)
  clear h
  go_enter Try.func32, Try.ntmps32
  go_wp2_with (go_at_call 57; refine (KT.out _ _ ?hb).mono ?_; (case hb => exact ((Below.refl _ w).alloc (Nat.le_refl _) _).alloc (by simp) _); rintro e W1 ⟨rfl, hb1⟩; have HB1 := hide hb1; clear hb1)
  go_ret
  exact ⟨rfl, (((Below.refl _ w).alloc (Nat.le_refl _) _).alloc (by simp) _).trans (HB1.out.mono (by simp; omega))⟩
theorem bad_publish (h : BadD w (.pointer p) c) (x : Int) (v : Int) : Calls Try.prog 59 #[.pointer p, .int .i64 x, .int .u64 v] w fun e w' => e = .returned (.int .i64 c) ∧ Below w.heap.size w w' := by
  have KT := hide (fun sl W hB => bad_turn h x 8 sl W hB)
  clear h
  go_enter Try.func59, Try.ntmps59
  go_wp2_with (go_at_call 57; refine (KT.out _ _ ?hb).mono ?_; (case hb => exact ((Below.refl _ w).alloc (Nat.le_refl _) _).alloc (by simp) _); rintro e W1 ⟨rfl, hb1⟩; have HB1 := hide hb1; clear hb1)
  go_ret
  exact ⟨rfl, (((Below.refl _ w).alloc (Nat.le_refl _) _).alloc (by simp) _).trans (HB1.out.mono (by simp; omega))⟩
end

section
variable {w : World} {b : Nat} {L : Lay} {σ : St}
theorem no_turn (h : DevL w b L σ) (hok : σ.Ok) (ho : σ.off = false) (x y : Int) (hy : y < 1) (sl : Value) (W : World) (hB : Below w.heap.size w W) : Calls Try.prog 57 #[.agg #[.pointer (some ⟨b, 0, none⟩), .int .i64 x, .int .i64 y], sl] W fun e w' => e = .returned (.int .i64 0) ∧ Below W.heap.size W w' :=
  qturn_early (.pointer (some ⟨b, 0, none⟩)) 0 x y sl (fun W' hB' => (callsIn_wide.1 (pload_in (at_ := 0) (n := 0) (h.below (hB.trans (hB'.mono hB.size))) hok ho (by omega))).mono (fun e w' ⟨R, h1, _, _, h2⟩ => ⟨_, h1, h2⟩)) (.inr hy)
theorem no_range (h : DevL w b L σ) (hok : σ.Ok) (ho : σ.off = false) (x y : Int) (hy : y < 1) : Calls Try.prog 32 #[.pointer (some ⟨b, 0, none⟩), .int .i64 x, .int .i64 y] w fun e w' => e = .returned (.int .i64 0) ∧ Below w.heap.size w w' := by
  have KT := hide (fun sl W hB => no_turn h hok ho x y hy sl W hB)
  clear h hok ho hy
  go_enter Try.func32, Try.ntmps32
  go_wp2_with (go_at_call 57; refine (KT.out _ _ ?hb).mono ?_; (case hb => exact ((Below.refl _ w).alloc (Nat.le_refl _) _).alloc (by simp) _); rintro e W1 ⟨rfl, hb1⟩; have HB1 := hide hb1; clear hb1)
  go_ret
  exact ⟨rfl, (((Below.refl _ w).alloc (Nat.le_refl _) _).alloc (by simp) _).trans (HB1.out.mono (by simp; omega))⟩
end
end Go.Proofs.Ytgfgihpkbbjkfaa
namespace Go.Proofs.Ytgfgihpkbbjkfaa
open Go.RowKit
set_option linter.unusedVariables false

end Go.Proofs.Ytgfgihpkbbjkfaa
namespace Go.Proofs.Ytgfgihpkbbjkfaa
open Go.RowKit Go.Shelf
set_option linter.unusedVariables false

theorem qfbytes64 (x : Int) (v : Nat) (w : World) (hv : v < 18446744073709551616) : Calls Try.prog 84 #[.agg #[.int .i64 x], .int .u64 (v : Int)] w fun e w' => ∃ g, e = .returned (.slice (some ⟨g, 0, none⟩) 8 8) ∧ w.heap.size ≤ g ∧ OwnB w' g (leB 8 v) ∧ Below w.heap.size w w' := by
  have kp : ∀ W, Calls Try.prog 86 #[.slice none 0 0, .int .u64 (v : Int)] W fun e w' => e = .returned (.slice (some ⟨W.heap.size, 0, none⟩) 8 8) ∧ Below W.heap.size W w' ∧ OwnB w' W.heap.size (leB 8 v) := fun W => put64 none 0 v [] W (.inl rfl) (by simp) hv
  have KP := hide kp
  have hA : Below w.heap.size w (w.alloc (.cells #[.int .i64 x] 128)) := (Below.refl _ w).alloc (Nat.le_refl _) _
  have HA := hide hA
  clear kp hA
  go_enter Try.func84, Try.ntmps84
  go_wp2_with (go_at_call 86; refine (KP.out _).mono ?_; rintro e W1 ⟨rfl, hb1, ho1⟩; have HB1 := hide hb1; have HO1 := hide ho1; clear hb1 ho1)
  go_ret
  exact ⟨w.heap.size + 1, rfl, by omega, (by have h := HO1.out; rwa [World.size_alloc] at h), HA.out.trans (HB1.out.mono HA.out.size)⟩
set_option maxHeartbeats 400000 in
theorem qbfload64 {w : World} {p : Option Addr} {c : Int} (h : BadD w (.pointer p) c) (x : Int) : Calls Try.prog 70 #[.agg #[.int .i64 x], .pointer p] w fun e w' => e = .returned (.tuple #[.int .u64 0, .int .i64 c]) ∧ Below w.heap.size w w' := by
  have hA : Below w.heap.size w (w.alloc (.cells #[.int .i64 x] 128)) := (Below.refl _ w).alloc (Nat.le_refl _) _
  have mk : ∀ X, Below (w.alloc (.cells #[.int .i64 x] 128)).heap.size (w.alloc (.cells #[.int .i64 x] 128)) X → Below (w.alloc (.cells #[.int .i64 x] 128)).heap.size (w.alloc (.cells #[.int .i64 x] 128)) X ∧ X.cell? ⟨w.heap.size, 0, none⟩ = some (.int .i64 x) := fun X hX => ⟨hX, cell8 ((hX.block _ (by simp)).trans (heap_alloc_new w _)) 0⟩
  have HA := hide hA
  have MK := hide mk
  clear hA mk
  have HBAD := hide h
  have hc : (c != 0) = true := by simpa using h.1
  clear h
  go_enter Try.func70, Try.ntmps70
  go_wp2_with (fail)
  refine wp_region_held_drew (S := fun X => Below (w.alloc (.cells #[.int .i64 x] 128)).heap.size (w.alloc (.cells #[.int .i64 x] 128)) X ∧ X.cell? ⟨w.heap.size, 0, none⟩ = some (.int .i64 x)) (by kernel_rfl) (MK.out _ (Below.refl _ _).drew) (fun hS => ?_)
  refine wpAnyH_take (i := 0) (v := (.pointer p)) rfl (by kernel_rfl) (by kernel_rfl) (by kernel_rfl) (fun _ _ _ h => h) (Or.inl ⟨by kernel_rfl, fun w' hw => by (go_simp)⟩) hS ?_
  refine wpAnyH_take (i := 1) (v := (.pointer (some ⟨w.heap.size, 0, none⟩))) rfl (by kernel_rfl) (by kernel_rfl) (by kernel_rfl) (fun _ _ _ h => h) (Or.inl ⟨by kernel_rfl, fun w' hw => by (go_simp)⟩) hS ?_
  refine wpAnyH_take (i := 2) (v := (.int .i64 x)) rfl (by kernel_rfl) (by kernel_rfl) (by kernel_rfl) (fun _ _ _ h => h) (Or.inl ⟨by kernel_rfl, fun w' hw => by (obtain ⟨_, z0⟩ := hw; go_simp)⟩) hS ?_
  refine wpAnyH_take (i := 3) (v := (.agg #[.int .i64 x])) rfl (by kernel_rfl) (by kernel_rfl) (by kernel_rfl) (fun _ _ _ h => h) (Or.inl ⟨by kernel_rfl, fun w' hw => by (obtain ⟨_, z0⟩ := hw; go_simp)⟩) hS ?_
  refine wpAnyH_ready (rs := [4]) (by kernel_rfl) (by simp) ?_
  refine AllReadyH.cons rfl (fun K hK => ?_) AllReadyH.nil
  rw [if_pos (by kernel_rfl)]
  go_simp
  go_wp2_with (go_at_call 84; refine (qfbytes64 x 0 _ (by omega)).mono ?_; rintro e W3 ⟨g, rfl, _, _, hb3⟩)
  have hw3 := bseq (Below.refl _ (w.alloc (.cells #[.int .i64 x] 128))).drew hb3
  refine hK.out _ _ (MK.out _ hw3) (fun hS2 => ?_)
  clear hK K hb3
  refine wpAnyH_take (i := 5) (v := (.int .i64 8)) rfl (by kernel_rfl) (by kernel_rfl) (by kernel_rfl) (fun _ _ _ h => h) (Or.inl ⟨by kernel_rfl, fun w' hw => by (go_simp)⟩) hS2 ?_
  refine wpAnyH_ready (rs := [6]) (by kernel_rfl) (by simp) ?_
  refine AllReadyH.cons rfl (fun K hK => ?_) AllReadyH.nil
  rw [if_pos (by kernel_rfl)]
  go_simp
  go_wp2_with (go_at_call 21; refine (bad_load (HBAD.out.below (HA.out.trans (hw3.mono HA.out.size))) x 8).mono ?_; rintro e W4 ⟨rfl, hb4⟩)
  have hw4 := bseq hw3 hb4
  refine hK.out _ _ (MK.out _ hw4) (fun hS3 => ?_)
  clear hK K hb4
  refine wpAnyH_take (i := 7) (v := (.tuple #[(.slice none 0 0), .int .i64 c])) rfl (by kernel_rfl) (by kernel_rfl) (by kernel_rfl) (fun _ _ _ h => h) (Or.inl ⟨by kernel_rfl, fun w' hw => by (go_simp)⟩) hS3 ?_
  refine wpAnyH_take (i := 8) (v := (.slice none 0 0)) rfl (by kernel_rfl) (by kernel_rfl) (by kernel_rfl) (fun _ _ _ h => h) (Or.inl ⟨by kernel_rfl, fun w' hw => by (go_simp)⟩) hS3 ?_
  refine wpAnyH_take (i := 9) (v := (.int .i64 c)) rfl (by kernel_rfl) (by kernel_rfl) (by kernel_rfl) (fun _ _ _ h => h) (Or.inl ⟨by kernel_rfl, fun w' hw => by (go_simp)⟩) hS3 ?_
  refine wpAnyH_take (i := 10) (v := (.slice none 0 0)) rfl (by kernel_rfl) (by kernel_rfl) (by kernel_rfl) (fun _ _ _ h => h) (Or.inl ⟨by kernel_rfl, fun w' hw => by (go_simp)⟩) hS3 ?_
  refine wpAnyH_take (i := 11) (v := (.int .i64 c)) rfl (by kernel_rfl) (by kernel_rfl) (by kernel_rfl) (fun _ _ _ h => h) (Or.inl ⟨by kernel_rfl, fun w' hw => by (go_simp)⟩) hS3 ?_
  refine wpAnyH_done (by kernel_rfl) ?_ _
  simp only [Act.put, List.getElem_toArray, List.getElem_cons_zero, List.getElem_cons_succ, List.setIfInBounds_toArray, List.set_cons_zero, List.set_cons_succ]
  have HW4 := hide (HA.out.trans (hw4.mono HA.out.size))
  clear hw3 hw4 hS hS2 hS3
  go_wp2_with (fail)
  go_ret2
  exact ⟨rfl, HW4.out⟩
set_option maxHeartbeats 400000 in
theorem qfload64 {w : World} {p : Option Addr} (x : Int) (bs : List Nat) (hl : bs.length = 8) (hbs : ∀ y ∈ bs, y < 256) (kl : ∀ W, Below w.heap.size w W → Calls Try.prog 21 #[.pointer p, .int .i64 x, .int .i64 8] W fun e w' => ∃ R, e = .returned (.tuple #[.slice (some ⟨R, 0, none⟩) 8 8, .int .i64 0]) ∧ OwnB w' R bs ∧ Below W.heap.size W w') : Calls Try.prog 70 #[.agg #[.int .i64 x], .pointer p] w fun e w' => e = .returned (.tuple #[.int .u64 (leV bs : Nat), .int .i64 0]) ∧ Below w.heap.size w w' := by
  have hA : Below w.heap.size w (w.alloc (.cells #[.int .i64 x] 128)) := (Below.refl _ w).alloc (Nat.le_refl _) _
  have mk : ∀ X, Below (w.alloc (.cells #[.int .i64 x] 128)).heap.size (w.alloc (.cells #[.int .i64 x] 128)) X → Below (w.alloc (.cells #[.int .i64 x] 128)).heap.size (w.alloc (.cells #[.int .i64 x] 128)) X ∧ X.cell? ⟨w.heap.size, 0, none⟩ = some (.int .i64 x) := fun X hX => ⟨hX, cell8 ((hX.block _ (by simp)).trans (heap_alloc_new w _)) 0⟩
  have HA := hide hA
  have MK := hide mk
  clear hA mk
  have KL := hide kl
  have HLN := hide hl
  have HBS := hide hbs
  clear kl hl hbs
  go_enter Try.func70, Try.ntmps70
  go_wp2_with (fail)
  refine wp_region_held_drew (S := fun X => Below (w.alloc (.cells #[.int .i64 x] 128)).heap.size (w.alloc (.cells #[.int .i64 x] 128)) X ∧ X.cell? ⟨w.heap.size, 0, none⟩ = some (.int .i64 x)) (by kernel_rfl) (MK.out _ (Below.refl _ _).drew) (fun hS => ?_)
  refine wpAnyH_take (i := 0) (v := (.pointer p)) rfl (by kernel_rfl) (by kernel_rfl) (by kernel_rfl) (fun _ _ _ h => h) (Or.inl ⟨by kernel_rfl, fun w' hw => by (go_simp)⟩) hS ?_
  refine wpAnyH_take (i := 1) (v := (.pointer (some ⟨w.heap.size, 0, none⟩))) rfl (by kernel_rfl) (by kernel_rfl) (by kernel_rfl) (fun _ _ _ h => h) (Or.inl ⟨by kernel_rfl, fun w' hw => by (go_simp)⟩) hS ?_
  refine wpAnyH_take (i := 2) (v := (.int .i64 x)) rfl (by kernel_rfl) (by kernel_rfl) (by kernel_rfl) (fun _ _ _ h => h) (Or.inl ⟨by kernel_rfl, fun w' hw => by (obtain ⟨_, z0⟩ := hw; go_simp)⟩) hS ?_
  refine wpAnyH_take (i := 3) (v := (.agg #[.int .i64 x])) rfl (by kernel_rfl) (by kernel_rfl) (by kernel_rfl) (fun _ _ _ h => h) (Or.inl ⟨by kernel_rfl, fun w' hw => by (obtain ⟨_, z0⟩ := hw; go_simp)⟩) hS ?_
  refine wpAnyH_ready (rs := [4]) (by kernel_rfl) (by simp) ?_
  refine AllReadyH.cons rfl (fun K hK => ?_) AllReadyH.nil
  rw [if_pos (by kernel_rfl)]
  go_simp
  go_wp2_with (go_at_call 84; refine (qfbytes64 x 0 _ (by omega)).mono ?_; rintro e W3 ⟨g, rfl, _, _, hb3⟩)
  have hw3 := bseq (Below.refl _ (w.alloc (.cells #[.int .i64 x] 128))).drew hb3
  refine hK.out _ _ (MK.out _ hw3) (fun hS2 => ?_)
  clear hK K hb3
  refine wpAnyH_take (i := 5) (v := (.int .i64 8)) rfl (by kernel_rfl) (by kernel_rfl) (by kernel_rfl) (fun _ _ _ h => h) (Or.inl ⟨by kernel_rfl, fun w' hw => by (go_simp)⟩) hS2 ?_
  refine wpAnyH_ready (rs := [6]) (by kernel_rfl) (by simp) ?_
  refine AllReadyH.cons rfl (fun K hK => ?_) AllReadyH.nil
  rw [if_pos (by kernel_rfl)]
  go_simp
  go_wp2_with (go_at_call 21; refine (KL.out W3 (HA.out.trans (hw3.mono HA.out.size))).mono ?_; rintro e W4 ⟨R, rfl, hR, hb4⟩)
  have hw4 := bseq hw3 hb4
  refine hK.out _ _ (MK.out _ hw4) (fun hS3 => ?_)
  clear hK K hb4
  refine wpAnyH_take (i := 7) (v := (.tuple #[(.slice (some ⟨R, 0, none⟩) 8 8), .int .i64 0])) rfl (by kernel_rfl) (by kernel_rfl) (by kernel_rfl) (fun _ _ _ h => h) (Or.inl ⟨by kernel_rfl, fun w' hw => by (go_simp)⟩) hS3 ?_
  refine wpAnyH_take (i := 8) (v := (.slice (some ⟨R, 0, none⟩) 8 8)) rfl (by kernel_rfl) (by kernel_rfl) (by kernel_rfl) (fun _ _ _ h => h) (Or.inl ⟨by kernel_rfl, fun w' hw => by (go_simp)⟩) hS3 ?_
  refine wpAnyH_take (i := 9) (v := (.int .i64 0)) rfl (by kernel_rfl) (by kernel_rfl) (by kernel_rfl) (fun _ _ _ h => h) (Or.inl ⟨by kernel_rfl, fun w' hw => by (go_simp)⟩) hS3 ?_
  refine wpAnyH_take (i := 10) (v := (.slice (some ⟨R, 0, none⟩) 8 8)) rfl (by kernel_rfl) (by kernel_rfl) (by kernel_rfl) (fun _ _ _ h => h) (Or.inl ⟨by kernel_rfl, fun w' hw => by (go_simp)⟩) hS3 ?_
  refine wpAnyH_take (i := 11) (v := (.int .i64 0)) rfl (by kernel_rfl) (by kernel_rfl) (by kernel_rfl) (fun _ _ _ h => h) (Or.inl ⟨by kernel_rfl, fun w' hw => by (go_simp)⟩) hS3 ?_
  refine wpAnyH_done (by kernel_rfl) ?_ _
  simp only [Act.put, List.getElem_toArray, List.getElem_cons_zero, List.getElem_cons_succ, List.setIfInBounds_toArray, List.set_cons_zero, List.set_cons_succ]
  have HW4 := hide (HA.out.trans (hw4.mono HA.out.size))
  clear hw3 hw4 hS hS2 hS3
  have kt := take64_good (some ⟨R, 0, none⟩) 8 0 bs W4 (hR.sl HBS.out) (by rw [HLN.out]; unfold maxLen; omega) (by rw [HLN.out]; omega)
  rw [HLN.out, List.drop_zero, List.take_of_length_le (by rw [HLN.out]; omega)] at kt
  have KT := hide kt
  clear kt hR
  go_wp2_with (go_at_call 85; refine (KT.out).mono ?_; rintro e w1 ⟨rfl, hw⟩; obtain rfl := hw.symm)
  go_ret2
  exact ⟨rfl, HW4.out⟩
end Go.Proofs.Ytgfgihpkbbjkfaa
namespace Go.Proofs.Ytgfgihpkbbjkfaa
open Go.RowKit Go.Shelf
set_option linter.unusedVariables false

theorem qbword {w : World} {p : Option Addr} {c : Int} (h : BadD w (.pointer p) c) (x : Int) : Calls Try.prog 52 #[.pointer p, .int .i64 x] w fun e w' => e = .returned (.tuple #[.int .u64 0, .int .i64 c]) ∧ Below w.heap.size w w' := by
  have hc : (c == 0) = false := by simpa using h.1
  have KL := hide (qbfload64 h x)
  clear h
  go_enter Try.func52, Try.ntmps52
  go_wp2_with (go_at_call 70; refine (KL.out).mono ?_; rintro e W1 ⟨rfl, hb1⟩; have HB1 := hide hb1; clear hb1)
  go_ret2
  exact ⟨rfl, HB1.out⟩
theorem qword {w : World} {p : Option Addr} (x : Int) (hx : x % 8 = 0) (hx0 : 0 ≤ x) (bs : List Nat) (hl : bs.length = 8) (hbs : ∀ y ∈ bs, y < 256) (kl : ∀ W, Below w.heap.size w W → Calls Try.prog 21 #[.pointer p, .int .i64 x, .int .i64 8] W fun e w' => ∃ R, e = .returned (.tuple #[.slice (some ⟨R, 0, none⟩) 8 8, .int .i64 0]) ∧ OwnB w' R bs ∧ Below W.heap.size W w') : Calls Try.prog 52 #[.pointer p, .int .i64 x] w fun e w' => e = .returned (.tuple #[.int .u64 (leV bs : Nat), .int .i64 0]) ∧ Below w.heap.size w w' := by
  have KL := hide (qfload64 x bs hl hbs kl)
  have tm : x.tmod 8 = 0 := by rw [Int.tmod_eq_emod_of_nonneg hx0]; exact hx
  clear kl
  go_enter Try.func52, Try.ntmps52
  go_wp2_with (go_at_call 70; refine (KL.out).mono ?_; rintro e W1 ⟨rfl, hb1⟩; have HB1 := hide hb1; clear hb1)
  go_ret2
  exact ⟨rfl, HB1.out⟩
/-- A device that was laid since w, and nothing else has changed. -/
structure AtQ (w W : World) (b : Nat) (L : Lay) (σ : St) : Prop where
  dev : DevL W b L σ
  ok : σ.Ok
  num : L.N ≤ σ.ops
  foot : ∀ k, Foot b L σ k → w.heap.size ≤ k
  bel : Below w.heap.size w W
theorem AtQ.step {w W W' : World} {b : Nat} {L L' : Lay} {σ σ' : St} (h : AtQ w W b L σ) (hd : DevL W' b L' σ') (hok : σ'.Ok) (hf : ∀ k, Foot b L' σ' k → Foot b L σ k ∨ W.heap.size ≤ k) {X : Nat → Prop} (hX : ∀ k, X k → Foot b L σ k) (hg : Gr X W W') (hN : L'.N ≤ σ'.ops) : AtQ w W' b L' σ' := by
  refine ⟨hd, hok, hN, fun k hk => ?_, hg.1.trans h.bel.os, hg.2.1.trans h.bel.tape, hg.2.2.1.trans h.bel.output, Nat.le_trans h.bel.size hg.size, fun k hk => (hg.block (Nat.lt_of_lt_of_le hk h.bel.size) (fun hx => by have := h.foot k (hX k hx); omega)).trans (h.bel.block k hk)⟩
  rcases hf k hk with h1 | h1
  · exact h.foot k h1
  · exact Nat.le_trans h.bel.size h1
theorem AtQ.below {w W W' : World} {b : Nat} {L : Lay} {σ : St} (h : AtQ w W b L σ) (hB : Below W.heap.size W W') : AtQ w W' b L σ := ⟨h.dev.below hB, h.ok, h.num, h.foot, h.bel.trans (hB.mono h.bel.size)⟩
theorem AtQ.atd {w W W' : World} {b : Nat} {L : Lay} {σ σ' : St} {m : Nat} (h : AtQ w W b L σ) (ha : Atd W b L σ W' σ' m) (hok : σ'.Ok) (hN : σ.ops + m ≤ σ'.ops) : ∃ L', AtQ w W' b L' σ' := by
  obtain ⟨hg, L', hd, hf, hn⟩ := ha
  exact ⟨L', h.step hd hok hf (fun k hk => hk) hg (by have := h.num; omega)⟩
/-- What stays as it is when bytes are made to last. -/
theorem bytes_like {bs : List Nat} {at_ : Nat} {σ : St} (hbs : ∀ x ∈ bs, x < 256) (hok : σ.Ok) (hlen : at_ + bs.length ≤ 64 * σ.n) (hops : σ.ops + 2000000 ≤ 1400000000000) :
    (bytesDo bs at_ σ).Ok ∧ (bytesDo bs at_ σ).n = σ.n ∧ (bytesDo bs at_ σ).ops = σ.ops + (wordsOf at_ bs.length).length + (linesOf at_ bs.length).length + 1 ∧ (bytesDo bs at_ σ).arms = σ.arms ∧ (bytesDo bs at_ σ).off = σ.off := by
  have hm := hok.max
  have hwl := wordsOf_len (at_ := at_) (n := bs.length) (by omega)
  have hll := linesOf_len (at_ := at_) (n := bs.length) (by omega)
  have hlk := write_like (at_ := at_) hbs (wordsOf at_ bs.length) σ hok (wordsOf_lt hlen hm) (by omega)
  obtain ⟨j1, j2, j3, j4, j5, _⟩ := lines_like (linesOf at_ bs.length) (writeDo bs at_ σ (wordsOf at_ bs.length)) hlk.ok (by rw [hlk.ops]; omega)
  rw [hlk.ops] at j3
  exact ⟨fence_ok j1 (by rw [j3]; omega), j2.trans hlk.n, by show (linesDo _ _).ops + 1 = _; rw [j3], j4.trans hlk.arms, j5.trans hlk.off⟩
def ones : List Nat := [1, 1, 1, 1, 1, 1, 1, 1]
def q1 : St := bytesDo ones 60 (newD 2)
def q2 : St := bytesDo (leB 8 258) 8 q1
theorem wQ60 : wordsOf 60 8 = [7, 8] := by rw [wordsOf_eq 60 8 (by omega)]; rfl
theorem wQ8 : wordsOf 8 8 = [1] := by rw [wordsOf_eq 8 8 (by omega)]; rfl
theorem lQ60 : linesOf 60 8 = [0, 1] := by decide +kernel
theorem lQ8 : linesOf 8 8 = [0] := by decide +kernel
theorem ones_lt : ∀ x ∈ ones, x < 256 := by decide
theorem q1_like : q1.Ok ∧ q1.n = 2 ∧ q1.ops = 5 ∧ q1.arms = [] ∧ q1.off = false := by
  obtain ⟨h1, h2, h3, h4, h5⟩ := bytes_like (bs := ones) (at_ := 60) (σ := newD 2) ones_lt (newD_ok (by omega) (by omega)) (by decide) (by show 0 + 2000000 ≤ _; omega)
  have e : ones.length = 8 := rfl
  rw [e, wQ60, lQ60] at h3
  exact ⟨h1, h2, h3, h4, h5⟩
theorem q2_like : q2.Ok ∧ q2.n = 2 ∧ q2.ops = 8 ∧ q2.arms = [] ∧ q2.off = false := by
  obtain ⟨g1, g2, g3, g4, g5⟩ := q1_like
  obtain ⟨h1, h2, h3, h4, h5⟩ := bytes_like (bs := leB 8 258) (at_ := 8) (σ := q1) (leB_lt 8 258) g1 (by rw [leB_length, g2]; omega) (by rw [g3]; omega)
  rw [leB_length, wQ8, lQ8, g3] at h3
  exact ⟨h1, h2.trans g2, h3, h4.trans g4, h5.trans g5⟩
theorem q2_eq : q2 = fenceDo (flushDo (wordDo (leB 8 258) 8 (fenceDo (flushDo (flushDo (wordDo ones 60 (wordDo ones 60 (newD 2) 7) 8) 0) 1)) 1) 0) := by
  have e : ones.length = 8 := rfl
  unfold q2 q1 bytesDo
  rw [leB_length, e, wQ60, lQ60, wQ8, lQ8]
  rfl
def lineQ : List Nat := [0, 0, 0, 0, 0, 0, 0, 0, 2, 1, 0, 0, 0, 0, 0, 0, 0, 0, 0, 0, 0, 0, 0, 0, 0, 0, 0, 0, 0, 0, 0, 0, 0, 0, 0, 0, 0, 0, 0, 0, 0, 0, 0, 0, 0, 0, 0, 0, 0, 0, 0, 0, 0, 0, 0, 0, 0, 0, 0, 0, 1, 1, 1, 1]
theorem q2_lost : lost q2 [] 0 = lineQ := by
  rw [q2_eq]
  kernel_rfl
end Go.Proofs.Ytgfgihpkbbjkfaa
namespace Go.Proofs.Ytgfgihpkbbjkfaa
open Go.RowKit Go.Shelf
set_option linter.unusedVariables false

theorem linesOf_eq (at_ n : Nat) (h : at_ + n ≤ 4194304) : linesOf at_ n = if n = 0 then [] else (List.range ((at_ + n - 1) / 64 - at_ / 64 + 1)).map (at_ / 64 + ·) := by
  unfold linesOf unitsV
  by_cases h0 : n = 0
  · rw [if_pos (by omega), if_pos h0]; rfl
  · rw [if_neg (by omega), if_neg h0]
    unfold upto
    rw [List.map_map]
    have e1 : (((at_ : Int) + n - 1) / 64 - (at_ : Int) / 64 + 1).toNat = (at_ + n - 1) / 64 - at_ / 64 + 1 := by omega
    rw [e1]
    refine List.map_congr_left fun i _ => ?_
    simp only [Function.comp]
    omega
theorem mem_linesOf {at_ n i : Nat} (h : at_ + n ≤ 4194304) (hi : i < n) : (at_ + i) / 64 ∈ linesOf at_ n := by
  rw [linesOf_eq at_ n h, if_neg (by omega)]
  refine List.mem_map.2 ⟨(at_ + i) / 64 - at_ / 64, List.mem_range.2 (by omega), by omega⟩
/-- A line whose contents but the last one go with the next Fence. -/
def Due (σ : St) (j : Nat) : Prop := σ.fl j = some (σ.past j).length ∨ σ.past j = []
theorem Due.flush {σ : St} {i j : Nat} (h : j = i ∨ Due σ j) : Due (flushDo σ i) j := by
  show (if j = i ∧ σ.past i ≠ [] then some (σ.past i).length else σ.fl j) = some (σ.past j).length ∨ σ.past j = []
  by_cases e : j = i
  · subst e
    by_cases hp : σ.past j = []
    · exact .inr hp
    · rw [if_pos ⟨rfl, hp⟩]; exact .inl rfl
  · rw [if_neg (fun h => e h.1)]
    exact h.resolve_left e
theorem Due.lines : ∀ (ls : List Nat) (σ : St) (j : Nat), (j ∈ ls ∨ Due σ j) → Due (linesDo σ ls) j
  | [], σ, j, h => h.resolve_left (by simp)
  | i :: ls, σ, j, h => by
    refine Due.lines ls (flushDo σ i) j ?_
    rcases h with h | h
    · rcases List.mem_cons.1 h with h | h
      · exact .inr (Due.flush (.inl h))
      · exact .inl h
    · exact .inr (Due.flush (.inr h))
theorem bytes_sure {bs : List Nat} {at_ : Nat} {σ : St} (hbs : ∀ x ∈ bs, x < 256) (hok : σ.Ok) (hlen : at_ + bs.length ≤ 64 * σ.n) (hops : σ.ops + 2000000 ≤ 1400000000000) {i x : Nat} (hx : bs[i]? = some x) : Sure (bytesDo bs at_ σ) (at_ + i) x := by
  have hm := hok.max
  have hol := hok.len
  have hi : i < bs.length := (List.getElem?_eq_some_iff.1 hx).1
  have hwl := wordsOf_len (at_ := at_) (n := bs.length) (by omega)
  have hll := linesOf_len (at_ := at_) (n := bs.length) (by omega)
  have hlk := write_like (at_ := at_) hbs (wordsOf at_ bs.length) σ hok (wordsOf_lt hlen hm) (by omega)
  obtain ⟨j1, j2, j3, j4, j5, j6, j7, _⟩ := lines_like (linesOf at_ bs.length) (writeDo bs at_ σ (wordsOf at_ bs.length)) hlk.ok (by rw [hlk.ops]; omega)
  have hsb := store_bytes (at_ := at_) hbs hok hlen (by omega)
  have hd := Due.lines (linesOf at_ bs.length) (writeDo bs at_ σ (wordsOf at_ bs.length)) ((at_ + i) / 64) (.inl (mem_linesOf (by omega) hi))
  have hp : (bytesDo bs at_ σ).past ((at_ + i) / 64) = [] := fence_one hd (fun k hk => (j1.flp _ k hk).2)
  have hb : (bytesDo bs at_ σ).bytes = splice σ.bytes at_ bs := by
    show (linesDo _ _).bytes = _
    rw [j6, hsb]
  refine ⟨?_, fun c hc => by rw [hp] at hc; cases hc⟩
  show ((bytesDo bs at_ σ).line ((at_ + i) / 64))[(at_ + i) % 64]? = some x
  rw [line_get (by omega), show 64 * ((at_ + i) / 64) + (at_ + i) % 64 = at_ + i by omega, hb, splice_get _ _ _ _ (by omega), if_neg (by omega), if_pos (by omega), show at_ + i - at_ = i by omega]
  exact hx
end Go.Proofs.Ytgfgihpkbbjkfaa
namespace Go.Proofs.Ytgfgihpkbbjkfaa
open Go.RowKit
set_option linter.unusedVariables false

theorem wordsLine (i : Nat) (h : 64 * i + 64 ≤ 4194304) : wordsOf (64 * i) 64 = (List.range 8).map (8 * i + ·) := by
  rw [wordsOf_eq (64 * i) 64 h, if_neg (by omega), show (64 * i + 64 - 1) / 8 - 64 * i / 8 + 1 = 8 by omega, show 64 * i / 8 = 8 * i by omega]
theorem linesLine (i : Nat) (h : 64 * i + 64 ≤ 4194304) : linesOf (64 * i) 64 = [i] := by
  rw [linesOf_eq (64 * i) 64 h, if_neg (by omega), show (64 * i + 64 - 1) / 64 - 64 * i / 64 + 1 = 1 by omega, show 64 * i / 64 = i by omega]
  rfl
section
variable {σ : St} {bs : List Nat} {i : Nat}
/-- Behind m words of a line. -/
structure WrI (σ : St) (bs : List Nat) (i m : Nat) (t : St) : Prop where
  n : t.n = σ.n
  bytes : t.bytes = splice σ.bytes (64 * i) (bs.take (8 * m))
  oth : ∀ k, k ≠ i → t.past k = []
  past : t.past i = (List.range m).map (fun q => splice (σ.line i) 0 (bs.take (8 * q)))
  arms : t.arms = σ.arms
  off : t.off = σ.off
/-- The line itself, behind m words. -/
theorem WrI.line {t : St} {m : Nat} (h : WrI σ bs i m t) (hok : σ.Ok) (hi : i < σ.n) (hl : bs.length = 64) (hm : m ≤ 8) : t.line i = splice (σ.line i) 0 (bs.take (8 * m)) := by
  have hbl := hok.len
  have hll := line_len hok hi
  have htl : (bs.take (8 * m)).length = 8 * m := by rw [List.length_take]; omega
  unfold St.line
  rw [h.bytes]
  refine List.ext_getElem? fun q => ?_
  rw [List.getElem?_take, List.getElem?_drop, splice_get _ _ _ _ (by omega), htl]
  have e : (σ.bytes.drop (64 * i)).take 64 = σ.line i := rfl
  rw [e, splice_get _ _ _ _ (by omega), htl]
  rw [if_neg (show ¬ 64 * i + q < 64 * i by omega), if_neg (show ¬ q < 0 by omega)]
  by_cases hq : q < 64
  · rw [if_pos hq]
    by_cases h2 : q < 8 * m
    · rw [if_pos (show 64 * i + q < 64 * i + 8 * m by omega), if_pos (show q < 0 + 8 * m by omega)]
      congr 1
      omega
    · rw [if_neg (show ¬ 64 * i + q < 64 * i + 8 * m by omega), if_neg (show ¬ q < 0 + 8 * m by omega)]
      unfold St.line
      rw [List.getElem?_take, if_pos hq, List.getElem?_drop]
  · rw [if_neg hq, if_neg (show ¬ q < 0 + 8 * m by omega), List.getElem?_eq_none (by omega)]
theorem WrI.start (hp : ∀ k, σ.past k = []) : WrI σ bs i 0 σ := ⟨rfl, by rw [Nat.mul_zero, List.take_zero, splice_nil], fun k _ => hp k, hp i, rfl, rfl⟩
/-- One word more. -/
theorem WrI.word {t : St} {m : Nat} (h : WrI σ bs i m t) (hok : σ.Ok) (htl : t.bytes.length = 64 * t.n) (hi : i < σ.n) (hl : bs.length = 64) (hm : m < 8) : WrI σ bs i (m + 1) (wordA bs (64 * i) t (8 * i + m)) := by
  have hbl := hok.len
  have hdv : (8 * i + m) / 8 = i := by omega
  have hmx : max (64 * i) ((8 * i + m) * 8) = 64 * i + 8 * m := by omega
  have hby : (wordA bs (64 * i) t (8 * i + m)).bytes = splice t.bytes (64 * i + 8 * m) ((bs.drop (8 * m)).take 8) := by
    have := wordDo_bytes (bs := bs) (at_ := 64 * i) (no := 8 * i + m) (σ := t) htl (by rw [hdv, h.n]; exact hi) (64 * i + 8 * m) hmx.symm (by omega)
    rw [show 64 * i + 8 * m - 64 * i = 8 * m by omega, show 8 - (64 * i + 8 * m) % 8 = 8 by omega] at this
    exact this
  refine ⟨h.n, ?_, fun k hk => ?_, ?_, h.arms, h.off⟩
  · rw [hby, h.bytes]
    have := splice_words σ.bytes bs (64 * i) (64 * i + 8 * m) (by omega) (by omega) (by omega) 8 (by omega) (by omega)
    rw [show 64 * i + 8 * m - 64 * i = 8 * m by omega, show 64 * i + 8 * m + 8 - 64 * i = 8 * (m + 1) by omega] at this
    exact this
  · show (t.put ((8 * i + m) / 8) _).past k = []
    rw [St.put_past, hdv, if_neg hk]
    exact h.oth k hk
  · show (t.put ((8 * i + m) / 8) _).past i = _
    rw [St.put_past, hdv, if_pos rfl, h.past, h.line hok hi hl (by omega), List.range_succ, List.map_append]
    rfl
/-- Words as they are written one by one. -/
theorem WrI.tick {t : St} {m : Nat} (h : WrI σ bs i m t) : WrI σ bs i m (tick t) := ⟨h.n, h.bytes, h.oth, h.past, h.arms, h.off⟩
theorem WrI.words (hok : σ.Ok) (hp : ∀ k, σ.past k = []) (hbs : ∀ x ∈ bs, x < 256) (hi : i < σ.n) (hl : bs.length = 64) (hops : σ.ops + 600000 ≤ 1400000000000) : ∀ m, m ≤ 8 → WrI σ bs i m (writeG bs (64 * i) σ ((List.range m).map (8 * i + ·)))
  | 0, _ => WrI.start hp
  | m + 1, hm => by
    have ih := WrI.words hok hp hbs hi hl hops m (by omega)
    have hlk := writeG_like (at_ := 64 * i) hbs ((List.range m).map (8 * i + ·)) σ hok (fun no h => by
      obtain ⟨q, hq, rfl⟩ := List.mem_map.1 h
      have := List.mem_range.1 hq
      omega) (by simp; omega)
    rw [List.range_succ, List.map_append, List.map_cons, List.map_nil, writeG_snoc]
    exact (ih.word hok hlk.ok.len hi hl (by omega)).tick
/-- Two rows of bytes with the same lines. -/
theorem same_lines {a c : St} {n : Nat} (ha : a.bytes.length = 64 * n) (hc : c.bytes.length = 64 * n) (h : ∀ j, j < n → a.line j = c.line j) : a.bytes = c.bytes := by
  refine List.ext_getElem? fun q => ?_
  by_cases hq : q < 64 * n
  · have := congrArg (fun l => l[q % 64]?) (h (q / 64) (by omega))
    simp only [line_get (show q % 64 < 64 by omega)] at this
    rwa [show 64 * (q / 64) + q % 64 = q by omega] at this
  · rw [List.getElem?_eq_none (by omega), List.getElem?_eq_none (by omega)]
/-- A line beside the one that is written. -/
theorem WrI.other {t : St} {m j : Nat} (h : WrI σ bs i m t) (hok : σ.Ok) (hi : i < σ.n) (hl : bs.length = 64) (hm : m ≤ 8) (hj : j < σ.n) (hne : j ≠ i) : t.line j = σ.line j := by
  have hbl := hok.len
  have htl : (bs.take (8 * m)).length = 8 * m := by rw [List.length_take]; omega
  unfold St.line
  rw [h.bytes]
  refine List.ext_getElem? fun q => ?_
  rw [List.getElem?_take, List.getElem?_take, List.getElem?_drop, List.getElem?_drop, splice_get _ _ _ _ (by omega), htl]
  by_cases hq : q < 64
  · rw [if_pos hq, if_pos hq]
    by_cases h1 : 64 * j + q < 64 * i
    · rw [if_pos h1]
    · rw [if_neg h1, if_neg (by omega)]
  · rw [if_neg hq, if_neg hq]
/-- What is left of the line where the power goes. -/
def Cut (σ : St) (bs : List Nat) (i : Nat) (s : St) : Prop := s.n = σ.n ∧ s.off = true ∧ (∀ k, s.past k = []) ∧ ∃ j, j ≤ 8 ∧ s.bytes = splice σ.bytes (64 * i) (bs.take (8 * j))
theorem cut_of {t t' s : St} {m : Nat} {kp : List Nat} (h : WrI σ bs i m t) (hok : σ.Ok) (hi : i < σ.n) (hl : bs.length = 64) (hm : m ≤ 8) (hL : Lost t' kp s) (e1 : t'.n = t.n) (e2 : t'.bytes = t.bytes) (hpast : ∀ k, t'.past k = t.past k ∨ t'.past k = []) : Cut σ bs i s := by
  have hbl := hok.len
  have hline : ∀ k, t'.line k = t.line k := fun k => by unfold St.line; rw [e2]
  obtain ⟨j, hj, hji⟩ : ∃ j, j ≤ 8 ∧ lost t' kp i = splice (σ.line i) 0 (bs.take (8 * j)) := by
    unfold lost
    rw [hline, h.line hok hi hl hm]
    rcases hpast i with e | e
    · rw [e, h.past]
      by_cases hq : lostK t' kp i < m
      · refine ⟨lostK t' kp i, by omega, ?_⟩
        rw [List.getElem?_map, List.getElem?_range hq]
        rfl
      · refine ⟨m, hm, ?_⟩
        rw [List.getElem?_eq_none (by simp; omega)]
        rfl
    · refine ⟨m, hm, ?_⟩
      rw [e]
      rfl
  have htl : (bs.take (8 * j)).length = 8 * j := by rw [List.length_take]; omega
  refine ⟨by rw [hL.n, e1, h.n], hL.off, fun k => by rw [hL.past], j, hj, ?_⟩
  have key : WrI σ bs i j { σ with bytes := splice σ.bytes (64 * i) (bs.take (8 * j)), past := fun k => if k = i then (List.range j).map (fun q => splice (σ.line i) 0 (bs.take (8 * q))) else [] } := ⟨rfl, rfl, fun k hk => if_neg hk, if_pos rfl, rfl, rfl⟩
  refine same_lines (a := s) (c := { σ with bytes := splice σ.bytes (64 * i) (bs.take (8 * j)), past := fun k => if k = i then (List.range j).map (fun q => splice (σ.line i) 0 (bs.take (8 * q))) else [] }) (n := σ.n) (by rw [hL.len, e1, h.n]) (by show (splice _ _ _).length = _; rw [splice_len _ _ _ (by omega)]; exact hbl) fun k hk => ?_
  rw [hL.lines k (by rw [e1, h.n]; exact hk)]
  by_cases e : k = i
  · subst e
    rw [hji, key.line hok hi hl hj]
  · rw [key.other hok hi hl hj hk e]
    unfold lost
    rw [hline, h.other hok hi hl hm hk e, show t'.past k = [] from (hpast k).elim (fun x => x.trans (h.oth k e)) id]
    rfl
theorem Opd.lost {s s' : St} (h : Opd s 5 s') : ∃ kp, Lost { s with ops := s.ops + 1, arms := s.arms.tail, cnt := 0 } kp s' := by
  rcases h with ⟨_, h, _⟩ | ⟨_, kp, rest, ha, ⟨_, h, _⟩ | ⟨_, _, h⟩⟩
  · cases h
  · cases h
  · exact ⟨kp, by rw [ha]; exact h⟩
theorem pre_range {pre : List Nat} {no n : Nat} {f : Nat → Nat} (h : pre ++ [no] <+: (List.range n).map f) : pre = (List.range pre.length).map f ∧ no = f pre.length ∧ pre.length < n := by
  have hlen := h.length_le
  simp at hlen
  have e := List.prefix_iff_eq_take.1 h
  rw [← List.map_take, List.take_range, List.length_append, List.length_singleton, Nat.min_eq_left (by omega), List.range_succ, List.map_append, List.map_cons, List.map_nil] at e
  have := List.append_inj' e rfl
  exact ⟨this.1, by simpa using this.2, by omega⟩
/-- Bytes of a whole line, on a device with nothing under way: all of it, or its first words and no power. -/
theorem byt_line {c : Int} {s : St} (hok : σ.Ok) (ho : σ.off = false) (hp : ∀ k, σ.past k = []) (hbs : ∀ x ∈ bs, x < 256) (hi : i < σ.n) (hl : bs.length = 64) (hops : σ.ops + 600000 ≤ 1400000000000) (h : BytD bs (64 * i) σ c s) :
    (c = 0 ∧ s.n = σ.n ∧ s.off = false ∧ (∀ k, s.past k = []) ∧ s.bytes = splice σ.bytes (64 * i) bs) ∨ (c = 5 ∧ Cut σ bs i s) := by
  have hmx := hok.max
  unfold BytD at h
  rw [hl, wordsLine i (by omega), linesLine i (by omega)] at h
  have h8 := WrI.words hok hp hbs hi hl hops 8 (by omega)
  have hlk := writeG_like (at_ := 64 * i) hbs ((List.range 8).map (8 * i + ·)) σ hok (fun no h => by
      obtain ⟨q, hq, rfl⟩ := List.mem_map.1 h
      have := List.mem_range.1 hq
      omega) (by simp; omega)
  rcases h with ⟨rfl, h⟩ | ⟨s1, h1, h⟩
  · rcases h with ⟨h, _⟩ | ⟨_, pre, no, hpre, h⟩
    · cases h
    · obtain ⟨e1, e2, e3⟩ := pre_range hpre
      obtain ⟨kp, hL⟩ := h.lost
      generalize pre.length = m at e1 e2 e3
      subst e1 e2
      have hm := WrI.words hok hp hbs hi hl hops m (by omega)
      have hlk' := writeG_like (at_ := 64 * i) hbs ((List.range m).map (8 * i + ·)) σ hok (fun no h => by
        obtain ⟨q, hq, rfl⟩ := List.mem_map.1 h
        have := List.mem_range.1 hq
        omega) (by simp; omega)
      exact .inr ⟨rfl, cut_of (hm.word hok hlk'.ok.len hi hl e3) hok hi hl (by omega) hL rfl rfl (fun k => .inl rfl)⟩
  · obtain ⟨rfl, _⟩ := h1.zero
    have hto : (writeG bs (64 * i) σ ((List.range 8).map (8 * i + ·))).ops < 1400000000000 := by rw [hlk.ops]; simp; omega
    have hto2 := hlk.ok
    clear h1 hlk
    generalize writeG bs (64 * i) σ ((List.range 8).map (8 * i + ·)) = T at h h8 hto hto2
    rcases h with ⟨rfl, h⟩ | ⟨s2, h2, h⟩
    · rcases h with ⟨h, _⟩ | ⟨_, pre, no, hpre, h⟩
      · cases h
      · obtain ⟨kp, hL⟩ := h.lost
        have hpl : pre = [] := by
          have := hpre.length_le
          simp at this
          exact this
        subst hpl
        exact .inr ⟨rfl, cut_of h8 hok hi hl (by omega) hL rfl rfl (fun k => .inl rfl)⟩
    · obtain ⟨rfl, _⟩ := h2.zero
      have hfp : ∀ k, (fnA (linesG T [i])).past k = [] := fun k => by
        refine fence_one (σ := flushDo T i) (j := k) (Due.flush ?_) ?_
        · by_cases e : k = i
          · exact .inl e
          · exact .inr (.inr (h8.oth k e))
        · intro q hq
          exact ((flush_ok hto2 i hto).flp k q hq).2
      have hby : splice σ.bytes (64 * i) (bs.take (8 * 8)) = splice σ.bytes (64 * i) bs := by rw [List.take_of_length_le (by omega)]
      rcases h.code with rfl | rfl
      · left
        have hn : ¬ fires (fnA (linesG T [i])) := fun hf => by
          have := h.yes hf
          cases this
        obtain ⟨_, rfl⟩ := h.no hn
        exact ⟨rfl, h8.n, h8.off.trans ho, hfp, h8.bytes.trans hby⟩
      · obtain ⟨kp, hL⟩ := h.lost
        exact .inr ⟨rfl, cut_of h8 hok hi hl (by omega) hL rfl rfl (fun k => .inr (hfp k))⟩
end
end Go.Proofs.Ytgfgihpkbbjkfaa
namespace Go.Proofs.Ytgfgihpkbbjkfaa
open Go.RowKit
set_option linter.unusedVariables false

/-- Operations, one after the other. -/
def acts (fs : List (St → St)) (σ : St) : St := fs.foldl (fun s f => tick (f s)) σ
theorem acts_append (xs ys : List (St → St)) (σ : St) : acts (xs ++ ys) σ = acts ys (acts xs σ) := by simp [acts]
theorem acts_nil (σ : St) : acts [] σ = σ := rfl
theorem acts_one (f : St → St) (σ : St) : acts [f] σ = tick (f σ) := rfl
/-- All of them are done, or the power went behind one of them. -/
def RunD (fs : List (St → St)) (σ : St) (c : Int) (σ' : St) : Prop :=
  (c = 0 ∧ σ' = acts fs σ) ∨ (c = 5 ∧ σ.arms ≠ [] ∧ ∃ pre f post, fs = pre ++ f :: post ∧ Opd (f (acts pre σ)) 5 σ')
section
variable {xs ys fs : List (St → St)} {σ s σ' : St} {c : Int}
theorem RunD.code (h : RunD fs σ c σ') : c = 0 ∨ c = 5 := h.imp (fun h => h.1) (fun h => h.1)
theorem RunD.zero (h : RunD fs σ 0 σ') : σ' = acts fs σ := by
  rcases h with ⟨_, h⟩ | ⟨h, _⟩
  · exact h
  · cases h
theorem RunD.calm (h : RunD fs σ c σ') (ha : σ.arms = []) : c = 0 ∧ σ' = acts fs σ := by
  rcases h with h | ⟨_, h, _⟩
  · exact h
  · exact absurd ha h
theorem RunD.five (h : RunD fs σ c σ') (hc : c ≠ 0) : c = 5 := by
  rcases h with ⟨h, _⟩ | ⟨h, _⟩
  · exact absurd h hc
  · exact h
theorem RunD.nil (σ : St) : RunD [] σ 0 σ := .inl ⟨rfl, rfl⟩
theorem RunD.app5 (h : RunD xs σ 5 σ') : RunD (xs ++ ys) σ 5 σ' := by
  rcases h with ⟨h, _⟩ | ⟨_, ha, pre, f, post, rfl, h⟩
  · cases h
  · exact .inr ⟨rfl, ha, pre, f, post ++ ys, by simp, h⟩
theorem RunD.app0 (h : RunD xs σ 0 s) (hk : RunD ys s c σ') (ha : s.arms = σ.arms) : RunD (xs ++ ys) σ c σ' := by
  obtain rfl := h.zero
  rcases hk with ⟨rfl, rfl⟩ | ⟨rfl, h1, pre, f, post, rfl, h2⟩
  · exact .inl ⟨rfl, by rw [acts_append]⟩
  · exact .inr ⟨rfl, by rw [← ha]; exact h1, xs ++ pre, f, post, by simp, by rw [acts_append]; exact h2⟩
theorem RunD.one {f : St → St} (h : Opd (f σ) c σ') (ha : (f σ).arms = σ.arms) : RunD [f] σ c σ' := by
  by_cases hf : fires (f σ)
  · obtain ⟨af, kp, rest, e, _⟩ := hf
    have hc := h.yes ⟨af, kp, rest, e, by assumption⟩
    subst hc
    exact .inr ⟨rfl, by rw [← ha, e]; simp, [], f, [], rfl, h⟩
  · obtain ⟨rfl, rfl⟩ := h.no hf
    exact .inl ⟨rfl, rfl⟩
end
/-- Words of bytes. -/
def wds (bs : List Nat) (at_ : Nat) (nos : List Nat) : List (St → St) := nos.map (fun no s => wordA bs at_ s no)
def fls (ls : List Nat) : List (St → St) := ls.map (fun i s => flA s i)
theorem wds_len (bs : List Nat) (at_ : Nat) (nos : List Nat) : (wds bs at_ nos).length = nos.length := by simp [wds]
theorem fls_len (ls : List Nat) : (fls ls).length = ls.length := by simp [fls]
theorem wds_acts (bs : List Nat) (at_ : Nat) : ∀ (nos : List Nat) (σ : St), acts (wds bs at_ nos) σ = writeG bs at_ σ nos
  | [], σ => rfl
  | no :: nos, σ => by
    show acts (wds bs at_ nos) (tick (wordA bs at_ σ no)) = _
    rw [wds_acts bs at_ nos]
    rfl
theorem fls_acts : ∀ (ls : List Nat) (σ : St), acts (fls ls) σ = linesG σ ls
  | [], σ => rfl
  | i :: ls, σ => by
    show acts (fls ls) (tick (flA σ i)) = _
    rw [fls_acts ls]
    rfl
theorem split_of_prefix {α : Type} {pre : List α} {x : α} {l : List α} (h : pre ++ [x] <+: l) : ∃ post, l = pre ++ x :: post := by
  obtain ⟨t, rfl⟩ := h
  exact ⟨t, by simp⟩
theorem opd_arms {σ σ' : St} (h : Opd σ 5 σ') : σ.arms ≠ [] := by
  rcases h with ⟨_, h, _⟩ | ⟨af, kp, rest, h, _⟩
  · cases h
  · rw [h]; simp
theorem wr_run {bs : List Nat} {at_ : Nat} {σ σ' : St} {nos : List Nat} {c : Int} (hok : σ.Ok) (hbs : ∀ x ∈ bs, x < 256) (hno : ∀ no ∈ nos, no / 8 < σ.n) (hops : σ.ops + nos.length ≤ 1400000000000) (h : WrD bs at_ σ nos c σ') : RunD (wds bs at_ nos) σ c σ' := by
  rcases h with ⟨rfl, rfl, _⟩ | ⟨rfl, pre, no, hp, h⟩
  · exact .inl ⟨rfl, (wds_acts bs at_ nos σ).symm⟩
  · obtain ⟨post, rfl⟩ := split_of_prefix hp
    have hl := writeG_like (at_ := at_) hbs pre σ hok (fun x hx => hno x (by simp [hx])) (by simp at hops; omega)
    refine .inr ⟨rfl, ?_, wds bs at_ pre, fun s => wordA bs at_ s no, wds bs at_ post, by simp [wds], by rw [wds_acts]; exact h⟩
    have := opd_arms h
    rw [← hl.arms]
    exact this
theorem fl_run {σ σ' : St} {ls : List Nat} {c : Int} (hok : σ.Ok) (hops : σ.ops + ls.length ≤ 1400000000000) (h : FlD σ ls c σ') : RunD (fls ls) σ c σ' := by
  rcases h with ⟨rfl, rfl, _⟩ | ⟨rfl, pre, no, hp, h⟩
  · exact .inl ⟨rfl, (fls_acts ls σ).symm⟩
  · obtain ⟨post, rfl⟩ := split_of_prefix hp
    obtain ⟨_, _, _, j4, _, _⟩ := linesG_like pre σ hok (by simp at hops; omega)
    refine .inr ⟨rfl, ?_, fls pre, fun s => flA s no, fls post, by simp [fls], by rw [fls_acts]; exact h⟩
    have := opd_arms h
    rw [← j4]
    exact this
/-- An operation that changes no more than contents, on devices of N lines. -/
def GoodF (N : Nat) (f : St → St) : Prop := ∀ σ : St, σ.Ok → σ.n = N → σ.ops < 1400000000000 → LikeG σ (tick (f σ)) 1 ∧ (f σ).arms = σ.arms
theorem like_trans {a b c : St} {m n : Nat} (h : LikeG a b m) (k : LikeG b c n) : LikeG a c (m + n) := by
  have c1 := h.cnt
  have c2 := k.cnt
  refine ⟨k.ok, k.n.trans h.n, by rw [k.ops, h.ops]; omega, k.arms.trans h.arms, k.off.trans h.off, ?_⟩
  rw [c2, c1, h.arms]
  split <;> omega
theorem like_refl {σ : St} (h : σ.Ok) : LikeG σ σ 0 := ⟨h, rfl, rfl, rfl, rfl, by split <;> rfl⟩
theorem acts_like {N : Nat} : ∀ (fs : List (St → St)) (σ : St), (∀ f ∈ fs, GoodF N f) → σ.Ok → σ.n = N → σ.ops + fs.length ≤ 1400000000000 → LikeG σ (acts fs σ) fs.length
  | [], σ, _, hok, _, _ => like_refl hok
  | f :: fs, σ, hg, hok, hn, ho => by
    rw [List.length_cons] at ho
    have h1 := (hg f (by simp) σ hok hn (by omega)).1
    have e1 := h1.ops
    have h2 := acts_like fs (tick (f σ)) (fun g hg' => hg g (by simp [hg'])) h1.ok (h1.n.trans hn) (by omega)
    rw [List.length_cons, Nat.add_comm]
    exact like_trans h1 h2
theorem wds_good {N : Nat} {bs : List Nat} {at_ : Nat} {nos : List Nat} (hbs : ∀ x ∈ bs, x < 256) (hno : ∀ no ∈ nos, no / 8 < N) : ∀ f ∈ wds bs at_ nos, GoodF N f := by
  intro f hf
  obtain ⟨no, hn, rfl⟩ := List.mem_map.1 hf
  intro σ hok hN ho
  exact ⟨writeG_like (at_ := at_) hbs [no] σ hok (fun x hx => by rw [List.mem_singleton.1 hx, hN]; exact hno no hn) (by simp; omega), rfl⟩
theorem fls_good {N : Nat} (ls : List Nat) : ∀ f ∈ fls ls, GoodF N f := by
  intro f hf
  obtain ⟨i, hi, rfl⟩ := List.mem_map.1 hf
  intro σ hok hN ho
  obtain ⟨j1, j2, j3, j4, j5, j6⟩ := linesG_like [i] σ hok (by simp; omega)
  exact ⟨⟨j1, j2, j3, j4, j5, j6⟩, rfl⟩
theorem fn_good {N : Nat} : GoodF N fnA := fun σ hok hN ho => ⟨⟨tick_ok (ok_more (fnA_ok hok) ho), rfl, rfl, rfl, rfl, rfl⟩, rfl⟩
end Go.Proofs.Ytgfgihpkbbjkfaa
namespace Go.Proofs.Ytgfgihpkbbjkfaa
open Go.RowKit Go.Shelf
set_option linter.unusedVariables false

theorem wpAnyH_goS {P : Program} {ops : Array Oper} {Q : Exit → Act → World → Prop} {md : Region.Mode} {S : World → Prop} {i : Nat} {o : Oper} {fuel : Nat} {listed : Array Bool} {a : Act} {w : World} (hr : Region.ready md ops listed = [i]) (ho : ops[i]? = some o) (hw : Region.wanted o (yielded ops a.tmps) = true)
    (h : ∀ K' : Act → World → Prop, Shut (∀ a w, S w → wpAnyH P md ops Q S fuel (listed.setIfInBounds i true) a w → K' a w) → Oper.wp P o a w K' Q) : wpAnyH P md ops Q S (fuel + 1) listed a w := by
  refine wpAnyH_ready (rs := [i]) hr (by simp) (AllReadyH.cons ho (fun K hK => ?_) AllReadyH.nil)
  rw [if_pos hw]
  exact h K (fun a w hs hq => hK a w hs (fun _ => hq))
/-- A type that no block of a device has. -/
def NDt (t : TypeId) : Prop := t ≠ 69 ∧ t ≠ 73 ∧ t ≠ 121 ∧ t ≠ 145 ∧ t ≠ 89 ∧ t ≠ 3
theorem foot_nd {w : World} {b k : Nat} {L : Lay} {σ : St} {c : Array Value} {t : TypeId} {f : Nat × Nat} (h : DevL w b L σ) (hc : w.heap[k]? = some (.cells c t f)) (ht : NDt t) : ¬ Foot b L σ k := by
  obtain ⟨t1, t2, t3, t4, t5, t6⟩ := ht
  intro hk
  rcases hk with rfl | rfl | rfl | rfl | ⟨i, hi, rfl | hr⟩ | ha | hb
  · exact ne_ty hc h.dev t1 rfl
  · exact ne_ty hc h.seen t2 rfl
  · obtain ⟨es, q, hm⟩ := h.old.block
    exact ne_map hc hm rfl
  · obtain ⟨es, q, hm⟩ := h.flm.block
    exact ne_map hc hm rfl
  · exact ne_ty hc (h.pasts i hi).1 t3 rfl
  · obtain ⟨c', hc'⟩ := (h.pasts i hi).row hr
    exact ne_ty hc hc' t4 rfl
  · obtain ⟨c', hc'⟩ := h.av_row ha
    exact ne_ty hc hc' t5 rfl
  · obtain ⟨c', hc'⟩ := h.kbt k hb
    exact ne_ty hc hc' t6 rfl
/-- A device that is on and may be. -/
structure Dv (w : World) (b : Nat) (L : Lay) (σ : St) : Prop where
  dev : DevL w b L σ
  ok : σ.Ok
  on : σ.off = false
  num : L.N ≤ σ.ops + 100000000000
  few : Few σ
  cn : σ.cnt ≤ σ.ops
section
variable {w w' : World} {b m : Nat} {L : Lay} {σ s : St}
theorem Dv.below (h : Dv w b L σ) (hB : Below w.heap.size w w') : Dv w' b L σ := ⟨h.dev.below hB, h.ok, h.on, h.num, h.few, h.cn⟩
theorem Atd.kept {k : Nat} {c : Array Value} {t : TypeId} {f : Nat × Nat} (h : Atd w b L σ w' s m) (hd : DevL w b L σ) (hk : w.heap[k]? = some (.cells c t f)) (ht : NDt t) : w'.heap[k]? = some (.cells c t f) := h.1.keep hk (foot_nd hd hk ht)
theorem Atd.size (h : Atd w b L σ w' s m) : w.heap.size ≤ w'.heap.size := h.1.size
/-- Behind operations that all were done. -/
theorem Dv.went (h : Dv w b L σ) (ha : Atd w b L σ w' s m) (hl : LikeG σ s m) (hlt : σ.ops + m < 1400000000000) : ∃ L', Dv w' b L' s ∧ Gr (Foot b L σ) w w' ∧ (∀ k, Foot b L' s k → Foot b L σ k ∨ w.heap.size ≤ k) ∧ L'.N ≤ L.N + m := by
  obtain ⟨hg, L', hd, hf, hN⟩ := ha
  have h1 := h.num
  have h2 := hl.ops
  have h3 := hl.cnt
  have h4 := h.cn
  have h5 := hl.ok.opsm
  refine ⟨L', ⟨hd, hl.ok, hl.off.trans h.on, by omega, ⟨by rw [hl.arms]; exact h.few.one, ?_⟩, ?_⟩, hg, hf, hN⟩
  · have := h.few.cnt
    rw [h3]
    split
    · omega
    · omega
  · rw [h3]
    split <;> omega
end
section
variable {w : World} {b : Nat} {L : Lay} {σ : St}
theorem dv_load {at_ n : Nat} (h : Dv w b L σ) (hlen : at_ + n ≤ 64 * σ.n) :
    Calls Try.prog 21 #[.pointer (some ⟨b, 0, none⟩), .int .i64 (at_ : Int), .int .i64 (n : Int)] w fun e w' => ∃ R, e = .returned (.tuple #[.slice (some ⟨R, 0, none⟩) n n, .int .i64 0]) ∧ w.heap.size ≤ R ∧ OwnB w' R ((σ.bytes.drop at_).take n) ∧ Below w.heap.size w w' := by
  refine (callsIn_wide.1 (pload_in h.dev h.ok h.on hlen)).mono ?_
  rintro e w' ⟨R, h1, h2, h3, h4⟩
  exact ⟨R, h1, h2, h3, h4⟩
theorem dv_store {a : Option Addr} {bs : List Nat} (at_ cap : Nat) (h : Dv w b L σ) (hops : σ.ops + 2000000 ≤ 1400000000000) (hsl : Sl w a bs) (hcap : bs.length ≤ cap) (hlen : at_ + bs.length ≤ 64 * σ.n) (haf : ∀ ad, a = some ad → ad.block < w.heap.size ∧ ¬ Foot b L σ ad.block) :
    Calls Try.prog 20 #[.pointer (some ⟨b, 0, none⟩), .int .i64 (at_ : Int), .slice a bs.length cap] w fun e w' => ∃ c s, e = .returned (.int .i64 c) ∧ RunD (wds bs at_ (wordsOf at_ bs.length)) σ c s ∧ Atd w b L σ w' s (wordsOf at_ bs.length).length := by
  have hm := h.ok.max
  have hcn := h.cn
  have hwl := wordsOf_len (at_ := at_) (n := bs.length) (by omega)
  refine (psto_gen at_ cap h.dev h.ok h.on h.num h.few (by omega) (by omega) hsl hcap hlen haf).mono ?_
  rintro e w' ⟨c, s, L', h1, h2, h3, h4, h5, h6, _⟩
  exact ⟨c, s, h1, wr_run h.ok hsl.lt (wordsOf_lt hlen hm) (by omega) h2, h5, L', h3, h4, h6⟩
theorem dv_flush (h : Dv w b L σ) (at_ : Nat) (hat : at_ < 64 * σ.n) (hops : σ.ops + 2000000 ≤ 1400000000000) :
    Calls Try.prog 40 #[.pointer (some ⟨b, 0, none⟩), .int .i64 (at_ : Int)] w fun e w' => ∃ c s, e = .returned (.int .i64 c) ∧ RunD [fun s => flA s (at_ / 64)] σ c s ∧ Atd w b L σ w' s 1 := by
  refine (pflush_gen h.dev h.ok h.on h.few at_ hat (by omega) h.num).mono ?_
  rintro e w' ⟨c, s, L', h1, h2, h3, h4, h5, h6, _⟩
  exact ⟨c, s, h1, RunD.one (f := fun s => flA s (at_ / 64)) h2 rfl, h5, L', h3, h4, h6⟩
theorem dv_fence (h : Dv w b L σ) (hops : σ.ops + 2000000 ≤ 1400000000000) :
    Calls Try.prog 41 #[.pointer (some ⟨b, 0, none⟩)] w fun e w' => ∃ c s, e = .returned (.int .i64 c) ∧ RunD [fnA] σ c s ∧ Atd w b L σ w' s 1 := by
  refine (pfence_gen h.dev h.ok h.on h.few (by omega)).mono ?_
  rintro e w' ⟨c, s, L', h1, h2, h3, h4, h5, h6, _⟩
  exact ⟨c, s, h1, RunD.one (f := fnA) h2 rfl, h5, L', h3, h4, by omega⟩
/-- The operations of a word that is published. -/
def pubF (v at_ : Nat) : List (St → St) := wds (leB 8 v) at_ (wordsOf at_ 8) ++ (fls (linesOf at_ 8) ++ [fnA])
def rngF (at_ n : Nat) : List (St → St) := fls (linesOf at_ n) ++ [fnA]
theorem dv_pub (v at_ : Nat) (h : Dv w b L σ) (hops : σ.ops + 4000000 ≤ 1400000000000) (hv : v < 18446744073709551616) (hat : at_ % 8 = 0) (hlen : at_ + 8 ≤ 64 * σ.n) :
    Calls Try.prog 59 #[.pointer (some ⟨b, 0, none⟩), .int .i64 (at_ : Int), .int .u64 (v : Int)] w fun e w' => ∃ c s, e = .returned (.int .i64 c) ∧ RunD (pubF v at_) σ c s ∧ Atd w b L σ w' s (pubF v at_).length := by
  have hm := h.ok.max
  have hcn := h.cn
  have hll : (leB 8 v).length = 8 := leB_length 8 v
  have hwl := wordsOf_len (at_ := at_) (n := 8) (by omega)
  have hfl := linesOf_len (at_ := at_) (n := 8) (by omega)
  refine (qpubG_any v at_ h.dev h.ok h.on h.num h.few (by omega) (by omega) hv hat hlen).mono ?_
  rintro e w' ⟨c, s, h1, h2, h3⟩
  refine ⟨c, s, h1, ?_, ?_⟩
  · have wl := writeG_like (at_ := at_) (leB_lt 8 v) (wordsOf at_ 8) σ h.ok (wordsOf_lt (by omega) hm) (by omega)
    have wo := wl.ops
    unfold pubF
    rcases h2 with ⟨rfl, h2⟩ | ⟨s1, h2, h4⟩
    · exact (wr_run h.ok (leB_lt 8 v) (wordsOf_lt (by omega) hm) (by omega) h2).app5
    · have r1 := wr_run h.ok (leB_lt 8 v) (wordsOf_lt (by omega) hm) (by omega) h2
      obtain ⟨e1, _⟩ := h2.zero
      have a1 : s1.arms = σ.arms := by rw [e1]; exact wl.arms
      refine r1.app0 ?_ a1
      have ok1 : s1.Ok := by rw [e1]; exact wl.ok
      have o1 : s1.ops = σ.ops + (wordsOf at_ 8).length := by rw [e1]; exact wl.ops
      rcases h4 with ⟨rfl, h4⟩ | ⟨s2, h4, h5⟩
      · exact (fl_run ok1 (by omega) h4).app5
      · have r2 := fl_run ok1 (by omega) h4
        obtain ⟨e2, _⟩ := h4.zero
        obtain ⟨_, _, _, j4, _, _⟩ := linesG_like (linesOf at_ 8) s1 ok1 (by omega)
        exact r2.app0 (RunD.one (f := fnA) h5 rfl) (by rw [e2]; exact j4)
  · obtain ⟨hg, L', hd, hf, hN⟩ := h3
    refine ⟨hg, L', hd, hf, ?_⟩
    unfold pubF
    rw [List.length_append, List.length_append, wds_len, fls_len, List.length_singleton]
    omega
end
def rgF (j : Nat) : Nat := if j = 0 then 58 else 41
def rgA (b at_ n : Nat) (j : Nat) : Array Value := if j = 0 then #[.agg #[.pointer (some ⟨b, 0, none⟩), .int .i64 (at_ : Int), .int .i64 (n : Int)]] else #[.pointer (some ⟨b, 0, none⟩)]
def rgS (at_ n : Nat) (σ : St) (j : Nat) (s : St) : Prop := if j = 0 then s = σ else if j = 1 then RunD (fls (linesOf at_ n)) σ 0 s else RunD (rngF at_ n) σ 0 s
theorem two_of {j : Nat} (h : j < 2) : j = 0 ∨ j = 1 := by omega
section
variable {w : World} {b : Nat} {L : Lay} {σ : St}
set_option maxRecDepth 100000 in
set_option maxHeartbeats 400000 in
theorem range_turn (at_ n rb : Nat) (W0 : World) (hB0 : Below w.heap.size w W0) (h : Dv w b L σ) (hops : σ.ops + 2000000 ≤ 1400000000000) (hn : 1 ≤ n) (hlen : at_ + n ≤ 64 * σ.n)
    (hrb : w.heap.size ≤ rb) (hrow : W0.heap[rb]? = some (.cells #[.func (.func (rgF 0)) (rgA b at_ n 0) #[], .func (.func (rgF 1)) (rgA b at_ n 1) #[]] 136 (0, 0))) :
    Calls Try.prog 57 #[.agg #[.pointer (some ⟨b, 0, none⟩), .int .i64 (at_ : Int), .int .i64 (n : Int)], .slice (some ⟨rb, 0, none⟩) 2 2] W0 fun e w' => ∃ c s, e = .returned (.int .i64 c) ∧ RunD (rngF at_ n) σ c s ∧ Atd W0 b L σ w' s (linesOf at_ n).length := by
  have hm := h.ok.max
  have hcn := h.cn
  have hll := linesOf_len (at_ := at_) (n := n) (by omega)
  obtain ⟨j1, j2, j3, j4, j5, j6⟩ := linesG_like (linesOf at_ n) σ h.ok (by omega)
  have hc1 : (linesG σ (linesOf at_ n)).cnt ≤ σ.cnt + 600000 := by rw [j6]; split <;> omega
  have hf1 : Few (linesG σ (linesOf at_ n)) := ⟨by rw [j4]; exact h.few.one, by have := h.few.cnt; omega⟩
  have hd0 := h.dev.below hB0
  have hnf : ¬ Foot b L σ rb := fun hf => by have := h.dev.foot_is hf; omega
  have hrl := lt_of_heap hrow
  refine (qturn_gen hd0 h.ok h.on at_ n hn hlen rb 2 rgF (rgA b at_ n) (fun j W => ∃ s, rgS at_ n σ j s ∧ Atd W0 b L σ W s (if j = 0 then 0 else (linesOf at_ n).length)) (fun c W => ∃ s, RunD (rngF at_ n) σ c s ∧ Atd W0 b L σ W s (linesOf at_ n).length) (fun j hj => ?_) (by omega) (fun j W hP i hi => ?_) (fun j hj W hP => ?_) (fun W hB => ⟨σ, rfl, Atd.start hd0 hB⟩) (fun W hP => hP)).mono ?_
  · obtain rfl | rfl := two_of hj
    · exact enters_of Try.func58 (by kernel_rfl) rfl
    · exact enters_of Try.func41 (by kernel_rfl) rfl
  · obtain ⟨s, _, hP⟩ := hP
    have hr := (hP.1.block hrl hnf).trans hrow
    obtain rfl | rfl := two_of hi
    · exact cell8 hr 0
    · exact cell8 hr 1
  · obtain ⟨s, hs, hg, L', hd, hf, hN'⟩ := hP
    obtain rfl | rfl := two_of hj
    · obtain rfl : s = σ := hs
      have hN0 : L'.N ≤ L.N + 0 := hN'
      have hnum := h.num
      refine (callsIn_wide.1 (qflushG_in (at_ := at_) (n := n) hd h.ok h.on (by omega) h.few (by omega) hlen (by omega))).mono ?_
      rintro e W' ⟨c, s2, L2, rfl, h0, h1, h2, h3, h4, _⟩
      have r0 := fl_run h.ok (by omega) h0
      have h5 := Atd.go hg hf hN0 h1 h2 h3 h4
      exact ⟨c, rfl, fun e0 => ⟨s2, by subst e0; exact r0, h5.more (by simp)⟩, fun e0 => ⟨s2, by obtain rfl := r0.five e0; exact r0.app5, h5.more (by omega)⟩⟩
    · have hs1 : RunD (fls (linesOf at_ n)) σ 0 s := hs
      have e1 : s = linesG σ (linesOf at_ n) := by rw [hs1.zero, fls_acts]
      have hN2 : L'.N ≤ L.N + (linesOf at_ n).length := hN'
      rw [e1] at hd hf
      refine (pfence_gen hd j1 (j5.trans h.on) hf1 (by rw [j3]; omega)).mono ?_
      rintro e W' ⟨c, s3, L2, rfl, h0, h1, h2, h3, h4, _⟩
      rw [← e1] at h0
      have h5 := Atd.go (m2 := 0) hg hf hN2 h1 h2 h3 (by omega)
      have hp : RunD (rngF at_ n) σ c s3 := hs1.app0 (RunD.one (f := fnA) h0 rfl) (by rw [e1]; exact j4)
      exact ⟨c, rfl, fun e0 => ⟨s3, by subst e0; exact hp, h5⟩, fun e0 => ⟨s3, hp, h5⟩⟩
  · rintro e w' ⟨c, rfl, s, hA⟩
    exact ⟨c, s, rfl, hA⟩
set_option maxRecDepth 100000 in
set_option maxHeartbeats 400000 in
theorem dv_range (at_ n : Nat) (h : Dv w b L σ) (hops : σ.ops + 2000000 ≤ 1400000000000) (hn : 1 ≤ n) (hlen : at_ + n ≤ 64 * σ.n) :
    Calls Try.prog 32 #[.pointer (some ⟨b, 0, none⟩), .int .i64 (at_ : Int), .int .i64 (n : Int)] w fun e w' => ∃ c s, e = .returned (.int .i64 c) ∧ RunD (rngF at_ n) σ c s ∧ Atd w b L σ w' s (rngF at_ n).length := by
  obtain ⟨W0, hW0⟩ : ∃ W0, (w.alloc (.cells #[.pointer (some ⟨b, 0, none⟩), .int .i64 (at_ : Int), .int .i64 (n : Int)] 112)).alloc (.cells #[.func (.func 58) #[.agg #[.pointer (some ⟨b, 0, none⟩), .int .i64 (at_ : Int), .int .i64 (n : Int)]] #[], .func (.func 41) #[.pointer (some ⟨b, 0, none⟩)] #[]] 136) = W0 := ⟨_, rfl⟩
  have hB0 : Below w.heap.size w W0 := by rw [← hW0]; exact ((Below.refl _ w).alloc (Nat.le_refl _) _).alloc (by simp) _
  have hrow : W0.heap[w.heap.size + 1]? = some (.cells #[.func (.func (rgF 0)) (rgA b at_ n 0) #[], .func (.func (rgF 1)) (rgA b at_ n 1) #[]] 136 (0, 0)) := by
    rw [← hW0]
    have := heap_alloc_new (w.alloc (.cells #[.pointer (some ⟨b, 0, none⟩), .int .i64 (at_ : Int), .int .i64 (n : Int)] 112)) (.cells #[.func (.func 58) #[.agg #[.pointer (some ⟨b, 0, none⟩), .int .i64 (at_ : Int), .int .i64 (n : Int)]] #[], .func (.func 41) #[.pointer (some ⟨b, 0, none⟩)] #[]] 136)
    rw [World.size_alloc] at this
    exact this
  have kt := range_turn at_ n (w.heap.size + 1) W0 hB0 h hops hn hlen (by omega) hrow
  rw [← hW0] at kt
  have KT := hide kt
  have HB0 := hide hB0
  have HW0 := hide hW0
  clear h hops hn hlen kt hB0 hrow hW0
  go_enter Try.func32, Try.ntmps32
  go_wp2_with (go_at_call 57; refine (KT.out).mono ?_; rintro e W1 ⟨c, s, rfl, hp, hA⟩; have HAT := hide hA; have HP := hide hp; clear hA hp)
  go_ret
  refine ⟨c, s, rfl, HP.out, ?_⟩
  have h5 := HAT.out
  rw [HW0.out] at h5
  have h6 := h5.base HB0.out
  exact h6.more (by unfold rngF; rw [List.length_append, fls_len]; simp)
end
end Go.Proofs.Ytgfgihpkbbjkfaa
namespace Go.Proofs.Ytgfgihpkbbjkfaa
open Go.RowKit Go.Shelf
set_option linter.unusedVariables false

theorem bytes_of_lines {a b : List Nat} {n : Nat} (ha : a.length = 64 * n) (hb : b.length = 64 * n) (h : ∀ j, j < n → (a.drop (64 * j)).take 64 = (b.drop (64 * j)).take 64) : a = b := by
  apply List.ext_getElem?
  intro i
  by_cases hi : i < 64 * n
  · have h1 := h (i / 64) (by omega)
    have h2 : ((a.drop (64 * (i / 64))).take 64)[i % 64]? = ((b.drop (64 * (i / 64))).take 64)[i % 64]? := by rw [h1]
    rw [List.getElem?_take, List.getElem?_take, if_pos (by omega), if_pos (by omega), List.getElem?_drop, List.getElem?_drop] at h2
    rwa [show 64 * (i / 64) + i % 64 = i by omega] at h2
  · rw [List.getElem?_eq_none (by omega), List.getElem?_eq_none (by omega)]
theorem words1 {at_ : Nat} (hat : at_ % 8 = 0) (h : at_ + 8 ≤ 4194304) : wordsOf at_ 8 = [at_ / 8] := by
  rw [wordsOf_eq at_ 8 h, if_neg (by omega)]
  have : (at_ + 8 - 1) / 8 - at_ / 8 + 1 = 1 := by omega
  rw [this]
  simp
theorem lines1 {at_ : Nat} (hat : at_ % 8 = 0) (h : at_ + 8 ≤ 4194304) : linesOf at_ 8 = [at_ / 64] := by
  unfold linesOf unitsV
  rw [if_neg (by omega)]
  unfold upto
  have e1 : (((at_ : Int) + (8 : Nat) - 1) / 64 - (at_ : Int) / 64 + 1).toNat = 1 := by omega
  rw [e1]
  simp
  omega
theorem leB_len (v : Nat) : (leB 8 v).length = 8 := by simp [leB]
section
variable {σ : St} {v at_ : Nat}
theorem wordA_bytes (hok : σ.Ok) (hat : at_ % 8 = 0) (hlen : at_ + 8 ≤ 64 * σ.n) : (wordA (leB 8 v) at_ σ (at_ / 8)).bytes = splice σ.bytes at_ (leB 8 v) := by
  have h := wordDo_bytes (bs := leB 8 v) (at_ := at_) (no := at_ / 8) hok.len (by omega) at_ (by omega) (by omega)
  show (wordDo (leB 8 v) at_ σ (at_ / 8)).bytes = _
  rw [h, hat, Nat.sub_self, List.drop_zero, List.take_of_length_le (by rw [leB_len]; omega)]
theorem wordA_past (i : Nat) : (wordA (leB 8 v) at_ σ (at_ / 8)).past i = if i = at_ / 64 then σ.past (at_ / 64) ++ [σ.line (at_ / 64)] else σ.past i := by
  have e : at_ / 8 / 8 = at_ / 64 := by omega
  show (if i = at_ / 8 / 8 then σ.past (at_ / 8 / 8) ++ [σ.line (at_ / 8 / 8)] else σ.past i) = _
  rw [e]
/-- Other lines are as they were. -/
theorem other_line {l p : List Nat} {n j : Nat} (hl : l.length = 64 * n) (hp : at_ % 64 + p.length ≤ 64) (hat : at_ / 64 < n) (hj : j ≠ at_ / 64) : ((splice l at_ p).drop (64 * j)).take 64 = (l.drop (64 * j)).take 64 := by
  apply List.ext_getElem?
  intro i
  rw [List.getElem?_take, List.getElem?_take]
  by_cases hi : i < 64
  · rw [if_pos hi, if_pos hi, List.getElem?_drop, List.getElem?_drop, splice_get l p at_ (64 * j + i) (by omega)]
    by_cases h1 : 64 * j + i < at_
    · rw [if_pos h1]
    · rw [if_neg h1, if_neg (by omega)]
  · rw [if_neg hi, if_neg hi]
theorem lost_one {t s : St} {kp : List Nat} (hl : σ.bytes.length = 64 * σ.n) (hat : at_ % 8 = 0) (hlen : at_ + 8 ≤ 64 * σ.n) (htn : t.n = σ.n) (htb : t.bytes = splice σ.bytes at_ (leB 8 v)) (htp : ∀ i, t.past i = if i = at_ / 64 then [σ.line (at_ / 64)] else []) (h : Lost t kp s) : s.bytes = splice σ.bytes at_ (leB 8 v) ∨ s.bytes = σ.bytes := by
  have hlw : (splice σ.bytes at_ (leB 8 v)).length = 64 * σ.n := by rw [length_splice _ _ _ (by rw [leB_len]; omega), hl]
  have hsl : s.bytes.length = 64 * σ.n := by rw [h.len, htn]
  have hlines : ∀ j, j < σ.n → s.line j = lost t kp j := fun j hj => h.lines j (by rw [htn]; exact hj)
  have hne : ∀ j, j ≠ at_ / 64 → lost t kp j = t.line j := fun j hj => by
    unfold lost
    rw [htp j, if_neg hj]
    simp
  have htl : ∀ j, t.line j = ((splice σ.bytes at_ (leB 8 v)).drop (64 * j)).take 64 := fun j => by unfold St.line; rw [htb]
  by_cases hk : lost t kp (at_ / 64) = t.line (at_ / 64)
  · left
    refine bytes_of_lines hsl hlw (fun j hj => ?_)
    have h1 : s.line j = t.line j := by
      rw [hlines j hj]
      by_cases e : j = at_ / 64
      · rw [e]; exact hk
      · exact hne j e
    rw [← htl j]
    exact h1
  · right
    have hk2 : lost t kp (at_ / 64) = σ.line (at_ / 64) := by
      unfold lost at hk ⊢
      rw [htp, if_pos rfl] at hk ⊢
      cases hq : lostK t kp (at_ / 64) with
      | zero => rfl
      | succ q => rw [hq] at hk; simp at hk
    refine bytes_of_lines hsl hl (fun j hj => ?_)
    have h1 : s.line j = (σ.bytes.drop (64 * j)).take 64 := by
      rw [hlines j hj]
      by_cases e : j = at_ / 64
      · rw [e]; exact hk2
      · rw [hne j e, htl j]
        exact other_line hl (by rw [leB_len]; omega) (by omega) e
    exact h1
theorem lost_none {t s : St} {kp : List Nat} (hl : t.bytes.length = 64 * t.n) (htp : ∀ i, t.past i = []) (h : Lost t kp s) : s.bytes = t.bytes := by
  refine bytes_of_lines (n := t.n) h.len hl (fun j hj => ?_)
  have h1 : s.line j = t.line j := by
    rw [h.lines j hj]
    unfold lost
    rw [htp j]
    simp
  exact h1
/-- What Publish leaves of a device whose lines had one content each, where a loss waits behind n operations. -/
theorem pub_whole {s : St} {c : Int} {n : Nat} {kp : List Nat} (hok : σ.Ok) (hp : ∀ i, σ.past i = []) (hc0 : σ.cnt = 0) (ho0 : σ.ops = 0) (hoff : σ.off = false) (ha : σ.arms = [(n, kp)]) (h1 : 1 ≤ n) (h4 : n ≤ 4) (hat : at_ % 8 = 0) (hlen : at_ + 8 ≤ 64 * σ.n) (hv : v < 18446744073709551616) (h : PubD v at_ σ c s) :
    s.Ok ∧ s.n = σ.n ∧ ((n ≤ 3 ∧ c = 5 ∧ s.off = true ∧ (s.bytes = splice σ.bytes at_ (leB 8 v) ∨ n < 3 ∧ s.bytes = σ.bytes)) ∨ (n = 4 ∧ c = 0 ∧ s.off = false ∧ s.bytes = splice σ.bytes at_ (leB 8 v) ∧ ∀ i, s.past i = [])) := by
  have hm := hok.max
  have hl2 : at_ + 8 ≤ 4194304 := by omega
  unfold PubD at h
  rw [words1 hat hl2, lines1 hat hl2] at h
  have hlw : (splice σ.bytes at_ (leB 8 v)).length = 64 * σ.n := by rw [length_splice _ _ _ (by rw [leB_len, hok.len]; omega), hok.len]
  have hb1 := wordA_bytes (σ := σ) (v := v) hok hat hlen
  have hp1 : ∀ i, (wordA (leB 8 v) at_ σ (at_ / 8)).past i = if i = at_ / 64 then [σ.line (at_ / 64)] else [] := fun i => by
    rw [wordA_past]
    by_cases e : i = at_ / 64
    · rw [if_pos e, if_pos e, hp]; rfl
    · rw [if_neg e, if_neg e, hp]
  obtain ⟨q1, q2⟩ := word_part (at_ := at_) (no := at_ / 8) (leB_lt 8 v) hok (by omega)
  have hk1 : St.Ok { wordA (leB 8 v) at_ σ (at_ / 8) with ops := σ.ops + 1 } := put_ok hok (by omega) q1 q2 (by omega)
  have hs1e : writeG (leB 8 v) at_ σ [at_ / 8] = tick (wordA (leB 8 v) at_ σ (at_ / 8)) := rfl
  rcases h with ⟨rfl, hw⟩ | ⟨s1, hw, h⟩
  · rcases hw with ⟨e, _⟩ | ⟨_, pre, no, hpre, hop⟩
    · cases e
    · obtain ⟨rfl, rfl⟩ : pre = [] ∧ no = at_ / 8 := by
        have hl := hpre.length_le
        simp at hl
        subst hl
        obtain ⟨t, ht⟩ := hpre
        simp at ht
        exact ⟨rfl, ht.1⟩
      have hop : Opd (wordA (leB 8 v) at_ σ (at_ / 8)) 5 s := hop
      rcases hop with ⟨e, _⟩ | ⟨af, kp', rest', e, ⟨_, e2, _⟩ | ⟨e1, _, hL⟩⟩
      · have e : σ.arms = [] := e
        rw [ha] at e; cases e
      · cases e2
      · have e : σ.arms = (af, kp') :: rest' := e
        rw [ha] at e
        cases e
        have e1 : n ≤ σ.cnt + 1 := e1
        rw [hc0] at e1
        have hokL : St.Ok { wordA (leB 8 v) at_ σ (at_ / 8) with ops := σ.ops + 1, arms := [], cnt := 0 } := ⟨hk1.pos, hk1.max, hk1.len, hk1.byte, hk1.out, hk1.clen, hk1.cbyte, hk1.few, hk1.flp, hk1.opsm⟩
        refine ⟨Lost.ok hokL hL, hL.n, .inl ⟨by omega, rfl, hL.off, ?_⟩⟩
        rcases lost_one (t := { wordA (leB 8 v) at_ σ (at_ / 8) with ops := σ.ops + 1, arms := [], cnt := 0 }) hok.len hat hlen rfl hb1 hp1 hL with r | r
        · exact .inl r
        · exact .inr ⟨by omega, r⟩
  · obtain ⟨es1, hf1⟩ := hw.zero
    rw [hs1e] at es1
    have hn1 := hf1 n kp [] ha (by simp)
    rw [hc0] at hn1
    simp only [List.length_singleton] at hn1
    subst es1
    have hk1' := tick_ok hk1
    have ha1 : (tick (wordA (leB 8 v) at_ σ (at_ / 8))).arms = [(n, kp)] := ha
    have hc1 : (tick (wordA (leB 8 v) at_ σ (at_ / 8))).cnt = 1 := by
      show (if σ.arms = [] then σ.cnt else σ.cnt + 1) = 1
      rw [if_neg (by rw [ha]; simp), hc0]
    have ho1 : (tick (wordA (leB 8 v) at_ σ (at_ / 8))).ops = 1 := by show σ.ops + 1 = 1; rw [ho0]
    have hn1' : (tick (wordA (leB 8 v) at_ σ (at_ / 8))).n = σ.n := rfl
    have hb1' : (tick (wordA (leB 8 v) at_ σ (at_ / 8))).bytes = splice σ.bytes at_ (leB 8 v) := hb1
    have hp1' : ∀ i, (tick (wordA (leB 8 v) at_ σ (at_ / 8))).past i = if i = at_ / 64 then [σ.line (at_ / 64)] else [] := hp1
    have hof1 : (tick (wordA (leB 8 v) at_ σ (at_ / 8))).off = false := hoff
    generalize tick (wordA (leB 8 v) at_ σ (at_ / 8)) = s1 at *
    have hk2 : St.Ok { flA s1 (at_ / 64) with ops := s1.ops + 1 } := flush_ok hk1' (at_ / 64) (by omega)
    rcases h with ⟨rfl, hfl⟩ | ⟨s2, hfl, hop⟩
    · rcases hfl with ⟨e, _⟩ | ⟨_, pre, no, hpre, hop⟩
      · cases e
      · obtain ⟨rfl, rfl⟩ : pre = [] ∧ no = at_ / 64 := by
          have hl := hpre.length_le
          simp at hl
          subst hl
          obtain ⟨t, ht⟩ := hpre
          simp at ht
          exact ⟨rfl, ht.1⟩
        have hop : Opd (flA s1 (at_ / 64)) 5 s := hop
        rcases hop with ⟨e, _⟩ | ⟨af, kp', rest', e, ⟨_, e2, _⟩ | ⟨e1, _, hL⟩⟩
        · have e : s1.arms = [] := e
          rw [ha1] at e; cases e
        · cases e2
        · have e : s1.arms = (af, kp') :: rest' := e
          rw [ha1] at e
          cases e
          have e1 : n ≤ s1.cnt + 1 := e1
          rw [hc1] at e1
          have hokL : St.Ok { flA s1 (at_ / 64) with ops := s1.ops + 1, arms := [], cnt := 0 } := ⟨hk2.pos, hk2.max, hk2.len, hk2.byte, hk2.out, hk2.clen, hk2.cbyte, hk2.few, hk2.flp, hk2.opsm⟩
          refine ⟨Lost.ok hokL hL, hL.n.trans hn1', .inl ⟨by omega, rfl, hL.off, ?_⟩⟩
          rcases lost_one (t := { flA s1 (at_ / 64) with ops := s1.ops + 1, arms := [], cnt := 0 }) hok.len hat hlen hn1' hb1' hp1' hL with r | r
          · exact .inl r
          · exact .inr ⟨by omega, r⟩
    · obtain ⟨es2, hf2⟩ := hfl.zero
      have hn2 := hf2 n kp [] ha1 (by simp)
      rw [hc1] at hn2
      simp only [List.length_singleton] at hn2
      have es2 : s2 = tick (flA s1 (at_ / 64)) := es2
      have hp2 : (fnA s2).past = fun _ => [] := by
        funext i
        rw [es2]
        show fenP (tick (flA s1 (at_ / 64))) false i = []
        have hfi : (tick (flA s1 (at_ / 64))).fl i = if i = at_ / 64 ∧ s1.past (at_ / 64) ≠ [] then some (s1.past (at_ / 64)).length else s1.fl i := rfl
        have hpi : (tick (flA s1 (at_ / 64))).past i = s1.past i := rfl
        unfold fenP
        rw [hfi, hpi]
        by_cases e : i = at_ / 64
        · rw [if_pos ⟨e, by rw [hp1']; simp⟩, e]
          simp
        · rw [if_neg (fun h => e h.1), hp1' i, if_neg e]
          cases s1.fl i <;> simp
      have hb2 : (fnA s2).bytes = splice σ.bytes at_ (leB 8 v) := by rw [es2]; exact hb1'
      have ha2 : s2.arms = [(n, kp)] := by rw [es2]; exact ha1
      have hc2 : s2.cnt = 2 := by
        rw [es2]
        show (if s1.arms = [] then s1.cnt else s1.cnt + 1) = 2
        rw [if_neg (by rw [ha1]; simp), hc1]
      have hk2' : s2.Ok := by rw [es2]; exact tick_ok hk2
      have hs2n : s2.n = σ.n := by rw [es2]; exact hn1'
      have hs2o : s2.off = false := by rw [es2]; exact hof1
      have ho2 : s2.ops = 2 := by rw [es2]; show s1.ops + 1 = 2; rw [ho1]
      have hk3 : St.Ok { fnA s2 with ops := s2.ops + 1 } := fence_ok (σ := s2) hk2' (by omega)
      rcases hop with ⟨e, _⟩ | ⟨af, kp', rest', e, ⟨e1, e2, e3⟩ | ⟨e1, e2, hL⟩⟩
      · have e : s2.arms = [] := e
        rw [ha2] at e; cases e
      · have e : s2.arms = (af, kp') :: rest' := e
        rw [ha2] at e
        cases e
        have e1 : s2.cnt + 1 < n := e1
        rw [hc2] at e1
        subst e3
        refine ⟨⟨hk3.pos, hk3.max, hk3.len, hk3.byte, hk3.out, hk3.clen, hk3.cbyte, hk3.few, hk3.flp, hk3.opsm⟩, hs2n, .inr ⟨by omega, e2, hs2o, hb2, fun i => ?_⟩⟩
        show (fnA s2).past i = []
        rw [hp2]
      · have e : s2.arms = (af, kp') :: rest' := e
        rw [ha2] at e
        cases e
        have e1 : n ≤ s2.cnt + 1 := e1
        rw [hc2] at e1
        have hokL : St.Ok { fnA s2 with ops := s2.ops + 1, arms := [], cnt := 0 } := ⟨hk3.pos, hk3.max, hk3.len, hk3.byte, hk3.out, hk3.clen, hk3.cbyte, hk3.few, hk3.flp, hk3.opsm⟩
        refine ⟨Lost.ok hokL hL, hL.n.trans hs2n, .inl ⟨by omega, e2, hL.off, .inl ?_⟩⟩
        refine (lost_none (t := { fnA s2 with ops := s2.ops + 1, arms := [], cnt := 0 }) hokL.len (fun i => ?_) hL).trans hb2
        show (fnA s2).past i = []
        rw [hp2]
end
end Go.Proofs.Ytgfgihpkbbjkfaa
namespace Go.Proofs.Ytgfgihpkbbjkfaa
open Go.RowKit Go.Shelf
set_option linter.unusedVariables false

section
variable {w W : World} {b : Nat} {L : Lay}
theorem q_new : Calls Try.prog 49 #[.int .i64 128] w fun e W => ∃ b L, e = .returned (.tuple #[.pointer (some ⟨b, 0, none⟩), .int .i64 0]) ∧ AtQ w W b L (newD 2) := by
  refine (pnew_any w 2 (by omega) (by omega)).mono ?_
  rintro e W ⟨b, L, rfl, h1, h2, h3, h4⟩
  exact ⟨b, L, rfl, h1, newD_ok (by omega) (by omega), by rw [h4]; exact Nat.zero_le _, h2, h3⟩
theorem q_pub (h : AtQ w W b L q1) : Calls Try.prog 59 #[.pointer (some ⟨b, 0, none⟩), .int .i64 8, .int .u64 258] W fun e W' => e = .returned (.int .i64 0) ∧ ∃ L', AtQ w W' b L' q2 := by
  obtain ⟨g1, g2, g3, g4, g5⟩ := q1_like
  obtain ⟨h1, h2, h3, _⟩ := q2_like
  refine (qpub_any 258 8 h.dev h.ok g5 h.num g4 (by rw [g3]; omega) (by omega) (by omega) (by rw [g2]; omega)).mono ?_
  rintro e W' ⟨rfl, ha⟩
  exact ⟨rfl, h.atd ha h1 (by rw [wQ8, lQ8, h3, g3]; show 5 + (1 + 1) ≤ 8; omega)⟩
theorem q_cr (h : AtQ w W b L q2) : Calls Try.prog 44 #[.pointer (some ⟨b, 0, none⟩), .slice none 0 0] W fun e W' => e = .returned (.int .i64 0) ∧ ∃ L' σ', Lost q2 [] σ' ∧ AtQ w W' b L' σ' := by
  refine (pcrash_any (a := none) (kp := []) 0 h.dev h.ok q2_like.2.2.2.2 ⟨by simp, .inl ⟨rfl, rfl⟩⟩ (by simp)).mono ?_
  rintro e W' ⟨rfl, L', σ', h1, h2, h3, h4, h5⟩
  refine ⟨rfl, L', σ', h1, h.step h2 (Lost.ok h.ok h1) h3 (fun k hk => hk.elim (fun e => .inl e) (fun e => .inr (.inl e))) h4 ?_⟩
  have := h.num
  rw [h1.ops]
  omega
theorem q_wk {σ' : St} (h : AtQ w W b L σ') (ho : σ'.off = true) : Calls Try.prog 17 #[.pointer (some ⟨b, 0, none⟩)] W fun e W' => e = .returned (.int .i64 0) ∧ AtQ w W' b L { σ' with off := false } := by
  refine (pwake_off h.dev ho).mono ?_
  rintro e W' ⟨rfl, h1, h2⟩
  refine ⟨rfl, h.step h2 ⟨h.ok.pos, h.ok.max, h.ok.len, h.ok.byte, h.ok.out, h.ok.clen, h.ok.cbyte, h.ok.few, h.ok.flp, h.ok.opsm⟩ (fun k hk => .inl hk) (X := fun k => k = b) (fun k hk => .inl hk) ?_ h.num⟩
  rw [h1]
  exact Gr.set W b 7 _ rfl
theorem q_ld {σ' : St} (h : AtQ w W b L { σ' with off := false }) (hl : Lost q2 [] σ') (at_ n : Nat) (hn : at_ + n ≤ 64) (W2 : World) (hB : Below W.heap.size W W2) : Calls Try.prog 21 #[.pointer (some ⟨b, 0, none⟩), .int .i64 (at_ : Int), .int .i64 (n : Int)] W2 fun e W' => ∃ R, e = .returned (.tuple #[.slice (some ⟨R, 0, none⟩) n n, .int .i64 0]) ∧ OwnB W' R ((lineQ.drop at_).take n) ∧ Below W2.heap.size W2 W' := by
  have hn2 : σ'.n = 2 := by rw [hl.n]; exact q2_like.2.1
  refine (callsIn_wide.1 (pload_in (at_ := at_) (n := n) (h.dev.below hB) h.ok rfl (by show at_ + n ≤ 64 * σ'.n; rw [hn2]; omega))).mono ?_
  rintro e W' ⟨R, rfl, h1, h2, h3⟩
  refine ⟨R, rfl, ?_, h3⟩
  have hli := hl.lines 0 (by rw [q2_like.2.1]; omega)
  rw [q2_lost] at hli
  have hb : (σ'.bytes.drop at_).take n = (lineQ.drop at_).take n := by
    rw [← hli]
    unfold St.line
    refine List.ext_getElem? fun q => ?_
    rw [List.getElem?_take, List.getElem?_take, List.getElem?_drop, List.getElem?_drop, List.getElem?_take]
    split
    · rw [if_pos (by omega)]
      simp
    · rfl
  have h6 : W'.heap[R]? = some (.cells (((σ'.bytes.drop at_).take n).map B8).toArray 5 (0, 0)) := h2
  rw [hb] at h6
  exact h6
end
end Go.Proofs.Ytgfgihpkbbjkfaa
namespace Go.Proofs.Ytgfgihpkbbjkfaa
open Go.RowKit
set_option linter.unusedVariables false

theorem within_eq (i n : Int) (hn : 0 < n) : (if i.tmod n < 0 then i.tmod n + n else i.tmod n) = i % n ∧ -n < i.tmod n ∧ i.tmod n < n := by
  have h1 := Int.mul_tdiv_add_tmod i n
  have h2 : i.tmod n < n := Int.tmod_lt_of_pos i hn
  have h3 : -n < i.tmod n := by
    have h := Int.lt_tmod_of_pos i hn
    omega
  have h4 : i % n = (i.tmod n) % n := by
    have h5 : i % n = (i.tmod n + n * i.tdiv n) % n := by rw [Int.add_comm, h1]
    rw [h5, Int.add_mul_emod_self_left]
  refine ⟨?_, h3, h2⟩
  rw [h4]
  split
  · rename_i h
    rw [← Int.add_emod_right, Int.emod_eq_of_lt (by omega) (by omega)]
  · rename_i h
    rw [Int.emod_eq_of_lt (by omega) h2]
end Go.Proofs.Ytgfgihpkbbjkfaa
namespace Go.Proofs.Ytgfgihpkbbjkfaa
open Go.RowKit
set_option linter.unusedVariables false

def bitStep (r : Nat) : Nat := if r % 2 = 1 then (r / 2) ^^^ 2197175160 else r / 2
def bitSteps : Nat → Nat → Nat
  | 0, r => r
  | n + 1, r => bitStep (bitSteps n r)
def byteStep (r x : Nat) : Nat := bitSteps 8 (r ^^^ x)
def runs (r : Nat) (bs : List Nat) : Nat := bs.foldl byteStep r
def moreV (s : Nat) (bs : List Nat) : Nat := 4294967295 ^^^ runs (4294967295 ^^^ s) bs

theorem bitStep_lt (r : Nat) (h : r < 4294967296) : bitStep r < 4294967296 := by
  unfold bitStep
  split
  · exact Nat.xor_lt_two_pow (n := 32) (by omega) (by omega)
  · omega
theorem bitSteps_lt (n r : Nat) (h : r < 4294967296) : bitSteps n r < 4294967296 := by
  induction n with
  | zero => exact h
  | succ n ih => exact bitStep_lt _ ih
theorem xor_lt32 (a b : Nat) (ha : a < 4294967296) (hb : b < 4294967296) : a ^^^ b < 4294967296 := Nat.xor_lt_two_pow (n := 32) ha hb
theorem byteStep_lt (r x : Nat) (h : r < 4294967296) (hx : x < 256) : byteStep r x < 4294967296 := bitSteps_lt 8 _ (xor_lt32 _ _ h (by omega))
theorem runs_snoc (r : Nat) (bs : List Nat) (x : Nat) : runs r (bs ++ [x]) = byteStep (runs r bs) x := by simp [runs]
theorem runs_append (r : Nat) (a b : List Nat) : runs r (a ++ b) = runs (runs r a) b := by simp [runs]
theorem runs_lt (r : Nat) (bs : List Nat) (h : r < 4294967296) (hb : ∀ x ∈ bs, x < 256) : runs r bs < 4294967296 := by
  induction bs generalizing r with
  | nil => exact h
  | cons x t ih => exact ih (byteStep r x) (byteStep_lt _ _ h (hb x (by simp))) (fun y hy => hb y (by simp [hy]))
theorem moreV_lt (s : Nat) (bs : List Nat) (h : s < 4294967296) (hb : ∀ x ∈ bs, x < 256) : moreV s bs < 4294967296 :=
  xor_lt32 _ _ (by omega) (runs_lt _ _ (xor_lt32 _ _ (by omega) h) hb)
theorem moreV_append (s : Nat) (a b : List Nat) : moreV s (a ++ b) = moreV (moreV s a) b := by
  unfold moreV
  rw [runs_append, ← Nat.xor_assoc, Nat.xor_self, Nat.zero_xor]
theorem moreV_nil (s : Nat) : moreV s [] = s := by
  unfold moreV runs
  rw [List.foldl_nil, ← Nat.xor_assoc, Nat.xor_self, Nat.zero_xor]

theorem step_eq (Q : Nat) (h : Q < 4294967296) :
    bits BinOp.xor IntKind.u32 ((Q : Int) / 2) (bits BinOp.and IntKind.u32 2197175160 (-bits BinOp.and IntKind.u32 (Q : Int) 1 % 4294967296)) = ((bitStep Q : Nat) : Int) := by
  have e1 : bits BinOp.and IntKind.u32 (Q : Int) 1 = ((Q % 2 : Nat) : Int) := by
    have := u32_and_nat Q 1 h (by omega)
    rw [Nat.and_one_is_mod] at this
    exact this
  rw [e1]
  have e2 : ((Q : Int) / 2) = ((Q / 2 : Nat) : Int) := by omega
  rw [e2]
  unfold bitStep
  rcases Nat.mod_two_eq_zero_or_one Q with h0 | h1
  · rw [h0, if_neg (by omega)]
    have e3 : bits BinOp.and IntKind.u32 2197175160 (-((0 : Nat) : Int) % 4294967296) = ((0 : Nat) : Int) := by
      have := u32_and_nat 2197175160 0 (by omega) (by omega)
      simpa using this
    rw [e3]
    have := u32_xor_nat (Q / 2) 0 (by omega) (by omega)
    simpa using this
  · rw [h1, if_pos rfl]
    have e3 : bits BinOp.and IntKind.u32 2197175160 (-((1 : Nat) : Int) % 4294967296) = ((2197175160 : Nat) : Int) := by
      have := u32_and_nat 2197175160 4294967295 (by omega) (by omega)
      have e4 : (2197175160 &&& 4294967295 : Nat) = 2197175160 := by decide
      rw [e4] at this
      exact this
    rw [e3]
    exact u32_xor_nat (Q / 2) 2197175160 (by omega) (by omega)

theorem inv_eq (s : Nat) (h : s < 4294967296) : bits BinOp.xor IntKind.u32 IntKind.u32.max (s : Int) = ((4294967295 ^^^ s : Nat) : Int) :=
  u32_xor_nat 4294967295 s (by omega) h
theorem mix_eq (r x : Nat) (h : r < 4294967296) (hx : x < 256) : bits BinOp.xor IntKind.u32 (r : Int) (x : Int) = ((r ^^^ x : Nat) : Int) :=
  u32_xor_nat r x h (by omega)
theorem int_congr {k : IntKind} {a b : Int} (h : a = b) : Value.int k a = Value.int k b := by rw [h]
theorem ret_int {k : IntKind} {a b : Int} (h : a = b) : Ending.returned (.int k a) = .returned (.int k b) := by rw [h]

set_option maxHeartbeats 400000 in
theorem more_some (s : Nat) (a : Option Addr) (cap : Nat) (bs : List Nat) (w : World) (hs : s < 4294967296) (hg : Sl w a bs) (hl : bs.length ≤ maxLen) :
    Calls Try.prog 87 #[.int .u32 s, .slice a bs.length cap] w fun e w' => e = .returned (.int .u32 (moreV s bs)) ∧ w' = w := by
  unfold maxLen at hl
  have hinv := inv_eq s hs
  have hi32 := xor_lt32 4294967295 s (by omega) hs
  go_enter Try.func87, Try.ntmps87
  go_wp2
  go_loop [5, 13] (fun r i => ∃ k R : Nat, k ≤ bs.length ∧ R < 4294967296 ∧ i = .int .i64 k ∧ r = .int .u32 R ∧ R = runs (4294967295 ^^^ s) (bs.take k)) (fun _ i => bs.length - (intOf i).toNat)
  case atStart => exact ⟨0, 4294967295 ^^^ s, Nat.zero_le _, hi32, rfl, rfl, rfl⟩
  case round =>
    obtain ⟨k, R, hk, hR, rfl, rfl, hRk⟩ := hrel
    have HR : Hid (R = runs (4294967295 ^^^ s) (bs.take k)) := hRk
    clear hRk
    by_cases hlt : k < bs.length
    · obtain ⟨x, hx⟩ : ∃ x, bs[k]? = some x := ⟨_, List.getElem?_eq_getElem hlt⟩
      obtain ⟨b, off, rfl, _, hseg⟩ : ∃ b off, a = some ⟨b, off, none⟩ ∧ b < w.heap.size ∧ Seg w b off bs := by
        rcases hg with rfl | h
        · simp at hlt
        · exact h
      obtain ⟨hc, hx2⟩ := hseg k x hx
      have HX : Hid (bs[k]? = some x) := hx
      have hmix := mix_eq R x hR hx2
      have hm32 := xor_lt32 R x hR (by omega)
      clear hx hg hseg
      go_wp2
      go_loop [5, 21] (fun r i => ∃ j Q : Nat, j ≤ 8 ∧ Q < 4294967296 ∧ i = .int .i64 j ∧ r = .int .u32 Q ∧ Q = bitSteps j (R ^^^ x)) (fun _ i => 8 - (intOf i).toNat)
      case atStart => exact ⟨0, R ^^^ x, by omega, hm32, rfl, rfl, rfl⟩
      case round =>
        obtain ⟨j, Q, hj, hQ, rfl, rfl, hQj⟩ := hrel
        have HQ : Hid (Q = bitSteps j (R ^^^ x)) := hQj
        clear hQj
        by_cases hj8 : j < 8
        · go_wp2
          go_round
          case rel => exact ⟨j + 1, bitStep Q, by omega, bitStep_lt _ hQ, by go_num, int_congr (step_eq Q hQ), by rw [HQ.out]; rfl⟩
          case measure => simp [intOf]; omega
        · go_wp2
          go_round
          case rel =>
            have e8 : j = 8 := by omega
            refine ⟨k + 1, Q, by omega, hQ, by go_num, rfl, ?_⟩
            rw [List.take_add_one, HX.out]
            simp only [Option.toList_some]
            rw [runs_snoc, ← HR.out, HQ.out, e8]
            rfl
          case measure => simp [intOf]; omega
    · have hfin : k = bs.length := by omega
      have HF : Hid (k = bs.length) := hfin
      clear hfin
      have hinv2 := inv_eq R hR
      go_wp2
      go_ret
      refine ⟨ret_int ?_, rfl⟩
      unfold moreV
      rw [HR.out, HF.out, List.take_length]

def sumV (rs : List (List Nat)) : Nat := moreV 0 rs.flatten
theorem sumV_snoc (rs : List (List Nat)) (r : List Nat) : sumV (rs ++ [r]) = moreV (sumV rs) r := by
  unfold sumV
  rw [List.flatten_append, moreV_append]
  simp
theorem sumV_lt (rs : List (List Nat)) (h : ∀ r ∈ rs, ∀ x ∈ r, x < 256) : sumV rs < 4294967296 :=
  moreV_lt 0 _ (by omega) (fun x hx => by obtain ⟨r, hr, hxr⟩ := List.mem_flatten.1 hx; exact h r hr x hxr)

set_option maxHeartbeats 400000 in
theorem sum_any (a : Option Addr) (cap : Nat) (rs : List (List Nat)) (w : World) (hg : SlR w a rs) (hl : rs.length ≤ maxLen) :
    Calls Try.prog 74 #[.slice a rs.length cap] w fun e w' => e = .returned (.int .u32 (sumV rs)) ∧ w' = w := by
  unfold maxLen at hl
  go_enter Try.func74, Try.ntmps74
  go_wp2
  go_loop [3, 8] (fun r i => ∃ k R : Nat, k ≤ rs.length ∧ R < 4294967296 ∧ i = .int .i64 k ∧ r = .int .u32 R ∧ R = sumV (rs.take k)) (fun _ i => rs.length - (intOf i).toNat)
  case atStart => exact ⟨0, 0, Nat.zero_le _, by omega, rfl, rfl, (moreV_nil 0).symm⟩
  case round =>
    obtain ⟨k, R, hk, hR, rfl, rfl, hRk⟩ := hrel
    have HR : Hid (R = sumV (rs.take k)) := hRk
    clear hRk
    by_cases hlt : k < rs.length
    · obtain ⟨r, hr⟩ : ∃ r, rs[k]? = some r := ⟨_, List.getElem?_eq_getElem hlt⟩
      obtain ⟨b, off, rfl, _, hseg⟩ : ∃ b off, a = some ⟨b, off, none⟩ ∧ b < w.heap.size ∧ ∀ (i : Nat) (r : List Nat), rs[i]? = some r → ∃ ai cap, w.cell? ⟨b, off + i, none⟩ = some (.slice ai r.length cap) ∧ Sl w ai r ∧ r.length ≤ maxLen := by
        rcases hg with rfl | h
        · simp at hlt
        · exact h
      obtain ⟨ai, ci, hc, hsl, hm⟩ := hseg k r hr
      have hx2 := hsl.lt
      have HX : Hid (rs[k]? = some r) := hr
      have HS : Hid (Sl w ai r) := hsl
      have HL : Hid (∀ x ∈ r, x < 256) := hx2
      clear hr hg hseg hsl hx2
      go_wp2_with (go_at_call 87; refine (more_some R ai ci r _ hR HS.out hm).mono ?_; rintro e w' ⟨rfl, rfl⟩)
      go_round
      case rel =>
        refine ⟨k + 1, moreV R r, by omega, moreV_lt _ _ hR HL.out, by go_num, rfl, ?_⟩
        rw [List.take_add_one, HX.out]
        simp only [Option.toList_some]
        rw [sumV_snoc, ← HR.out]
      case measure => simp [intOf]; omega
    · have hfin : k = rs.length := by omega
      have HF : Hid (k = rs.length) := hfin
      clear hfin
      go_wp2
      go_ret
      refine ⟨ret_int ?_, rfl⟩
      rw [HR.out, HF.out, List.take_length]
end Go.Proofs.Ytgfgihpkbbjkfaa
namespace Go.Proofs.Ytgfgihpkbbjkfaa
open Go.RowKit
set_option linter.unusedVariables false

theorem ownB_of_owns {W : World} {base g : Nat} {bs : List Nat} (h : W.ownsRow base 5 1 (.slice (some ⟨g, 0, none⟩) bs.length bs.length) bs.length (bs.map B8)) : OwnB W g bs := by
  rcases h.2 with ⟨h0, _⟩ | ⟨g', cap, cur, hv, _, hg, hn, _, hs, hc⟩
  · cases h0
  · cases hv
    have e : cur = (bs.map B8).toArray := by
      apply Array.ext'
      rw [← hc, List.take_of_length_le (by simp [hs])]
    rw [e] at hg
    exact hg

set_option maxHeartbeats 400000 in
theorem copyBytes_any (a : Option Addr) (cap : Nat) (bs : List Nat) (w : World) (hg : Sl w a bs) (hl : bs.length ≤ 140737488355328) :
    Calls Try.prog 36 #[.slice a bs.length cap] w fun e w' => e = .returned (.slice (some ⟨w.heap.size, 0, none⟩) bs.length bs.length) ∧ OwnB w' w.heap.size bs ∧ Below w.heap.size w w' := by
  obtain ⟨i0, hi, hz0, hz1, hz2⟩ := info_parts Try.info5
  have hmk : ∀ w, Sem.run Try.prog (Instr.makeSlice 33 (.int .i64 0) (.int .i64 (bs.length : Int))) w = .ok (.slice (some ⟨w.heap.size, 0, none⟩) 0 bs.length) (w.alloc (.cells (madeCells #[.int .u8 0] bs.length) 5)) := fun w => by
    have h := run_make (P := Try.prog) w 33 5 i0 (.int .u8 0) Try.underlying33 hi hz0 .i64 .i64 0 bs.length (by omega) (by omega) (by rw [hz2]; omega) (by omega)
    simp only [Int.toNat_zero, Int.toNat_natCast, hz1, Nat.mul_one] at h
    exact h
  have hO : (w.alloc (.cells (madeCells #[.int .u8 0] bs.length) 5)).ownsRow w.heap.size 5 1 (.slice (some ⟨w.heap.size, 0, none⟩) 0 bs.length) 0 [] :=
    World.ownsRow_made w _ bs.length (Nat.le_refl _) (by unfold maxLen; omega) (by simp [size_madeCells])
  have hB : Below w.heap.size w (w.alloc (.cells (madeCells #[.int .u8 0] bs.length) 5)) := (Below.refl _ _).alloc (Nat.le_refl _) _
  go_enter Try.func36, Try.ntmps36
  go_wp2
  clear hmk
  go_loopw [3, 4] (fun v i wr => ∃ k : Nat, k ≤ bs.length ∧ i = .int .i64 k ∧ v = .slice (some ⟨w.heap.size, 0, none⟩) k bs.length ∧ wr.ownsRow w.heap.size 5 1 (.slice (some ⟨w.heap.size, 0, none⟩) k bs.length) k ((bs.take k).map B8) ∧ Below w.heap.size w wr)
    (fun _ i _ => bs.length - (intOf i).toNat)
  case atStart => exact ⟨0, by omega, rfl, rfl, hO, hB⟩
  case round =>
    clear hO hB
    obtain ⟨k, hk, rfl, rfl, hown, hBr⟩ := hrel
    by_cases hlt : k < bs.length
    · obtain ⟨x, hx⟩ : ∃ x, bs[k]? = some x := ⟨_, List.getElem?_eq_getElem hlt⟩
      obtain ⟨b, off, rfl, hbl, hseg⟩ : ∃ b off, a = some ⟨b, off, none⟩ ∧ b < w.heap.size ∧ Seg w b off bs := by
        rcases hg with rfl | h
        · simp at hlt
        · exact h
      have hc : wr.cell? ⟨b, off + k, none⟩ = some (.int .u8 (x : Int)) := (hBr.cell (p := ⟨b, off + k, none⟩) hbl).trans (hseg k x hx).1
      have hki : (k : Int) < (bs.length : Int) := by omega
      have HX := hide hx
      have HB := hide hBr
      have hsz := hBr.size
      clear hx hseg hg hBr
      go_wp2_with (at_builtin; refine wpList_append_fits _ rfl _ _ 33 rfl w.heap.size 5 i0 1 Try.underlying33 hi hz1 w.heap.size k bs.length _ rfl (hown.alloc _) ⟨wr.heap.size, 0, none⟩ 1 1 [.int .u8 (x : Int)] rfl rfl (cell_one_new _ _ _) (by simp [Value.oneCell']) (by omega) ?_; intro w1 hown1 hgrow1)
      go_roundw
      case rel =>
        refine ⟨k + 1, by omega, by go_num, rfl, ?_, ?_⟩
        · rw [List.take_add_one, HX.out]
          simpa [B8] using hown1
        · exact (HB.out.alloc hsz _).grown hgrow1 (by simp; omega) (fun j e => by cases e; exact Nat.le_refl _)
      case measure => simp [intOf]; omega
    · have hkk : k = bs.length := by omega
      subst hkk
      have hki : (bs.length : Int) ≤ (bs.length : Int) := by omega
      have HB := hide hBr
      have HO := hide hown
      clear hBr hown hg
      go_wp2
      go_ret
      have h1 := HO.out
      rw [List.take_length] at h1
      exact ⟨rfl, ownB_of_owns h1, HB.out⟩
theorem eqBytes_len (a b : Option Addr) (n m c d : Nat) (w : World) (h : ((n : Int) != (m : Int)) = true) :
    Calls Try.prog 22 #[.slice a n c, .slice b m d] w fun e w' => e = .returned (.bool false) ∧ w' = w := by
  go_enter Try.func22, Try.ntmps22
  go_wp2
  go_ret
  exact ⟨rfl, rfl⟩

set_option maxHeartbeats 400000 in
theorem eqBytes_same (a b : Option Addr) (c d : Nat) (xs ys : List Nat) (w : World) (ha : Sl w a xs) (hb : Sl w b ys) (hl : xs.length = ys.length) (hm : xs.length ≤ 9223372036854775807) :
    Calls Try.prog 22 #[.slice a xs.length c, .slice b xs.length d] w fun e w' => e = .returned (.bool (decide (xs = ys))) ∧ ∃ n, w' = w.drewN n := by
  have HL := hide hl
  clear hl
  have hne : ((xs.length : Int) != (xs.length : Int)) = false := by simp
  go_enter Try.func22, Try.ntmps22
  go_wp2
  go_loopw [5] (fun i wr => ∃ k n : Nat, k ≤ xs.length ∧ i = .int .i64 k ∧ xs.take k = ys.take k ∧ wr = w.drewN n) (fun i _ => xs.length - (intOf i).toNat)
  case atStart => exact ⟨0, 0, by omega, rfl, rfl, rfl⟩
  case round =>
    obtain ⟨k, n, hk, rfl, htk, rfl⟩ := hrel
    have HT := hide htk
    clear htk
    by_cases hlt : k < xs.length
    · obtain ⟨x, hx⟩ : ∃ x, xs[k]? = some x := ⟨_, List.getElem?_eq_getElem hlt⟩
      obtain ⟨y, hy⟩ : ∃ y, ys[k]? = some y := ⟨_, List.getElem?_eq_getElem (by have := HL.out; omega)⟩
      obtain ⟨b1, o1, rfl, _, hs1⟩ : ∃ b off, a = some ⟨b, off, none⟩ ∧ b < w.heap.size ∧ Seg w b off xs := by
        rcases ha with rfl | h
        · simp at hlt
        · exact h
      obtain ⟨b2, o2, rfl, _, hs2⟩ : ∃ b0 off, b = some ⟨b0, off, none⟩ ∧ b0 < w.heap.size ∧ Seg w b0 off ys := by
        rcases hb with rfl | h
        · simp at hy
        · exact h
      have c1 := (hs1 k x hx).1
      have c2 := (hs2 k y hy).1
      have HX := hide hx
      have HY := hide hy
      clear hx hy hs1 hs2 ha hb
      have hki : (k : Int) < (xs.length : Int) := by omega
      by_cases hxy : x = y
      · have hb1 : ((x : Int) != (y : Int)) = false := by simp [hxy]
        have HXY := hide hxy
        clear hxy
        go_wp2
        go_quiet (fail)
        go_wp2
        go_roundw
        case rel =>
          refine ⟨k + 1, n + nq, by omega, by go_num, ?_, rfl⟩
          rw [List.take_add_one, List.take_add_one, HX.out, HY.out, HT.out, HXY.out]
        case measure => simp [intOf]; omega
      · have hb1 : ((x : Int) != (y : Int)) = true := by simp; omega
        have HXY := hide hxy
        clear hxy
        go_wp2
        go_quiet (fail)
        go_wp2
        go_ret
        refine ⟨ret_bool (Eq.symm (decide_eq_false fun h => HXY.out ?_)), n + nq, by simp⟩
        have h1 := HX.out
        rw [h, HY.out] at h1
        exact (Option.some.inj h1).symm
    · have hkk : k = xs.length := by omega
      subst hkk
      go_wp2
      go_ret
      refine ⟨ret_bool (Eq.symm (decide_eq_true ?_)), _, rfl⟩
      have h1 := HT.out
      rw [List.take_length, HL.out, List.take_length] at h1
      exact h1

theorem eqBytes_any (a b : Option Addr) (c d : Nat) (xs ys : List Nat) (w : World) (ha : Sl w a xs) (hb : Sl w b ys) (hm : xs.length ≤ 9223372036854775807) :
    Calls Try.prog 22 #[.slice a xs.length c, .slice b ys.length d] w fun e w' => e = .returned (.bool (decide (xs = ys))) ∧ ∃ n, w' = w.drewN n := by
  by_cases hl : xs.length = ys.length
  · have h := eqBytes_same a b c d xs ys w ha hb hl hm
    rw [← hl]
    exact h
  · refine (eqBytes_len a b xs.length ys.length c d w (by simp; omega)).mono ?_
    rintro e w' ⟨rfl, rfl⟩
    exact ⟨ret_bool (Eq.symm (decide_eq_false fun h => hl (by rw [h]))), 0, rfl⟩

/-- The mark at a place. -/
def markAt (i : Nat) : Nat := (165 ^^^ i) % 256
/-- The marks behind a list of so many bytes. -/
def marks (n : Nat) : List Nat := (List.range 80).map fun (j : Nat) => markAt (n + j)
theorem marks_length (n : Nat) : (marks n).length = 80 := by simp [marks]
theorem marks_get (n j : Nat) (h : j < 80) : (marks n)[j]? = some (markAt (n + j)) := by simp [marks, h]
theorem mark_eq (i : Nat) (h : i ≤ 9223372036854775807) : IntKind.u8.wrap (bits BinOp.xor IntKind.i64 165 (i : Int)) = ((markAt i : Nat) : Int) := by
  have hx : 165 ^^^ i < 2 ^ 63 := Nat.xor_lt_two_pow (by omega) (by omega)
  have e : bits BinOp.xor IntKind.i64 165 (i : Int) = ((165 ^^^ i : Nat) : Int) := by
    show IntKind.i64.wrap ((BitVec.ofInt 64 (((165 : Nat)) : Int) ^^^ BitVec.ofInt 64 (i : Int)).toNat : Int) = _
    rw [BitVec.toNat_xor, ofInt_u64 165 (by omega), ofInt_u64 i (by omega), IntKind.wrap_i64]
    omega
  rw [e, IntKind.wrap_u8']
  unfold markAt
  omega

/-- The head of a row of the call's own. -/
theorem OwnB.head {w : World} {g : Nat} {bs sp : List Nat} (h : OwnB w g (bs ++ sp)) (hx : ∀ x ∈ bs, x < 256) : Sl w (some ⟨g, 0, none⟩) bs := by
  refine .inr ⟨g, 0, rfl, h.lt, fun i x hi => ⟨?_, hx x (List.mem_of_getElem? hi)⟩⟩
  rw [Nat.zero_add]
  exact h.cell i x (by rw [List.getElem?_append_left (List.getElem?_eq_some_iff.1 hi).1]; exact hi)

theorem markAt_lt (i : Nat) : markAt i < 256 := Nat.mod_lt _ (by omega)

theorem sl_of_owns {W : World} {base : Nat} {v : Value} {bs : List Nat} (h : W.ownsRow base 5 1 v bs.length (bs.map B8)) (hx : ∀ x ∈ bs, x < 256) : ∃ a cap, v = .slice a bs.length cap ∧ Sl W a bs := by
  rcases h.2 with ⟨rfl, h0⟩ | ⟨g, cap, cur, rfl, _, hg, hn, _, hs, hc⟩
  · exact ⟨none, 0, by rw [h0], .inl (List.eq_nil_of_length_eq_zero h0)⟩
  · refine ⟨_, cap, rfl, .inr ⟨g, 0, rfl, (Array.getElem?_eq_some_iff.1 hg).1, fun i x hx' => ⟨?_, hx x (List.mem_of_getElem? hx')⟩⟩⟩
    have h1 : (bs.map B8)[i]? = some (B8 x) := by rw [List.getElem?_map, hx']; rfl
    have h2 : i < bs.length := (List.getElem?_eq_some_iff.1 hx').1
    rw [← hc, List.getElem?_take, if_pos (by omega)] at h1
    simp only [Nat.zero_add, World.cell?, hg]
    simpa [B8] using h1

theorem owns_of_ownB {W : World} {base g : Nat} {bs : List Nat} (h : OwnB W g bs) (hb : base ≤ g) (hm : bs.length ≤ maxLen) : W.ownsRow base 5 1 (.slice (some ⟨g, 0, none⟩) bs.length bs.length) bs.length (bs.map B8) :=
  ⟨by simp, .inr ⟨g, bs.length, _, rfl, hb, h, Nat.le_refl _, hm, by simp, by rw [List.take_of_length_le (by simp)]⟩⟩

theorem src {w w' : World} {ad : Addr} {bs : List Nat} (h : Sl w (some ad) bs) (hb : Below w.heap.size w w') : ∀ j u, (bs.map B8)[j]? = some u → w'.cell? (ad.add j) = some u := by
  intro j u hu
  rcases h with rfl | ⟨b, off, he, hl, hs⟩
  · simp at hu
  · cases he
    rw [List.getElem?_map] at hu
    obtain ⟨x, hx, rfl⟩ := Option.map_eq_some_iff.1 hu
    have e : (⟨b, off, none⟩ : Addr).add j = ⟨b, off + j, none⟩ := by simp [Addr.add]
    rw [e]
    exact (hb.cell (p := ⟨b, off + j, none⟩) hl).trans (hs j x hx).1

/-- 'append(x, y...)' on bytes, x the call's own, y whatever came in or was made. -/
theorem wpList_app_bytes {w : World} {ops : Array Oper} {rest : List Oper} {o : Oper} {a : Act} {Q : Exit → Act → World → Prop} (hgd : o.guard = none) (s x : Operand)
    (ho : o.op = .call { callee := .builtin .append, args := #[s, x], argTypes := #[33, 33] })
    (base : Nat) (v : Value) (xs : List Nat) (hs : a.eval s = v) (hown : w.ownsRow base 5 1 v xs.length (xs.map B8))
    (a1 : Option Addr) (c : Nat) (ys : List Nat) (hx : a.eval x = .slice a1 ys.length c) (hnil : a1 = none → c = 0) (hys : Sl w a1 ys) (hb : xs.length + ys.length ≤ 140737488355328) (hbase : base ≤ w.heap.size)
    (h : ∀ v' w', w'.ownsRow base 5 1 v' (xs ++ ys).length ((xs ++ ys).map B8) → Below base w w' → wpList Try.prog ops Q rest (a.put o.dst v') w') : wpList Try.prog ops Q (o :: rest) a w := by
  obtain ⟨i0, hi, hz0, hz1, hz2⟩ := info_parts Try.info5
  cases a1 with
  | none =>
    obtain rfl : ys = [] := by
      rcases hys with h0 | ⟨b, off, h0, _⟩
      · exact h0
      · cases h0
    rw [hnil rfl] at hx
    refine wpList_append_own_none hgd s x 33 ho base 5 i0 1 Try.underlying33 hi v xs.length (xs.map B8) hs hown hx (h v w ?_ (Below.refl _ _))
    simpa using hown
  | some ad =>
    refine wpList_append_own w hgd s x 33 ho base 5 i0 (.int .u8 0) 1 1 Try.underlying33 hi hz0 hz1 hz2 rfl (by omega) v xs.length (xs.map B8) hs hown ad ys.length c (ys.map B8) hx (by simp) (src hys (Below.refl _ _)) (B8_one ys)
      (by unfold maxLen; omega) (by omega) hbase fun v' w' h1 h2 _ => h v' w' ?_ ?_
    · simpa using h1
    · exact (Below.refl _ _).grown h2 hbase fun k e => (hown.lt k e).1

/-- 'bits.Sum(x)', the one part laid in a list of its own. -/
theorem sum_one (W : World) (a : Option Addr) (cap : Nat) (bs : List Nat) (h : Sl W a bs) (hl : bs.length ≤ maxLen) :
    Calls Try.prog 74 #[.slice (some ⟨W.heap.size, 0, none⟩) 1 1] (W.alloc (.cells #[.slice a bs.length cap] 33)) fun e w' => e = .returned (.int .u32 (moreV 0 bs)) ∧ Below W.heap.size W w' := by
  have hB : Below W.heap.size W (W.alloc (.cells #[.slice a bs.length cap] 33)) := (Below.refl _ _).alloc (Nat.le_refl _) _
  have hr : SlR (W.alloc (.cells #[.slice a bs.length cap] 33)) (some ⟨W.heap.size, 0, none⟩) [bs] := by
    refine .inr ⟨_, _, rfl, by simp, fun i r hx => ?_⟩
    match i, hx with
    | 0, hx => simp at hx; subst hx; exact ⟨a, cap, by simp, h.below hB, hl⟩
    | n + 1, hx => simp at hx
  have hs := sum_any (some ⟨W.heap.size, 0, none⟩) 1 [bs] _ hr (by unfold maxLen; simp)
  have e : sumV [bs] = moreV 0 bs := by simp [sumV]
  rw [e] at hs
  refine hs.mono ?_
  rintro e w' ⟨rfl, rfl⟩
  exact ⟨rfl, hB⟩

end Go.Proofs.Ytgfgihpkbbjkfaa
namespace Go.Proofs.Ytgfgihpkbbjkfaa
open Go.RowKit Go.Shelf
set_option linter.unusedVariables false

theorem index_byteS (g o i len cap : Nat) (hi : i < len) (w : World) : (Instr.indexAt 33 (.slice (some ⟨g, o, none⟩) len cap) (.int .i64 (i : Int))).run Try.prog w = .ok (.pointer (some ⟨g, o + i, none⟩)) w := by
  have h := index_at (t := 33) (e := 5) (sz := 1) Try.underlying33 (by kernel_rfl) g o i len cap hi w
  rwa [Nat.mul_one] at h
end Go.Proofs.Ytgfgihpkbbjkfaa
namespace Go.Proofs.Ytgfgihpkbbjkfaa
open Go.RowKit
set_option linter.unusedVariables false

theorem Try.info22 : (Try.prog.info? 33).map (fun i => (i.zero, i.size, i.bytes)) = some (some (.slice none 0 0), 1, 24) := by kernel_rfl

theorem ownsRow_below {W W' : World} {base : Nat} {e : TypeId} {size : Nat} {v : Value} {k : Nat} {xs : List Value} (h : W.ownsRow base e size v k xs) (hb : Below W.heap.size W W') : W'.ownsRow base e size v k xs := by
  refine ⟨h.1, ?_⟩
  rcases h.2 with h2 | ⟨g, cap, cur, hv, hg, hh, r⟩
  · exact .inl h2
  · exact .inr ⟨g, cap, cur, hv, hg, (hb.block g (Array.getElem?_eq_some_iff.1 hh).1).trans hh, r⟩

/-- Bytes that lie ahead of the call's own memory, or in a block of bytes. -/
def Piece (W : World) (base : Nat) (a : Option Addr) (bs : List Nat) : Prop :=
  bs = [] ∨ ∃ b off, a = some ⟨b, off, none⟩ ∧ b < W.heap.size ∧ (b < base ∨ ∃ cur fr, W.heap[b]? = some (.cells cur 5 fr)) ∧ Seg W b off bs

theorem Piece.sl {W : World} {base : Nat} {a : Option Addr} {bs : List Nat} (h : Piece W base a bs) : Sl W a bs := by
  rcases h with h | ⟨b, off, ha, hl, _, hs⟩
  · exact .inl h
  · exact .inr ⟨b, off, ha, hl, hs⟩
theorem Piece.of_block {W W' : World} {base : Nat} {a : Option Addr} {bs : List Nat} (h : Piece W base a bs) (hs : W.heap.size ≤ W'.heap.size) (hk : ∀ b, b < W.heap.size → (b < base ∨ ∃ cur fr, W.heap[b]? = some (.cells cur 5 fr)) → W'.heap[b]? = W.heap[b]?) : Piece W' base a bs := by
  rcases h with h | ⟨b, off, ha, hl, ht, hg⟩
  · exact .inl h
  · have e := hk b hl ht
    refine .inr ⟨b, off, ha, Nat.lt_of_lt_of_le hl hs, ?_, fun i x hx => ⟨(World.cell?_of_block (w := W) (a := ⟨b, off + i, none⟩) e).trans (hg i x hx).1, (hg i x hx).2⟩⟩
    rcases ht with ht | ⟨cur, fr, ht⟩
    · exact .inl ht
    · exact .inr ⟨cur, fr, e.trans ht⟩
theorem Piece.below {W W' : World} {base : Nat} {a : Option Addr} {bs : List Nat} (h : Piece W base a bs) (hb : Below W.heap.size W W') : Piece W' base a bs :=
  h.of_block hb.size fun b hl _ => hb.block b hl
theorem Piece.grown {W W' : World} {base : Nat} {a : Option Addr} {bs : List Nat} {v : Value} {k : Nat} {xs : List Value} (h : Piece W base a bs) (hown : W.ownsRow base 33 1 v k xs) (hg : W.grownBy W' v.ownBlock) : Piece W' base a bs := by
  refine h.of_block hg.size fun b hl ht => hg.block b hl fun e => ?_
  rcases hown.2 with ⟨rfl, _⟩ | ⟨g, cap, cur, rfl, hb, hh, _⟩
  · simp [Value.ownBlock] at e
  · obtain rfl : b = g := by simpa [Value.ownBlock] using e
    rcases ht with ht | ⟨c2, fr, ht⟩
    · omega
    · rw [hh] at ht; simp at ht
theorem OwnB.piece {W : World} {g : Nat} {bs : List Nat} (h : OwnB W g bs) (base : Nat) (hx : ∀ x ∈ bs, x < 256) : Piece W base (some ⟨g, 0, none⟩) bs :=
  .inr ⟨g, 0, rfl, h.lt, .inr ⟨_, _, h⟩, fun i x hi => ⟨by rw [Nat.zero_add]; exact h.cell i x hi, hx x (List.mem_of_getElem? hi)⟩⟩

/-- Cells that hold slices of these bytes. -/
def Ties (W : World) (base : Nat) (cs : List Value) (rs : List (List Nat)) : Prop :=
  cs.length = rs.length ∧ ∀ (i : Nat) (r : List Nat), rs[i]? = some r → ∃ ai ci, cs[i]? = some (.slice ai r.length ci) ∧ Piece W base ai r ∧ r.length ≤ maxLen

theorem Ties.nil (W : World) (base : Nat) : Ties W base [] [] := ⟨rfl, fun i r h => by simp at h⟩
theorem Ties.below {W W' : World} {base : Nat} {cs : List Value} {rs : List (List Nat)} (h : Ties W base cs rs) (hb : Below W.heap.size W W') : Ties W' base cs rs :=
  ⟨h.1, fun i r hr => by obtain ⟨ai, ci, h1, h2, h3⟩ := h.2 i r hr; exact ⟨ai, ci, h1, h2.below hb, h3⟩⟩
theorem Ties.grown {W W' : World} {base : Nat} {cs : List Value} {rs : List (List Nat)} {v : Value} {k : Nat} {xs : List Value} (h : Ties W base cs rs) (hown : W.ownsRow base 33 1 v k xs) (hg : W.grownBy W' v.ownBlock) : Ties W' base cs rs :=
  ⟨h.1, fun i r hr => by obtain ⟨ai, ci, h1, h2, h3⟩ := h.2 i r hr; exact ⟨ai, ci, h1, h2.grown hown hg, h3⟩⟩
theorem Ties.snoc {W : World} {base : Nat} {cs : List Value} {rs : List (List Nat)} (h : Ties W base cs rs) {a : Option Addr} {r : List Nat} (c : Nat) (hp : Piece W base a r) (hl : r.length ≤ maxLen) : Ties W base (cs ++ [.slice a r.length c]) (rs ++ [r]) := by
  refine ⟨by simp [h.1], fun i r' hr => ?_⟩
  by_cases hi : i < rs.length
  · rw [List.getElem?_append_left hi] at hr
    rw [List.getElem?_append_left (by rw [h.1]; exact hi)]
    exact h.2 i r' hr
  · rw [List.getElem?_append_right (by omega)] at hr
    rw [List.getElem?_append_right (by rw [h.1]; omega), h.1]
    have h0 : i - rs.length = 0 := by
      have := (List.getElem?_eq_some_iff.1 hr).1
      simp at this
      omega
    rw [h0] at hr ⊢
    simp at hr
    subst hr
    exact ⟨a, c, by simp, hp, hl⟩
theorem slr_of_owns {W : World} {base : Nat} {v : Value} {cs : List Value} {rs : List (List Nat)} (h : W.ownsRow base 33 1 v cs.length cs) (ht : Ties W base cs rs) : ∃ a cap, v = .slice a rs.length cap ∧ SlR W a rs := by
  rcases h.2 with ⟨rfl, h0⟩ | ⟨g, cap, cur, rfl, _, hg, hn, _, hs, hc⟩
  · rw [ht.1] at h0
    exact ⟨none, 0, by rw [h0], .inl (List.eq_nil_of_length_eq_zero h0)⟩
  · refine ⟨_, cap, by rw [ht.1], .inr ⟨g, 0, rfl, (Array.getElem?_eq_some_iff.1 hg).1, fun i r hr => ?_⟩⟩
    obtain ⟨ai, ci, h1, h2, h3⟩ := ht.2 i r hr
    refine ⟨ai, ci, ?_, h2.sl, h3⟩
    have hi : i < cs.length := (List.getElem?_eq_some_iff.1 h1).1
    rw [← hc, List.getElem?_take, if_pos (by omega)] at h1
    simp only [Nat.zero_add, World.cell?, hg]
    simpa using h1

end Go.Proofs.Ytgfgihpkbbjkfaa
namespace Go.Proofs.Ytgfgihpkbbjkfaa
open Go.RowKit
set_option linter.unusedVariables false

theorem flat_at {rs : List (List Nat)} {i : Nat} {r : List Nat} (h : rs[i]? = some r) : (rs.take i).flatten.length + r.length ≤ rs.flatten.length := by
  have e := List.take_append_drop (i + 1) rs
  have l := congrArg (fun l => l.flatten.length) e
  simp only [List.flatten_append, List.length_append, List.take_add_one, h, Option.toList_some, List.flatten_cons, List.flatten_nil, List.append_nil] at l
  omega
theorem flat_next {rs : List (List Nat)} {i : Nat} {r : List Nat} (h : rs[i]? = some r) : (rs.take (i + 1)).flatten = (rs.take i).flatten ++ r := by
  simp [List.take_add_one, h]



end Go.Proofs.Ytgfgihpkbbjkfaa
namespace Go.Proofs.Ytgfgihpkbbjkfaa
open Go.RowKit
set_option linter.unusedVariables false

theorem ret_int' {k : IntKind} {a b : Int} (h : a = b) : Ending.returned (.int k a) = .returned (.int k b) := by rw [h]

/-- The number of so many bytes at a place, and the error's number. -/
def takeV (bs : List Nat) (p : Int) (n : Nat) : Nat × Int :=
  if p < 0 ∨ (bs.length : Int) - n < p then (0, 6) else (leV ((bs.drop p.toNat).take n), 0)
theorem takeV_lt (bs : List Nat) (p : Int) (n : Nat) (h : ∀ x ∈ bs, x < 256) : (takeV bs p n).1 < 256 ^ n := by
  unfold takeV
  split
  · exact Nat.pow_pos (by omega)
  · refine Nat.lt_of_lt_of_le (leV_lt _ fun x hx => h x (List.mem_of_mem_drop (List.mem_of_mem_take hx))) (Nat.pow_le_pow_right (by omega) (List.length_take_le _ _))
theorem leB_mod (n v : Nat) : leB n (v % 256 ^ n) = leB n v := by
  induction n generalizing v with
  | zero => rfl
  | succ n ih =>
    simp only [leB]
    have e1 : v % 256 ^ (n + 1) % 256 = v % 256 := Nat.mod_mod_of_dvd v ⟨256 ^ n, by rw [Nat.pow_succ, Nat.mul_comm]⟩
    have e2 : v % 256 ^ (n + 1) / 256 = v / 256 % 256 ^ n := by rw [Nat.pow_succ, Nat.mul_comm, Nat.mod_mul_right_div_self]
    rw [e1, e2, ih]

theorem take64_any (a : Option Addr) (cap : Nat) (bs : List Nat) (p : Int) (w : World) (hg : Sl w a bs) (hl : bs.length ≤ maxLen) :
    Calls Try.prog 85 #[.slice a bs.length cap, .int .i64 p] w fun e w' => e = .returned (.tuple #[.int .u64 (takeV bs p 8).1, .int .i64 (takeV bs p 8).2]) ∧ w' = w := by
  unfold takeV
  by_cases h1 : p < 0
  · rw [if_pos (.inl h1)]; exact take64_low a bs.length cap w p h1
  · by_cases h2 : (bs.length : Int) - 8 < p
    · rw [if_pos (.inr h2)]; exact take64_high a bs.length cap w p hl (by omega) h2
    · rw [if_neg (by intro h; rcases h with h | h; exact h1 h; exact h2 h)]
      obtain ⟨q, rfl⟩ := Int.eq_ofNat_of_zero_le (show 0 ≤ p by omega)
      exact take64_good a cap q bs w hg hl (by omega)

end Go.Proofs.Ytgfgihpkbbjkfaa
namespace Go.Proofs.Ytgfgihpkbbjkfaa
open Go.RowKit
set_option linter.unusedVariables false

theorem shr_byte (v k : Nat) : (v : Int) / 2 ^ (8 * k) % 256 = ((v / 256 ^ k % 256 : Nat) : Int) := by
  have e : (2 : Int) ^ (8 * k) = ((256 ^ k : Nat) : Int) := by rw [Int.pow_mul, Int.natCast_pow]; rfl
  rw [e, ← Int.natCast_ediv]
  omega
theorem leB_take (n v k x : Nat) (h : k < n) (hx : x = v / 256 ^ k % 256) : (leB n v).take (k + 1) = (leB n v).take k ++ [x] := by
  rw [List.take_add_one, leB_get n v k h, hx]; rfl



theorem xor_half (a b : Nat) : (a ^^^ b) / 2 = a / 2 ^^^ b / 2 := Nat.xor_div_two
theorem xor_low (a b : Nat) : (a ^^^ b) % 2 = (a % 2 + b % 2) % 2 := by
  have e : (a ^^^ b) % 2 ^ 1 = a % 2 ^ 1 ^^^ b % 2 ^ 1 := Nat.xor_mod_two_pow
  rw [Nat.pow_one] at e
  rw [e]
  rcases Nat.mod_two_eq_zero_or_one a with h1 | h1 <;> rcases Nat.mod_two_eq_zero_or_one b with h2 | h2 <;> rw [h1, h2] <;> rfl
def refStep (r y : Nat) : Nat := if y % 2 = r % 2 then r / 2 else r / 2 ^^^ 2197175160
theorem refStep_eq (r y : Nat) : bitStep (r ^^^ y) = refStep r y ^^^ (y / 2) := by
  unfold bitStep refStep
  rw [xor_low, xor_half]
  by_cases h : y % 2 = r % 2
  · rw [if_neg (by omega), if_pos h]
  · rw [if_pos (by omega), if_neg h, Nat.xor_assoc, Nat.xor_comm (y / 2), ← Nat.xor_assoc]
theorem refStep_lt (r y : Nat) (h : r < 4294967296) : refStep r y < 4294967296 := by
  unfold refStep
  split
  · omega
  · exact xor_lt32 _ _ (by omega) (by omega)
theorem refSteps_next {z R x k : Nat} (h : bitSteps k z = R ^^^ x / 2 ^ k) : bitSteps (k + 1) z = refStep R (x / 2 ^ k) ^^^ x / 2 ^ (k + 1) := by
  show bitStep (bitSteps k z) = _
  rw [h, refStep_eq, Nat.pow_succ, Nat.div_div_eq_div_mul]
theorem refSteps_end {z R x : Nat} (hx : x < 256) (h : bitSteps 8 z = R ^^^ x / 2 ^ 8) : bitSteps 8 z = R := by
  rw [h, Nat.div_eq_of_lt (by omega), Nat.xor_zero]

theorem ref_inv (s : Nat) (h : s < 4294967296) : bits BinOp.xor IntKind.u64 (s : Int) 4294967295 = ((4294967295 ^^^ s : Nat) : Int) := by
  rw [Nat.xor_comm]; exact u64_xor_nat s 4294967295 (by omega) (by omega)
theorem ref_mix (r : Nat) (h : r < 4294967296) : bits BinOp.xor IntKind.u64 (r : Int) 2197175160 = ((r ^^^ 2197175160 : Nat) : Int) :=
  u64_xor_nat r 2197175160 (by omega) (by omega)
theorem ref_bit (x k : Nat) : (x : Int) / 2 ^ k = ((x / 2 ^ k : Nat) : Int) := by rw [Int.natCast_ediv, Int.natCast_pow]; rfl


end Go.Proofs.Ytgfgihpkbbjkfaa
namespace Go.Proofs.Ytgfgihpkbbjkfaa
open Go.RowKit
set_option linter.unusedVariables false

theorem qownsRow_base {W : World} {base base' : Nat} {e : TypeId} {size : Nat} {v : Value} {k : Nat} {xs : List Value} (h : W.ownsRow base e size v k xs) (hb : base' ≤ base) : W.ownsRow base' e size v k xs := by
  refine ⟨h.1, ?_⟩
  rcases h.2 with h2 | ⟨g, cap, cur, hv, hg, r⟩
  · exact .inl h2
  · exact .inr ⟨g, cap, cur, hv, Nat.le_trans hb hg, r⟩
theorem qpair_slr (W : World) (a0 a1 : Option Addr) (c0 c1 : Nat) (x0 x1 : List Nat) (h0 : Sl W a0 x0) (h1 : Sl W a1 x1) (l0 : x0.length ≤ maxLen) (l1 : x1.length ≤ maxLen) :
    SlR (W.alloc (.cells #[.slice a0 x0.length c0, .slice a1 x1.length c1] 33)) (some ⟨W.heap.size, 0, none⟩) [x0, x1] := by
  have hB : Below W.heap.size W (W.alloc (.cells #[.slice a0 x0.length c0, .slice a1 x1.length c1] 33)) := (Below.refl _ _).alloc (Nat.le_refl _) _
  refine .inr ⟨_, _, rfl, by simp, fun i r hx => ?_⟩
  match i, hx with
  | 0, hx => simp at hx; subst hx; exact ⟨a0, c0, by simp, h0.below hB, l0⟩
  | 1, hx => simp at hx; subst hx; exact ⟨a1, c1, by simp, h1.below hB, l1⟩
  | n + 2, hx => simp at hx
end Go.Proofs.Ytgfgihpkbbjkfaa
